/- A slice of items in memory; the document's own answers of layer 7: All. -/
import Derived.Test.YtjjccoliknngcaaOrcE
namespace Go.Proofs.Ytjjccoliknngcaa
open Go.RowKit

/-- An item: keys, root, whether forged, pairs. -/
structure Itm where
  ks : List Nat
  root : Nat
  f : Bool
  l : List Pr
def Itm.ok (t : List Pr) (i : Itm) : Bool := checkO t i.ks i.root i.f i.l
/-- Four cells read as an item. -/
def ItAt (w : World) (a : Addr) (i : Itm) : Prop := ∃ K P kc pc, w.cell? a = some (.slice K i.ks.length kc) ∧ w.cell? ⟨a.block, a.off + 1, none⟩ = some (.int .u64 (i.root : Int)) ∧ w.cell? ⟨a.block, a.off + 2, none⟩ = some (.bool i.f) ∧ w.cell? ⟨a.block, a.off + 3, none⟩ = some (.slice P i.l.length pc) ∧ Wds w w.heap.size (.slice K i.ks.length kc) i.ks ∧ Prs w w.heap.size (.slice P i.l.length pc) i.l
def ItRow (w : World) (v : Value) (is : List Itm) : Prop := ∃ A c, v = .slice A is.length c ∧ is.length ≤ c ∧ (0 < is.length → ∃ ad : Addr, A = some ad ∧ ad.block < w.heap.size ∧ ∀ j i, is[j]? = some i → ItAt w (ad.add (j * 4)) i)
theorem ItRow.nil (w : World) : ItRow w (.slice none 0 0) [] := ⟨none, 0, rfl, Nat.le_refl _, fun h => absurd h (by simp)⟩
theorem ItRow.on {w w' : World} {v : Value} {is : List Itm} (h : ItRow w v is) (hb : Below w.heap.size w w') : ItRow w' v is := by
  obtain ⟨A, c, hv, hc, ha⟩ := h
  refine ⟨A, c, hv, hc, fun h0 => ?_⟩
  obtain ⟨ad, e, hbl, hcell⟩ := ha h0
  refine ⟨ad, e, Nat.lt_of_lt_of_le hbl hb.size, fun j i hj => ?_⟩
  obtain ⟨K, P, kc, pc, c0, c1, c2, c3, hk, hp⟩ := hcell j i hj
  have q : ∀ o, w'.cell? ⟨(ad.add (j * 4)).block, o, none⟩ = w.cell? ⟨(ad.add (j * 4)).block, o, none⟩ := fun o => hb.cell (p := ⟨_, o, none⟩) (by show (ad.add (j * 4)).block < _; rw [add_block]; exact hbl)
  refine ⟨K, P, kc, pc, ?_, (q _).trans c1, (q _).trans c2, (q _).trans c3, hk.on hb, hp.on hb⟩
  exact (hb.cell (p := ad.add (j * 4)) (by rw [add_block]; exact hbl)).trans c0
theorem ItRow.form {w : World} {v : Value} {is : List Itm} (h : ItRow w v is) : ∃ A c, v = .slice A is.length c ∧ is.length ≤ c := by
  obtain ⟨A, c, hv, hc, _⟩ := h
  exact ⟨A, c, hv, hc⟩
theorem ItRow.read {w : World} {A : Option Addr} {n c k : Nat} {is : List Itm} (h : ItRow w (.slice A n c) is) (hk : k < is.length) : ∃ ad : Addr, A = some ad ∧ ItAt w (ad.add (k * 4)) is[k] := by
  obtain ⟨A', c', hv, _, ha⟩ := h
  injection hv with h1 h2 h3
  subst h1
  obtain ⟨ad, e, _, hc⟩ := ha (by omega)
  exact ⟨ad, e, hc k _ (List.getElem?_eq_getElem hk)⟩
/-- All items are short enough. -/
def Short (is : List Itm) : Prop := is.length ≤ 1000 ∧ ∀ i ∈ is, i.ks.length ≤ 100000 ∧ i.l.length ≤ 100000

set_option maxHeartbeats 2000000 in
theorem orAll_any (v u : Value) (t : List Pr) (is : List Itm) (w : World) (hv : Prs w w.heap.size v t) (hu : ItRow w u is) (h9 : t.length ≤ 100000) (hs : Short is) :
    Calls Try.prog 24 #[v, u] w fun e w' => e = .returned (.bool (is.all (Itm.ok t))) ∧ Below w.heap.size w w' := by
  obtain ⟨A, c, rfl, hc⟩ := hv.form
  obtain ⟨B, d, rfl, hd⟩ := hu.form
  have h1000 := hs.1
  obtain ⟨X, hX⟩ : ∃ X, is.all (Itm.ok t) = X := ⟨_, rfl⟩
  rw [hX]
  have HX := Lib.hid hX
  clear hX
  go_enter Try.func24, Try.ntmps24
  go_wp2_with fail
  go_loopw [5] (fun i wr => ∃ k : Nat, k ≤ is.length ∧ i = .int .i64 k ∧ (∀ x (hx : x < k) (hk : x < is.length), Itm.ok t is[x] = true) ∧ Below w.heap.size w wr) (fun i _ => is.length - (intOf i).toNat)
  case atStart => exact ⟨0, Nat.zero_le _, rfl, fun x hx => by omega, Below.refl _ _⟩
  case round =>
    obtain ⟨k, hk, rfl, hd, hb⟩ := hrel
    by_cases hlk : k < is.length
    · obtain ⟨ad, rfl, K, P, kc, pc, c0, c1, c2, c3, qk, qp⟩ := (hu.on hb).read hlk
      have hsh := hs.2 _ (List.getElem_mem hlk)
      have cC := orCheck_any _ t K P kc pc _ is[k].root is[k].f _ wr (hv.on hb) qk qp h9 hsh.1 hsh.2
      have HD := Lib.hid (show Itm.ok t is[k] = true → ∀ x (hx : x < k + 1) (hk : x < is.length), Itm.ok t is[x] = true from fun h x hx hxl => by
        by_cases e : x = k
        · subst e; exact h
        · exact hd x (by omega) hxl)
      have HF := Lib.hid (show Itm.ok t is[k] = false → X = false from fun h => by
        rw [← HX.out, List.all_eq_false]
        exact ⟨_, List.getElem_mem hlk, by rw [h]; simp⟩)
      have e : checkO t is[k].ks is[k].root is[k].f is[k].l = Itm.ok t is[k] := rfl
      rw [e] at cC
      clear e
      generalize Itm.ok t is[k] = vb at *
      clear hd hsh qk qp
      generalize is[k].ks.length = m1 at *
      generalize is[k].l.length = m2 at *
      generalize is[k].root = m3 at *
      generalize is[k].f = m4 at *
      go_wp2_with fail
      with_reducible refine cC.mono ?_
      rintro e w7 ⟨rfl, b7⟩
      have hb7 := hb.trans (b7.mono hb.size)
      clear cC c0 c1 c2 c3 b7
      cases vb
      · have hXf := HF.out rfl
        subst hXf
        go_wp2_with fail
        go_ret
        exact ⟨rfl, hb7⟩
      · have HD2 := Lib.hid (HD.out rfl)
        clear HD HF
        go_wp2_with fail
        go_roundw
        case rel => exact ⟨k + 1, by omega, by go_num, HD2.out, hb7⟩
        case measure => simp [intOf]; omega
    · obtain rfl : k = is.length := by omega
      have hXt : X = true := by
        rw [← HX.out, List.all_eq_true]
        intro i hi
        obtain ⟨j, hj, rfl⟩ := List.mem_iff_getElem.1 hi
        exact hd j hj hj
      subst hXt
      clear hd
      go_wp2_with fail
      go_ret
      exact ⟨rfl, hb⟩
end Go.Proofs.Ytjjccoliknngcaa
