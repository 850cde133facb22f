/- The walk of TokenKeys. -/
import Derived.Test.YtgkihgcclkkbeaaTokS
import Derived.OpenShut
namespace Go.Proofs.Ytgkihgcclkkbeaa
open Go.RowKit Go.Shelf

theorem info_tok : (Try.prog.info? 24).map (fun i => (i.zero, i.size, i.bytes)) = some (some (.agg #[.bool false, .slice none 0 0]), 2, 32) := by kernel_rfl
theorem pick5_40 (c : Int) (w : World) (hc : I64 c) : Calls Try.prog 21 #[.int .i64 c, .int .i64 40] w fun e w' => e = .returned (.int .i64 (pickN c 40 : Int)) ∧ w = w' := pick5_any c 40 w hc (by decide) (by decide)
/-- Which keys there were. -/
def hadRow (ks : List Nat) : List Value := (List.range 40).map fun k => .bool (ks.contains k)
theorem hadRow_nil : hadRow [] = [.bool false, .bool false, .bool false, .bool false, .bool false, .bool false, .bool false, .bool false, .bool false, .bool false, .bool false, .bool false, .bool false, .bool false, .bool false, .bool false, .bool false, .bool false, .bool false, .bool false, .bool false, .bool false, .bool false, .bool false, .bool false, .bool false, .bool false, .bool false, .bool false, .bool false, .bool false, .bool false, .bool false, .bool false, .bool false, .bool false, .bool false, .bool false, .bool false, .bool false] := by rfl
theorem hadRow_get (ks : List Nat) (k : Nat) (h : k < 40) : (hadRow ks)[k]? = some (.bool (ks.contains k)) := by
  unfold hadRow
  rw [List.getElem?_map, List.getElem?_range h]; rfl
theorem hadRow_set (ks : List Nat) (k : Nat) (_h : k < 40) : (hadRow ks).set k (.bool true) = hadRow (ks ++ [k]) := by
  apply List.ext_getElem
  · simp [hadRow]
  · intro i h1 h2
    simp only [hadRow, List.getElem_set, List.getElem_map, List.getElem_range]
    by_cases hik : k = i
    · subst hik; simp
    · rw [if_neg hik]
      simp
      intro e
      exact absurd e.symm hik
theorem Prs.set_other {w : World} {B : Nat} {v : Value} {l : List Pr} (h : Prs w B v l) (p : Addr) (hp : ∀ m, w.cell? p ≠ some (.int .u64 m)) (u : Value) : Prs (w.setCell p u) B v l := by
  obtain ⟨A, c', hv, hc, ha⟩ := h
  refine ⟨A, c', hv, hc, fun h0 => ?_⟩
  obtain ⟨ad, e, hb, hcell⟩ := ha h0
  refine ⟨ad, e, hb, fun j s hs => ?_⟩
  obtain ⟨c1, c2⟩ := hcell j s hs
  rw [World.cell?_setCell_other _ _ _ _ (fun e => hp _ (e ▸ c1)), World.cell?_setCell_other _ _ _ _ (fun e => hp _ (e ▸ c2))]
  exact ⟨c1, c2⟩
theorem Reads.set_other {w : World} {xs : List (Bool × Value)} {ts : List Tok} (h : Reads w xs ts) (p : Addr) (hp : ∀ m, w.cell? p ≠ some (.int .u64 m)) (u : Value) : Reads (w.setCell p u) xs ts :=
  ⟨h.1, fun j x t hx ht => ⟨(h.2 j x t hx ht).1, by have := (h.2 j x t hx ht).2.set_other p hp u; simpa [World.setCell] using this⟩⟩
theorem tok_cells_one (xs : List (Bool × Value)) {w : World} {ts : List Tok} (h : Reads w xs ts) : ∀ u ∈ xs.flatMap tokCells, u.oneCell' = true := by
  intro u hu
  obtain ⟨x, hx, hux⟩ := List.mem_flatMap.1 hu
  obtain ⟨j, hj, rfl⟩ := List.mem_iff_getElem.1 hx
  obtain ⟨_, h2⟩ := h.2 j _ _ (List.getElem?_eq_getElem hj) (List.getElem?_eq_getElem (by rw [← h.1]; exact hj))
  obtain ⟨A, c, e, _⟩ := h2.form
  simp [tokCells] at hux
  rcases hux with rfl | rfl
  · rfl
  · rw [e]; rfl
theorem One_new (k r : Nat) (w : World) :
    Calls Try.prog 24 #[.int .u64 k, .int .u64 r] w fun e w' => e = .returned (.agg #[.bool false, .slice (some ⟨w.heap.size + 1, 0, none⟩) 1 1]) ∧ Tk w' (.agg #[.bool false, .slice (some ⟨w.heap.size + 1, 0, none⟩) 1 1]) false [(k, r)] ∧ Below w.heap.size w w' := by
  go_enter Try.func24, Try.ntmps24
  go_wp2_with fail
  refine bodyPost_ret (v := .agg #[.bool false, .slice (some ⟨w.heap.size + 1, 0, none⟩) 1 1]) (by simp [results, Try.results24, go_sem]) rfl ?_
  refine ⟨rfl, ⟨_, rfl, ?_⟩, ((Below.refl _ w).alloc (Nat.le_refl _) _).alloc (by simp) _⟩
  have := RowAt.new (w.alloc (.cells #[.bool false, .slice (some ⟨w.heap.size + 1, 0, none⟩) 1 1] 24)) 50 #[.int .u64 k, .int .u64 r]
  rw [World.size_alloc] at this
  exact Prs.row (l := [(k, r)]) this
/-- The elements' own rows do not lie in that block. -/
def Far (xs : List (Bool × Value)) (row : Option Nat) : Prop := ∀ x ∈ xs, ∀ ad n c, x.2 = .slice (some ad) n c → some ad.block ≠ row
theorem Prs.grown {w w' : World} {row : Option Nat} {v : Value} {l : List Pr} (h : Prs w w.heap.size v l) (hg : w.grownBy w' row) (far : ∀ ad n c, v = .slice (some ad) n c → some ad.block ≠ row) : Prs w' w'.heap.size v l := by
  obtain ⟨A, c', hv, hc, ha⟩ := h
  refine ⟨A, c', hv, hc, fun h0 => ?_⟩
  obtain ⟨ad, e, hb, hcell⟩ := ha h0
  subst e
  have hbl : w'.heap[ad.block]? = w.heap[ad.block]? := hg.block ad.block hb (far ad _ _ hv)
  refine ⟨ad, rfl, Nat.lt_of_lt_of_le hb hg.size, fun j s hs => ?_⟩
  obtain ⟨c1, c2⟩ := hcell j s hs
  exact ⟨(World.cell?_of_block (w := w) (by rw [add_block]; exact hbl)).trans c1, (World.cell?_of_block (w := w) (by rw [add_block]; exact hbl)).trans c2⟩
theorem Reads.grown {w w' : World} {row : Option Nat} {xs : List (Bool × Value)} {ts : List Tok} (h : Reads w xs ts) (hg : w.grownBy w' row) (far : Far xs row) : Reads w' xs ts :=
  ⟨h.1, fun j x t hx ht => ⟨(h.2 j x t hx ht).1, (h.2 j x t hx ht).2.grown hg (far x (List.mem_of_getElem? hx))⟩⟩
theorem Reads.lt {w : World} {xs : List (Bool × Value)} {ts : List Tok} (h : Reads w xs ts) (hp : ∀ t ∈ ts, 0 < t.2.length) : ∀ x ∈ xs, ∀ ad n c, x.2 = .slice (some ad) n c → ad.block < w.heap.size := by
  intro x hx ad n c e
  obtain ⟨j, hj, rfl⟩ := List.mem_iff_getElem.1 hx
  have hjt : j < ts.length := by rw [← h.1]; exact hj
  obtain ⟨_, h2⟩ := h.2 j _ _ (List.getElem?_eq_getElem hj) (List.getElem?_eq_getElem hjt)
  rw [e] at h2
  obtain ⟨ad', e', hb, _⟩ := h2.at_ (k := 0) (hp _ (List.getElem_mem hjt))
  injection e' with e'
  subst e'
  exact hb
theorem onesOf_pos (root : Nat) (ks : List Nat) : ∀ t ∈ onesOf root ks, 0 < t.2.length := fun t ht => by
  simp [onesOf] at ht
  obtain ⟨k, _, rfl⟩ := ht
  simp
theorem Prs.setBox {w : World} {B G : Nat} {t : TypeId} {b : Bool} {X : Option Addr} {n c : Nat} {v : Value} {l : List Pr} (h : Prs w B v l) (r : RowAt w G t [.bool b, .slice X n c]) (i : Nat) (u : Value) : Prs (w.setCell ⟨G, i, none⟩ u) B v l := by
  have hne : ∀ (q : Addr) (m : Int), w.cell? q = some (.int .u64 m) → (⟨G, i, none⟩ : Addr) ≠ q := fun q m hq e => by
    rw [← e, r.cell] at hq
    match i, hq with
    | 0, hq => simp at hq
    | 1, hq => simp at hq
    | _ + 2, hq => simp at hq
  obtain ⟨A, c', hv, hc, ha⟩ := h
  refine ⟨A, c', hv, hc, fun h0 => ?_⟩
  obtain ⟨ad, e, hb, hcell⟩ := ha h0
  refine ⟨ad, e, hb, fun j s hs => ?_⟩
  obtain ⟨c1, c2⟩ := hcell j s hs
  rw [World.cell?_setCell_other _ _ _ _ (hne _ _ c1), World.cell?_setCell_other _ _ _ _ (hne _ _ c2)]
  exact ⟨c1, c2⟩
theorem Tk.setBox {w : World} {G : Nat} {t : TypeId} {b : Bool} {X : Option Addr} {n c : Nat} {x : Value} {f : Bool} {l : List Pr} (h : Tk w x f l) (r : RowAt w G t [.bool b, .slice X n c]) (b' : Bool) (v' : Value) : Tk ((w.setCell ⟨G, 0, none⟩ (.bool b')).setCell ⟨G, 1, none⟩ v') x f l := by
  obtain ⟨v, hx, hv⟩ := h
  have h1 := hv.setBox r 0 (.bool b')
  have h2 := h1.setBox (r.set 0 (.bool b')) 1 v'
  exact ⟨v, hx, by simpa [World.setCell] using h2⟩
theorem tok_split (xs : List (Bool × Value)) (n : Nat) : xs.flatMap tokCells = (xs.take n).flatMap tokCells ++ (xs.drop n).flatMap tokCells := by rw [← List.flatMap_append, List.take_append_drop]
theorem tok_first {wr W : World} {g n : Nat} {xs : List (Bool × Value)} (HC : ∀ j u, (xs.flatMap tokCells)[j]? = some u → wr.cell? ((⟨g, 0, none⟩ : Addr).add j) = some u) (hg : g < wr.heap.size) (hb : Below wr.heap.size wr W) :
    ∀ j u, ((xs.take n).flatMap tokCells)[j]? = some u → W.cell? ((⟨g, 0, none⟩ : Addr).add j) = some u := fun j u hj => by
  have hjl : j < ((xs.take n).flatMap tokCells).length := by
    rcases Nat.lt_or_ge j ((xs.take n).flatMap tokCells).length with k | k
    · exact k
    · rw [List.getElem?_eq_none k] at hj; cases hj
  refine (hb.cell (p := (⟨g, 0, none⟩ : Addr).add j) (by rw [add_block]; exact hg)).trans (HC j u ?_)
  rw [tok_split xs n, List.getElem?_append_left hjl]; exact hj
theorem tok_rest {wr W : World} {g n : Nat} {xs : List (Bool × Value)} (HC : ∀ j u, (xs.flatMap tokCells)[j]? = some u → wr.cell? ((⟨g, 0, none⟩ : Addr).add j) = some u) (hg : g < wr.heap.size) (hb : Below wr.heap.size wr W) (hn : n ≤ xs.length) :
    ∀ j u, ((xs.drop n).flatMap tokCells)[j]? = some u → W.cell? (((⟨g, 0, none⟩ : Addr).add (n * 2)).add j) = some u := fun j u hj => by
  rw [add_add]
  refine (hb.cell (p := (⟨g, 0, none⟩ : Addr).add (n * 2 + j)) (by rw [add_block]; exact hg)).trans (HC (n * 2 + j) u ?_)
  have hl : ((xs.take n).flatMap tokCells).length = n * 2 := by rw [tokCells_length, List.length_take]; omega
  rw [tok_split xs n, List.getElem?_append_right (by omega), hl, Nat.add_sub_cancel_left]; exact hj
theorem onesOf_rot (root : Nat) (ks : List Nat) (n : Nat) : onesOf root (ks.drop n ++ ks.take n) = (onesOf root ks).drop n ++ (onesOf root ks).take n := by simp [onesOf, List.map_drop, List.map_take]
theorem keys_true {root : Nat} {m : List Pr} {x : List Nat} (h : keysT root m = (x, true)) : keysB root m = true ∧ x = m.map (·.1) := by
  unfold keysT at h
  split at h
  · rename_i h1
    rw [Bool.and_eq_true] at h1
    injection h with h2
    exact ⟨h1.2, h2.symm⟩
  · injection h with _ h2
    cases h2
theorem Elems.later {α : Type} {enc : α → Value} {wr : World} {A : Option Addr} {n c k : Nat} {l : List α} (h : Elems enc wr wr.heap.size (.slice A n c) l) (hk : k < l.length) :
    ∃ ad : Addr, A = some ad ∧ ∀ p : Later wr, p.W.cell? (ad.add k) = some (enc l[k]) := by
  obtain ⟨ad, rfl, _, _⟩ := h.at_ hk
  exact ⟨ad, rfl, fun p => by obtain ⟨_, e, _, h1⟩ := (h.on p.h).at_ hk; cases e; exact h1⟩
def Four (G g : Nat) (a b c d : Value) (W : World) : Prop := W.cell? ⟨G, 0, none⟩ = some a ∧ W.cell? ⟨G, 1, none⟩ = some b ∧ W.cell? ⟨g, 0, none⟩ = some c ∧ W.cell? ⟨g, 1, none⟩ = some d
theorem Four.on {G g : Nat} {a b c d : Value} {w w' : World} (h : Four G g a b c d w) (hb : Below w.heap.size w w') (hG : G < w.heap.size) (hg : g < w.heap.size) : Four G g a b c d w' :=
  ⟨(hb.cell (p := ⟨G, 0, none⟩) hG).trans h.1, (hb.cell (p := ⟨G, 1, none⟩) hG).trans h.2.1, (hb.cell (p := ⟨g, 0, none⟩) hg).trans h.2.2.1, (hb.cell (p := ⟨g, 1, none⟩) hg).trans h.2.2.2⟩
theorem far_cell {W : World} {p q : Addr} {u : Value} (h : W.cell? p = some u) (hne : q.block ≠ p.block) (v : Value) : (W.setCell q v).cell? p = some u :=
  (World.cell?_setCell_other _ _ _ _ (fun e => hne (by rw [e]))).trans h
theorem Four.set {G g B0 : Nat} {a b c d : Value} {w : World} (h : Four G g a b c d w) (hG : G < B0) (hg : g < B0) (u v : Value) : Four G g a b c d ((w.setCell ⟨B0, 0, none⟩ u).setCell ⟨B0, 1, none⟩ v) := by
  have n1 : B0 ≠ G := by omega
  have n2 : B0 ≠ g := by omega
  exact ⟨far_cell (far_cell h.1 n1 _) n1 _, far_cell (far_cell h.2.1 n1 _) n1 _, far_cell (far_cell h.2.2.1 n2 _) n2 _, far_cell (far_cell h.2.2.2 n2 _) n2 _⟩
theorem Four.alloc {G g : Nat} {a b c d : Value} {w : World} (h : Four G g a b c d w) (o : Obj) : Four G g a b c d (w.alloc o) := ⟨cellA h.1 o, cellA h.2.1 o, cellA h.2.2.1 o, cellA h.2.2.2 o⟩
theorem Four.drew {G g : Nat} {a b c d : Value} {w : World} (h : Four G g a b c d w) : Four G g a b c d w.drew := h
theorem onesOf_snoc (root : Nat) (ks : List Nat) (k : Nat) : onesOf root (ks ++ [k]) = onesOf root ks ++ [(false, [(k, root)])] := by simp [onesOf]

set_option maxHeartbeats 16000000 in
set_option maxRecDepth 100000 in
theorem tkeys_walk (raw : List Int) (root : Nat) (turn : Int) (v : Value) (w : World) (hv : Ints w w.heap.size v raw) (hI : ∀ r ∈ raw, I64 r) (l9 : raw.length ≤ maxLen) (hroot : root < 18446744073709551616) (hturn : I64 turn) :
    Calls Try.prog 6 #[v, .int .u64 (root : Int), .int .i64 turn] w fun e w' => e = .returned (.bool true) ∧ Below w.heap.size w w' := by
  obtain ⟨Av, cv, rfl, hcv⟩ := hv.form
  have l9' : raw.length ≤ 9223372036854775807 := l9
  obtain ⟨i0, hi, hz0, hz1, hz2⟩ := info_parts info_tok
  go_enter Try.func6, Try.ntmps6
  go_wp2_with fail
  with_reducible refine (awake_any _).mono ?_
  rintro e w1 ⟨rfl, hb1⟩
  replace hv := hv.on hb1
  obtain ⟨w2, hw2⟩ : ∃ w2, w2 = w1.alloc (.cells #[.bool false, .bool false, .bool false, .bool false, .bool false, .bool false, .bool false, .bool false, .bool false, .bool false, .bool false, .bool false, .bool false, .bool false, .bool false, .bool false, .bool false, .bool false, .bool false, .bool false, .bool false, .bool false, .bool false, .bool false, .bool false, .bool false, .bool false, .bool false, .bool false, .bool false, .bool false, .bool false, .bool false, .bool false, .bool false, .bool false, .bool false, .bool false, .bool false, .bool false] 53) := ⟨_, rfl⟩
  have hd0 : RowAt w2 w1.heap.size 53 (hadRow []) := by rw [hadRow_nil, hw2]; exact RowAt.new w1 53 #[.bool false, .bool false, .bool false, .bool false, .bool false, .bool false, .bool false, .bool false, .bool false, .bool false, .bool false, .bool false, .bool false, .bool false, .bool false, .bool false, .bool false, .bool false, .bool false, .bool false, .bool false, .bool false, .bool false, .bool false, .bool false, .bool false, .bool false, .bool false, .bool false, .bool false, .bool false, .bool false, .bool false, .bool false, .bool false, .bool false, .bool false, .bool false, .bool false, .bool false]
  have hb12 : Below w1.heap.size w1 w2 := by rw [hw2]; exact (Below.refl _ _).alloc (Nat.le_refl _) _
  have hz12 : w1.heap.size < w2.heap.size := hd0.lt
  have HW2 := Lib.hid hw2
  clear hw2
  go_wp2_with fail
  rw [← HW2.out]
  clear HW2
  go_loopw [8, 10] (fun o iv wr => ∃ (i : Nat) (ks : List Nat) (xs : List (Bool × Value)), i ≤ raw.length ∧ i ≤ 20 ∧ iv = .int .i64 (i : Int) ∧ ks.length ≤ i ∧ ks.Nodup ∧ (∀ k ∈ ks, k < 40) ∧ wr.ownsRow w2.heap.size 24 2 o ks.length (xs.flatMap tokCells) ∧ Reads wr xs (onesOf root ks) ∧ Far xs o.ownBlock ∧ RowAt wr w1.heap.size 53 (hadRow ks) ∧ Below w1.heap.size w1 wr ∧ w2.heap.size ≤ wr.heap.size) (fun _ iv _ => 20 - (intOf iv).toNat)
  case atStart => exact ⟨0, [], [], Nat.zero_le _, Nat.zero_le _, rfl, Nat.zero_le _, List.nodup_nil, (fun k h => by cases h), World.ownsRow_nil _ _ _ _, Reads.nil _, (fun x h => by cases h), hd0, hb12, Nat.le_refl _⟩
  case round =>
    obtain ⟨i, ks, xs, hir, hi20, rfl, hki, hnd, hk40, hown, hrd, hfar, hhd, hb, hz⟩ := hrel
    clear hd0 hb12
    by_cases hin : i < raw.length ∧ i < 20
    · obtain ⟨hlt, hlt20⟩ := hin
      have hi1 : ((i : Int) < (raw.length : Int)) = True := eq_true (by omega)
      have hi1n : (i < raw.length) = True := eq_true hlt
      have hi2 : ((i : Int) < 20) = True := eq_true (by omega)
      have hi2n : (i < 20) = True := eq_true hlt20
      obtain ⟨ad, rfl, _, hcell⟩ := (hv.below hb (Nat.le_refl _)).at_ hlt
      have cP := fun W => pick5_40 raw[i] W (hI _ (List.getElem_mem hlt))
      have hk := pickN_lt raw[i] 40 (by decide)
      generalize pickN raw[i] 40 = k at *
      generalize raw[i] = r at *
      have hk' : k < 40 := by omega
      have hc0 : wr.cell? ⟨w1.heap.size, k, none⟩ = some (.bool (ks.contains k)) := by rw [hhd.cell]; exact hadRow_get ks k hk'
      have hf0 := hhd.frozen k
      cases hck : ks.contains k
      · rw [hck] at hc0
        have hnk : k ∉ ks := by simpa using hck
        have hset := hhd.set k (.bool true)
        rw [hadRow_set ks k hk'] at hset
        have hownS := ownsRow_setCell_other hown (a := ⟨w1.heap.size, k, none⟩) (fun e => by have h5 := (hown.lt w1.heap.size e).1; omega) (.bool true)
        have hrdS := hrd.set_other ⟨w1.heap.size, k, none⟩ (fun m e => by rw [hc0] at e; cases e) (.bool true)
        have hbS := hb.setCell (p := ⟨w1.heap.size, k, none⟩) (Nat.le_refl _) (.bool true)
        have hwu : IntKind.u64.wrap (k : Int) = (k : Int) := IntWalk.u64_in _ (by omega)
        obtain ⟨wS, hwS⟩ : ∃ wS, wS = wr.setCell ⟨w1.heap.size, k, none⟩ (.bool true) := ⟨_, rfl⟩
        have hzS : w2.heap.size ≤ wS.heap.size := by rw [hwS]; simpa [World.setCell] using hz
        rw [← hwS] at hset hownS hrdS hbS
        have HWS := Lib.hid hwS
        clear hwS hown hrd hhd hb hck
        go_wp2_with fail
        with_reducible refine (cP _).mono ?_
        rintro e w3 ⟨rfl, rfl⟩
        go_wp2_with fail
        rw [← HWS.out]
        with_reducible refine (One_new k root _).mono ?_
        rintro e w4 ⟨rfl, t4, hb4⟩
        have hoS : ∀ g, u8.ownBlock = some g → g < wS.heap.size := fun g hg => (hownS.lt g hg).2
        have own4 := owns_below hownS hb4
        have rd4 := hrdS.on hb4
        have hd4 := hset.on hb4
        have hbw4 := bstep hbS hb4 hbS.size
        have hz4 := hb4.size
        have hown' : ∀ g, u8.ownBlock = some g → w2.heap.size ≤ g := fun g hg => (own4.lt g hg).1
        have hlt4 : wS.heap.size + 1 < w4.heap.size := by
          obtain ⟨ad', e', hb', _⟩ := t4.prs.at_ (k := 0) (by simp)
          injection e' with e'
          subst e'
          exact hb'
        clear hc0 hf0 hcell cP hset hownS hrdS hbS
        go_wp2_with (at_builtin; refine wpList_append_lies _ rfl _ _ 29 rfl w2.heap.size 24 i0 (.agg #[.bool false, .slice none 0 0]) 2 32 Try.underlying29 hi hz0 hz1 hz2 rfl (by decide) _ _ _ rfl (own4.alloc _) ⟨w4.heap.size, 0, none⟩ 1 1 [.bool false, .slice (some ⟨wS.heap.size + 1, 0, none⟩) 1 1] rfl rfl ?c1 ?c2 ?c0 ?c3 ?c4 ?c5 (w4.heap.size + 1) ?c6 ?_)
        case c1 =>
          intro j u hj
          match j, hj with
          | 0, hj => simp at hj; subst hj; simp [Addr.add]
          | 1, hj => simp at hj; subst hj; simp [Addr.add]
        case c2 => intro u hu0; simp at hu0; rcases hu0 with rfl | rfl <;> rfl
        case c0 => omega
        case c3 => unfold maxLen; omega
        case c4 => omega
        case c5 => simp; omega
        case c6 => simp
        intro g5 cap5 w5 own5 hgrow hat5 hlt5
        have hba : Below w4.heap.size w4 (w4.alloc (.cells #[.bool false, .slice (some ⟨wS.heap.size + 1, 0, none⟩) 1 1] 24)) := (Below.refl _ _).alloc (Nat.le_refl _) _
        have hltR := rd4.lt (onesOf_pos root ks)
        have rdx : Reads w4 (xs ++ [(false, .slice (some ⟨wS.heap.size + 1, 0, none⟩) 1 1)]) (onesOf root (ks ++ [k])) := by
          rw [onesOf_snoc]; exact rd4.append (.cons t4 (.nil _))
        have farx : Far (xs ++ [(false, .slice (some ⟨wS.heap.size + 1, 0, none⟩) 1 1)]) u8.ownBlock := fun x hx ad n c e => by
          rcases List.mem_append.1 hx with hx | hx
          · exact hfar x hx ad n c e
          · simp at hx
            subst hx
            injection e with e1
            injection e1 with e1
            subst e1
            intro e2
            have h7 : wS.heap.size + 1 < wS.heap.size := hoS _ e2.symm
            omega
        have rd5 := (rdx.on hba).grown hgrow farx
        have hlt9 := rdx.lt (onesOf_pos root (ks ++ [k]))
        have far5 : Far (xs ++ [(false, .slice (some ⟨wS.heap.size + 1, 0, none⟩) 1 1)]) (some g5) := fun x hx ad n c e e2 => by
          injection e2 with e2
          rcases hat5 with h | h
          · exact farx x hx ad n c e (by rw [h, e2])
          · have := hlt9 x hx ad n c e
            omega
        have hd5 := (hd4.alloc (.cells #[.bool false, .slice (some ⟨wS.heap.size + 1, 0, none⟩) 1 1] 24)).grown hgrow (fun e => by have := hown' _ e.symm; omega)
        have hb5 : Below w1.heap.size w1 w5 := (hbw4.alloc (by omega) _).grown hgrow (by simp; omega) (fun g hg => by have := hown' g hg; omega)
        have own6 : w5.ownsRow w2.heap.size 24 2 (.slice (some ⟨g5, 0, none⟩) (ks ++ [k]).length cap5) (ks ++ [k]).length ((xs ++ [(false, Value.slice (some ⟨wS.heap.size + 1, 0, none⟩) 1 1)]).flatMap tokCells) := by
          rw [List.flatMap_append, List.length_append]; exact own5
        have hnd5 : (ks ++ [k]).Nodup := by
          rw [List.nodup_append]
          exact ⟨hnd, by simp, fun a ha b hb => by simp at hb; subst hb; intro e; exact hnk (e ▸ ha)⟩
        have hk5 : ∀ q ∈ ks ++ [k], q < 40 := fun q hq => by
          rcases List.mem_append.1 hq with h | h
          · exact hk40 q h
          · simp at h; omega
        have hz5 : w2.heap.size ≤ w5.heap.size := by have := hgrow.size; simp at this; omega
        clear own5 hgrow own4 rd4 hd4 hbw4
        go_wp2_with fail
        go_roundw
        case rel => exact ⟨i + 1, ks ++ [k], _, by omega, by omega, by go_num, by rw [List.length_append]; simp; omega, hnd5, hk5, (by rw [List.length_append] at *; exact own6), rd5, far5, hd5, hb5, hz5⟩
        case measure => simp [intOf]; omega
      · rw [hck] at hc0
        clear hck
        go_wp2_with fail
        with_reducible refine (cP _).mono ?_
        rintro e w3 ⟨rfl, rfl⟩
        go_wp2_with fail
        go_roundw
        case rel => exact ⟨i + 1, ks, xs, by omega, by omega, by go_num, by omega, hnd, hk40, hown, hrd, hfar, hhd, hb, hz⟩
        case measure => simp [intOf]; omega
    · go_upto_region 5 with (fail)
      go_cut [32] from 25 to 32 (fun b wx => b = .bool false ∧ wx = wr)
      case first =>
        by_cases hlt : i < raw.length
        · have hi1 : ((i : Int) < (raw.length : Int)) = True := eq_true (by omega)
          have hi1n : (i < raw.length) = True := eq_true hlt
          have hi2 : ((i : Int) < 20) = False := eq_false (by omega)
          have hi2n : (i < 20) = False := eq_false (by omega)
          go_wp2_with fail
          go_meet
          exact ⟨rfl, rfl⟩
        · have hi1 : ((i : Int) < (raw.length : Int)) = False := eq_false (by omega)
          have hi1n : (i < raw.length) = False := eq_false hlt
          go_wp2_with fail
          go_meet
          exact ⟨rfl, rfl⟩
      case rest =>
        obtain ⟨rfl, hwc⟩ := hcut
        subst hwc
        obtain ⟨wr, hwr⟩ : ∃ wr, wr = wc := ⟨_, rfl⟩
        subst hwr
        have hl20 : ks.length ≤ 20 := by omega
        have hxl : xs.length = ks.length := by rw [hrd.1, onesOf_length]
        have hbw := bstep hb1 hb hb1.size
        have trL := TkRow.own (by rw [onesOf_length]; exact hown) hrd
        have cP := fun W => pick5_any turn ((ks.length : Int) + 1) W hturn (by omega) (by omega)
        have hP := pickN_lt turn ((ks.length : Int) + 1) (by omega)
        generalize pickN turn ((ks.length : Int) + 1) = P at *
        have hPl : P ≤ ks.length := by omega
        have hPx : P ≤ xs.length := by omega
        have hlrot : (ks.drop P ++ ks.take P).length = ks.length := by rw [List.length_append, List.length_drop, List.length_take]; omega
        have hprot : (ks.drop P ++ ks.take P).Perm ks := by
          have : (ks.drop P ++ ks.take P).Perm (ks.take P ++ ks.drop P) := List.perm_append_comm
          rw [List.take_append_drop] at this
          exact this
        obtain ⟨m, hM, hsm, hpm0⟩ := ones_merge root (ks.drop P ++ ks.take P) (by omega)
        have hpm : m.Perm (ks.map fun k => (k, root)) := hpm0.trans (hprot.map _)
        have hml : m.length = ks.length := by rw [hpm.length_eq, List.length_map]
        have hts9 : (onesOf root (ks.drop P ++ ks.take P)).length ≤ 1000000 := by rw [onesOf_length]; omega
        have HM := Lib.hid hM
        have HPM := Lib.hid hpm
        have HML := Lib.hid hml
        have HSM := Lib.hid hsm
        have HTR := Lib.hid (show ∀ (W : World) (base : Nat) (v : Value) (z : Nat), Below wr.heap.size wr W → W.ownsRow base 24 2 v z ((xs.drop P).flatMap tokCells ++ (xs.take P).flatMap tokCells) → TkRow W v (onesOf root (ks.drop P ++ ks.take P)) from fun W base v z hb ho => by
          have hz : z = (onesOf root (ks.drop P ++ ks.take P)).length := by
            have h1 := ho.1
            rw [List.length_append, tokCells_length, tokCells_length, List.length_drop, List.length_take] at h1
            rw [onesOf_length]
            omega
          rw [hz, ← List.flatMap_append] at ho
          refine TkRow.own ho ?_
          rw [onesOf_rot]
          exact ((hrd.drop P).append (hrd.take P)).on hb)
        clear hM hpm hpm0 hml hsm hprot hin hir hi20 hki
        obtain ⟨S, cap, hform, hcap, hSn, hSs⟩ : ∃ S cap, u8 = .slice S ks.length cap ∧ ks.length ≤ cap ∧ (S = none → ks.length = 0 ∧ cap = 0) ∧ (∀ ad, S = some ad → ∃ g, ad = ⟨g, 0, none⟩ ∧ g < wr.heap.size) := by
          rcases hown.2 with ⟨e1, e2⟩ | ⟨g, cap, cur, e1, _, hh, h4, _⟩
          · refine ⟨none, 0, by rw [e1, e2], by omega, fun _ => ⟨e2, rfl⟩, fun ad h => by cases h⟩
          · refine ⟨_, cap, e1, h4, (fun h => by cases h), fun ad h => ?_⟩
            injection h with h
            refine ⟨g, h.symm, ?_⟩
            rcases Nat.lt_or_ge g wr.heap.size with k | k
            · exact k
            · rw [Array.getElem?_eq_none k] at hh; cases hh
        subst hform
        go_wp2_with fail
        with_reducible refine (cP _).mono ?_
        rintro e w3 ⟨rfl, rfl⟩
        clear cP
        go_upto_region 12 with (fail)
        go_cut [13, 14] from 59 to 69 (fun pv ev wx => ∃ (G : Nat) (Am : Option Addr) (cm : Nat), pv = .pointer (some ⟨G, 0, none⟩) ∧ ev = .int .i64 0 ∧ RowAt wx G 24 [.bool false, .slice Am m.length cm] ∧ Tk wx (.agg #[.bool false, .slice Am m.length cm]) false m ∧ Below wr.heap.size wr wx)
        case first =>
          have hBd : Below wr.heap.size wr wr.drew := (Below.refl _ _).drew
          have hBda : Below wr.heap.size wr ((wr.alloc (.cells #[.bool false, .slice none 0 0] 24)).drew) := ((Below.refl _ _).alloc (Nat.le_refl _) _).drew
          have bxd : RowAt ((wr.alloc (.cells #[.bool false, .slice none 0 0] 24)).drew) wr.heap.size 24 [.bool false, .slice none 0 0] := RowAt.new wr 24 #[.bool false, .slice none 0 0]
          have hn1 : (P : Int) ≤ (ks.length : Int) := by omega
          have hn2 : (0 : Int) ≤ (P : Int) := by omega
          have hn3 : (P : Int) ≤ (cap : Int) := by omega
          cases S with
          | none =>
            obtain ⟨h00, rfl⟩ := hSn rfl
            obtain rfl : 0 = P := by omega
            have hks0 : ks = [] := List.eq_nil_of_length_eq_zero h00
            subst hks0
            simp only [List.length_nil] at *
            go_region_held3 (fun _ => True) (trivial)
              (first
                | (refine step_append_any rfl _ _ 29 rfl _ 24 i0 (.agg #[.bool false, .slice none 0 0]) 2 32 Try.underlying29 hi hz0 hz1 hz2 rfl (by decide) (.slice none 0 0) 0 [] rfl (World.ownsRow_nil _ _ _ _) none 0 0 ((xs.drop 0).flatMap tokCells) rfl (by rw [tokCells_length, List.length_drop, hxl] <;> omega) (by first | exact (fun h => absurd h (by omega)) | exact (fun h => absurd h (by omega))) (tok_cells_one _ (hrd.drop 0)) (by unfold maxLen; omega) (by omega) (Nat.le_refl _) ?_
                   intro S1 cap1 wA own1 grow1
                   simp only [Nat.zero_add, List.nil_append] at own1 ⊢
                   have hB1 : Below wr.heap.size wr wA := by first | exact Below.grown hBd grow1 (Nat.le_refl _) (fun k h => by cases h) | exact Below.grown hBda grow1 hBda.size (fun k h => by cases h)
                   try (have bx1 : RowAt wA wr.heap.size 24 [.bool false, .slice none 0 0] := RowAt.grown bxd grow1 (by simp [Value.ownBlock]))
                   try (have ob1 : ∀ k, (Value.slice S1 0 cap1).ownBlock = some k → wr.heap.size ≤ k := fun k h => Nat.le_trans hBd.size (own1.lt k h).1)
                   try (have ob1 : ∀ k, (Value.slice S1 0 cap1).ownBlock = some k → wr.heap.size ≤ k := fun k h => Nat.le_trans hBda.size (own1.lt k h).1))
                | (refine step_append_any rfl _ _ 29 rfl _ 24 i0 (.agg #[.bool false, .slice none 0 0]) 2 32 Try.underlying29 hi hz0 hz1 hz2 rfl (by decide) (.slice S1 0 cap1) 0 _ rfl (by first | exact own1 | exact own1.alloc _) none 0 0 ((xs.take 0).flatMap tokCells) rfl (by rw [tokCells_length, List.length_take, hxl] <;> omega) (by first | exact (fun h => absurd h (by omega)) | exact (fun h => absurd h (by omega))) (tok_cells_one _ (hrd.take 0)) (by unfold maxLen; omega) (by omega) (by have h6 := grow1.size; first | exact h6 | exact Nat.le_trans h6 (by simp)) ?_
                   intro S2 cap2 wB own2 grow2
                   have hB2 : Below wr.heap.size wr wB := by first | exact Below.grown hB1 grow2 hB1.size ob1 | exact Below.grown (hB1.alloc hB1.size _) grow2 (Nat.le_trans hB1.size (by simp)) ob1
                   have own2' := own2
                   rw [show 0 + 0 = 0 by omega] at own2'
                   have trx : TkRow wB (.slice S2 0 cap2) (onesOf root (([] : List Nat).drop 0 ++ ([] : List Nat).take 0)) := HTR.out wB _ _ _ hB2 own2'
                   have trxa := trx.on ((Below.refl _ wB).alloc (Nat.le_refl _) (.cells #[.bool false, .slice none 0 0] 24))
                   try (have bx2 : RowAt wB wr.heap.size 24 [.bool false, .slice none 0 0] := bx1.grown grow2 (fun e => by have h5 : (wr.alloc (.cells #[.bool false, .slice none 0 0] 24)).heap.size ≤ wr.heap.size := (own1.lt _ e.symm).1; rw [World.size_alloc] at h5; omega))
                   try (have bx2 : RowAt wB wA.heap.size 24 [.bool false, .slice none 0 0] := RowAt.grown (RowAt.new wA 24 #[.bool false, .slice none 0 0]) grow2 (fun e => by have h5 := (own1.lt _ e.symm).2; omega)))
                | ((with_reducible refine (Merge_eq _ _ _ 0 false m HM.out trx hts9 (onesOf_nine _ _)).mono ?_); rintro e w5 ⟨Am, cm, rfl, tm, hb5'⟩; have hb5 : Below wr.heap.size wr w5 := hB2.trans (hb5'.mono hB2.size); (try (have bx := bx2.on hb5'; obtain ⟨z0, z1⟩ := bx.two; have zf0 := bx.frozen 0; have zf1 := bx.frozen 1)))
                | ((with_reducible refine (Merge_eq _ _ _ 0 false m HM.out trxa hts9 (onesOf_nine _ _)).mono ?_); rintro e w5 ⟨Am, cm, rfl, tm, hb5'⟩; have hb5 : Below wr.heap.size wr w5 := (hB2.alloc hB2.size _).trans (hb5'.mono (Nat.le_trans hB2.size (by simp))); have bx := (RowAt.new wB 24 #[.bool false, .slice none 0 0]).on hb5'; obtain ⟨z0, z1⟩ := RowAt.two bx; have zf0 := RowAt.frozen bx 0; have zf1 := RowAt.frozen bx 1))
            · go_simp
              go_wp2_with fail
              go_meet
              exact ⟨_, Am, cm, rfl, rfl, RowAt.new w5 24 #[.bool false, .slice Am m.length cm], tm.alloc _, hb5.alloc hb5.size _⟩
            all_goals
              go_simp
              go_wp2_with fail
              go_meet
              exact ⟨_, Am, cm, rfl, rfl, (RowAt.set bx 0 (.bool false)).set 1 (.slice Am m.length cm), tm.setBox bx false _, (hb5.setCell (p := ⟨_, 0, none⟩) (by first | exact Nat.le_refl _ | exact hB1.size | exact hB2.size) _).setCell (p := ⟨_, 1, none⟩) (by first | exact Nat.le_refl _ | exact hB1.size | exact hB2.size) _⟩
          | some ad =>
            obtain ⟨g, rfl, hg⟩ := hSs ad rfl
            have HC := hown.cells (g := g) rfl
            by_cases hcn : cap = P
            · obtain rfl : P = cap := hcn.symm
              go_region_held3 (fun _ => True) (trivial)
                (first
                  | (refine step_append_any rfl _ _ 29 rfl _ 24 i0 (.agg #[.bool false, .slice none 0 0]) 2 32 Try.underlying29 hi hz0 hz1 hz2 rfl (by decide) (.slice none 0 0) 0 [] rfl (World.ownsRow_nil _ _ _ _) (some ⟨g, 0, none⟩) 0 0 ((xs.drop P).flatMap tokCells) rfl (by rw [tokCells_length, List.length_drop, hxl] <;> omega) (by first | exact (fun h => absurd h (by omega)) | exact (fun h => absurd h (by omega))) (tok_cells_one _ (hrd.drop P)) (by unfold maxLen; omega) (by omega) (Nat.le_refl _) ?_
                     intro S1 cap1 wA own1 grow1
                     simp only [Nat.zero_add, List.nil_append] at own1 ⊢
                     have hB1 : Below wr.heap.size wr wA := by first | exact Below.grown hBd grow1 (Nat.le_refl _) (fun k h => by cases h) | exact Below.grown hBda grow1 hBda.size (fun k h => by cases h)
                     try (have bx1 : RowAt wA wr.heap.size 24 [.bool false, .slice none 0 0] := RowAt.grown bxd grow1 (by simp [Value.ownBlock]))
                     try (have ob1 : ∀ k, (Value.slice S1 0 cap1).ownBlock = some k → wr.heap.size ≤ k := fun k h => Nat.le_trans hBd.size (own1.lt k h).1)
                     try (have ob1 : ∀ k, (Value.slice S1 0 cap1).ownBlock = some k → wr.heap.size ≤ k := fun k h => Nat.le_trans hBda.size (own1.lt k h).1))
                  | (refine step_append_any rfl _ _ 29 rfl _ 24 i0 (.agg #[.bool false, .slice none 0 0]) 2 32 Try.underlying29 hi hz0 hz1 hz2 rfl (by decide) (.slice S1 0 cap1) 0 _ rfl (by first | exact own1 | exact own1.alloc _) (some ⟨g, 0, none⟩) P P ((xs.take P).flatMap tokCells) rfl (by rw [tokCells_length, List.length_take, hxl] <;> omega) (by first | exact (fun _ => ⟨_, rfl, tok_first HC hg hB1⟩) | exact (fun _ => ⟨_, rfl, tok_first HC hg (hB1.alloc hB1.size _)⟩)) (tok_cells_one _ (hrd.take P)) (by unfold maxLen; omega) (by omega) (by have h6 := grow1.size; first | exact h6 | exact Nat.le_trans h6 (by simp)) ?_
                     intro S2 cap2 wB own2 grow2
                     have hB2 : Below wr.heap.size wr wB := by first | exact Below.grown hB1 grow2 hB1.size ob1 | exact Below.grown (hB1.alloc hB1.size _) grow2 (Nat.le_trans hB1.size (by simp)) ob1
                     have own2' := own2
                     rw [show 0 + P = P by omega] at own2'
                     have trx : TkRow wB (.slice S2 P cap2) (onesOf root (ks.drop P ++ ks.take P)) := HTR.out wB _ _ _ hB2 own2'
                     have trxa := trx.on ((Below.refl _ wB).alloc (Nat.le_refl _) (.cells #[.bool false, .slice none 0 0] 24))
                     try (have bx2 : RowAt wB wr.heap.size 24 [.bool false, .slice none 0 0] := bx1.grown grow2 (fun e => by have h5 : (wr.alloc (.cells #[.bool false, .slice none 0 0] 24)).heap.size ≤ wr.heap.size := (own1.lt _ e.symm).1; rw [World.size_alloc] at h5; omega))
                     try (have bx2 : RowAt wB wA.heap.size 24 [.bool false, .slice none 0 0] := RowAt.grown (RowAt.new wA 24 #[.bool false, .slice none 0 0]) grow2 (fun e => by have h5 := (own1.lt _ e.symm).2; omega)))
                  | ((with_reducible refine (Merge_eq _ _ _ 0 false m HM.out trx hts9 (onesOf_nine _ _)).mono ?_); rintro e w5 ⟨Am, cm, rfl, tm, hb5'⟩; have hb5 : Below wr.heap.size wr w5 := hB2.trans (hb5'.mono hB2.size); (try (have bx := bx2.on hb5'; obtain ⟨z0, z1⟩ := bx.two; have zf0 := bx.frozen 0; have zf1 := bx.frozen 1)))
                  | ((with_reducible refine (Merge_eq _ _ _ 0 false m HM.out trxa hts9 (onesOf_nine _ _)).mono ?_); rintro e w5 ⟨Am, cm, rfl, tm, hb5'⟩; have hb5 : Below wr.heap.size wr w5 := (hB2.alloc hB2.size _).trans (hb5'.mono (Nat.le_trans hB2.size (by simp))); have bx := (RowAt.new wB 24 #[.bool false, .slice none 0 0]).on hb5'; obtain ⟨z0, z1⟩ := RowAt.two bx; have zf0 := RowAt.frozen bx 0; have zf1 := RowAt.frozen bx 1))
              · go_simp
                go_wp2_with fail
                go_meet
                exact ⟨_, Am, cm, rfl, rfl, RowAt.new w5 24 #[.bool false, .slice Am m.length cm], tm.alloc _, hb5.alloc hb5.size _⟩
              all_goals
                go_simp
                go_wp2_with fail
                go_meet
                exact ⟨_, Am, cm, rfl, rfl, (RowAt.set bx 0 (.bool false)).set 1 (.slice Am m.length cm), tm.setBox bx false _, (hb5.setCell (p := ⟨_, 0, none⟩) (by first | exact Nat.le_refl _ | exact hB1.size | exact hB2.size) _).setCell (p := ⟨_, 1, none⟩) (by first | exact Nat.le_refl _ | exact hB1.size | exact hB2.size) _⟩
            · have hcn1 : (cap = P) = False := eq_false hcn
              have hcn2 : (cap - P = 0) = False := eq_false (by omega)
              go_region_held3 (fun _ => True) (trivial)
                (first
                  | (refine step_append_any rfl _ _ 29 rfl _ 24 i0 (.agg #[.bool false, .slice none 0 0]) 2 32 Try.underlying29 hi hz0 hz1 hz2 rfl (by decide) (.slice none 0 0) 0 [] rfl (World.ownsRow_nil _ _ _ _) (some ⟨g, P * 2, none⟩) (ks.length - P) (cap - P) ((xs.drop P).flatMap tokCells) rfl (by rw [tokCells_length, List.length_drop, hxl] <;> omega) (by first | exact (fun _ => ⟨_, rfl, fun j u hj => by have := tok_rest HC hg hBd hPx j u hj; rwa [addr0] at this⟩) | exact (fun _ => ⟨_, rfl, fun j u hj => by have := tok_rest HC hg hBda hPx j u hj; rwa [addr0] at this⟩)) (tok_cells_one _ (hrd.drop P)) (by unfold maxLen; omega) (by omega) (Nat.le_refl _) ?_
                     intro S1 cap1 wA own1 grow1
                     simp only [Nat.zero_add, List.nil_append] at own1 ⊢
                     have hB1 : Below wr.heap.size wr wA := by first | exact Below.grown hBd grow1 (Nat.le_refl _) (fun k h => by cases h) | exact Below.grown hBda grow1 hBda.size (fun k h => by cases h)
                     try (have bx1 : RowAt wA wr.heap.size 24 [.bool false, .slice none 0 0] := RowAt.grown bxd grow1 (by simp [Value.ownBlock]))
                     try (have ob1 : ∀ k, (Value.slice S1 (ks.length - P) cap1).ownBlock = some k → wr.heap.size ≤ k := fun k h => Nat.le_trans hBd.size (own1.lt k h).1)
                     try (have ob1 : ∀ k, (Value.slice S1 (ks.length - P) cap1).ownBlock = some k → wr.heap.size ≤ k := fun k h => Nat.le_trans hBda.size (own1.lt k h).1))
                  | (refine step_append_any rfl _ _ 29 rfl _ 24 i0 (.agg #[.bool false, .slice none 0 0]) 2 32 Try.underlying29 hi hz0 hz1 hz2 rfl (by decide) (.slice S1 (ks.length - P) cap1) (ks.length - P) _ rfl (by first | exact own1 | exact own1.alloc _) (some ⟨g, 0, none⟩) P cap ((xs.take P).flatMap tokCells) rfl (by rw [tokCells_length, List.length_take, hxl] <;> omega) (by first | exact (fun _ => ⟨_, rfl, tok_first HC hg hB1⟩) | exact (fun _ => ⟨_, rfl, tok_first HC hg (hB1.alloc hB1.size _)⟩)) (tok_cells_one _ (hrd.take P)) (by unfold maxLen; omega) (by omega) (by have h6 := grow1.size; first | exact h6 | exact Nat.le_trans h6 (by simp)) ?_
                     intro S2 cap2 wB own2 grow2
                     have hB2 : Below wr.heap.size wr wB := by first | exact Below.grown hB1 grow2 hB1.size ob1 | exact Below.grown (hB1.alloc hB1.size _) grow2 (Nat.le_trans hB1.size (by simp)) ob1
                     have own2' := own2
                     rw [show (ks.length - P) + P = ks.length by omega] at own2'
                     have trx : TkRow wB (.slice S2 ks.length cap2) (onesOf root (ks.drop P ++ ks.take P)) := HTR.out wB _ _ _ hB2 own2'
                     have trxa := trx.on ((Below.refl _ wB).alloc (Nat.le_refl _) (.cells #[.bool false, .slice none 0 0] 24))
                     try (have bx2 : RowAt wB wr.heap.size 24 [.bool false, .slice none 0 0] := bx1.grown grow2 (fun e => by have h5 : (wr.alloc (.cells #[.bool false, .slice none 0 0] 24)).heap.size ≤ wr.heap.size := (own1.lt _ e.symm).1; rw [World.size_alloc] at h5; omega))
                     try (have bx2 : RowAt wB wA.heap.size 24 [.bool false, .slice none 0 0] := RowAt.grown (RowAt.new wA 24 #[.bool false, .slice none 0 0]) grow2 (fun e => by have h5 := (own1.lt _ e.symm).2; omega)))
                  | ((with_reducible refine (Merge_eq _ _ _ 0 false m HM.out trx hts9 (onesOf_nine _ _)).mono ?_); rintro e w5 ⟨Am, cm, rfl, tm, hb5'⟩; have hb5 : Below wr.heap.size wr w5 := hB2.trans (hb5'.mono hB2.size); (try (have bx := bx2.on hb5'; obtain ⟨z0, z1⟩ := bx.two; have zf0 := bx.frozen 0; have zf1 := bx.frozen 1)))
                  | ((with_reducible refine (Merge_eq _ _ _ 0 false m HM.out trxa hts9 (onesOf_nine _ _)).mono ?_); rintro e w5 ⟨Am, cm, rfl, tm, hb5'⟩; have hb5 : Below wr.heap.size wr w5 := (hB2.alloc hB2.size _).trans (hb5'.mono (Nat.le_trans hB2.size (by simp))); have bx := (RowAt.new wB 24 #[.bool false, .slice none 0 0]).on hb5'; obtain ⟨z0, z1⟩ := RowAt.two bx; have zf0 := RowAt.frozen bx 0; have zf1 := RowAt.frozen bx 1))
              · go_simp
                go_wp2_with fail
                go_meet
                exact ⟨_, Am, cm, rfl, rfl, RowAt.new w5 24 #[.bool false, .slice Am m.length cm], tm.alloc _, hb5.alloc hb5.size _⟩
              all_goals
                go_simp
                go_wp2_with fail
                go_meet
                exact ⟨_, Am, cm, rfl, rfl, (RowAt.set bx 0 (.bool false)).set 1 (.slice Am m.length cm), tm.setBox bx false _, (hb5.setCell (p := ⟨_, 0, none⟩) (by first | exact Nat.le_refl _ | exact hB1.size | exact hB2.size) _).setCell (p := ⟨_, 1, none⟩) (by first | exact Nat.le_refl _ | exact hB1.size | exact hB2.size) _⟩
        case rest =>
          obtain ⟨wx, hwx⟩ : ∃ wx, wx = wc := ⟨_, rfl⟩
          subst hwx
          obtain ⟨G, Am, cm, rfl, rfl, rm, tm, hbx⟩ := hcut
          replace hown := owns_below hown hbx
          replace hrd := hrd.on hbx
          replace hhd := hhd.on hbx
          have hbwx := bstep hbw hbx hbw.size
          have lm : m.length ≤ 1000000 := by have := HML.out; omega
          obtain ⟨kk, hkk⟩ : ∃ kk : List Nat, kk = m.map (·.1) := ⟨_, rfl⟩
          have hK : keysT root m = (kk, true) := by rw [hkk]; exact ones_keys hnd (by omega) HSM.out HPM.out
          have hkl : kk.length = ks.length := by rw [hkk, List.length_map]; exact HML.out
          have hrise : ∀ i j (h : i < j) (hj : j < kk.length), kk[i] < kk[j] := fun i j h hj => by
            have := keysB_rise HSM.out (keys_true hK).1 i j h (by rw [hkk, List.length_map] at hj; exact hj)
            simp only [hkk, List.getElem_map]
            exact this
          have hmem : ∀ i (h : i < kk.length), kk[i] ∈ ks := fun i h => by
            have h1 : kk[i] ∈ m.map (·.1) := by rw [← hkk]; exact List.getElem_mem h
            have h2 := (HPM.out.map (·.1)).mem_iff.1 h1
            simpa [Function.comp_def] using h2
          have HK := Lib.hid hK
          have HKL := Lib.hid hkl
          have HRI := Lib.hid hrise
          have HME := Lib.hid hmem
          have hne : ((kk.length : Int) != (ks.length : Int)) = false := by rw [hkl, bne]; simp
          have lk9 : kk.length ≤ 1000000 := by omega
          obtain ⟨x0, x1⟩ := rm.two
          clear hkk hK hkl hrise hmem
          go_wp2_with fail
          with_reducible refine (Keys_eq _ false m root _ kk true HK.out tm lm).mono ?_
          rintro e w6 ⟨A15, c15, rfl, wk, hb6⟩
          replace hown := owns_below hown hb6
          replace hrd := hrd.on hb6
          replace hhd := hhd.on hb6
          replace rm := rm.on hb6
          replace tm := tm.on hb6
          have hbw6 := bstep hbwx hb6 hbwx.size
          clear x0 x1 hb6
          go_wp2_with fail
          clear hne
          go_loopw [17] (fun qv wr => ∃ q : Nat, q ≤ kk.length ∧ qv = .int .i64 (q : Int) ∧ Below w6.heap.size w6 wr) (fun qv _ => kk.length - (intOf qv).toNat)
          case atStart => exact ⟨0, Nat.zero_le _, rfl, Below.refl _ _⟩
          case round =>
            obtain ⟨q, hq, rfl, hbq⟩ := hrel
            obtain ⟨wq, hwq⟩ : ∃ wq, wq = wr := ⟨_, rfl⟩
            have hbwq := bstep hbw6 hbq hbw6.size
            replace hown := owns_below hown hbq
            replace hrd := hrd.on hbq
            replace hhd := hhd.on hbq
            replace rm := rm.on hbq
            replace tm := tm.on hbq
            replace wk := wk.on hbq
            by_cases hlt : q < kk.length
            · obtain ⟨ak, rfl, k1⟩ := wk.later hlt
              have hm1 := HME.out q hlt
              have hq40 := hk40 _ hm1
              have hcd : ∀ p : Later wr, p.W.cell? ⟨w1.heap.size, kk[q], none⟩ = some (.bool true) := fun p => by
                rw [(hhd.on p.h).cell, hadRow_get ks _ hq40, List.contains_iff_mem.2 hm1]
              have hg1 : ((40 : Int) ≤ (kk[q] : Int)) = False := eq_false (by omega)
              have hg2 : (40 ≤ kk[q]) = False := eq_false (by omega)
              have hg3 : (kk[q] < 40) = True := eq_true hq40
              have hg4 : ((kk[q] : Int) < 40) = True := eq_true (by omega)
              rcases Nat.eq_zero_or_pos q with h0 | h0
              · have hz1 : ((0 : Int) < (q : Int)) = False := eq_false (by omega)
                have hz2 : (0 < q) = False := eq_false (by omega)
                clear h0 hm1
                generalize kk[q] = kq at *
                go_wp2_with fail
                refine wp_region_later (by kernel_rfl) (by kernel_rfl) ?_
                repeat (go_big_quiet_step (fail))
                refine wpQuiet_nil ?_
                intro _ hw'
                obtain ⟨pq, rfl⟩ := hw'
                have hbn := bstep hbq pq.h hbq.size
                clear k1 hcd
                generalize pq.W = w7 at *
                go_wp2_with fail
                go_roundw
                case rel => exact ⟨q + 1, by omega, by go_num, hbn⟩
                case measure => simp [intOf]; omega
              · obtain ⟨j, hqj⟩ : ∃ j, q = j + 1 := ⟨q - 1, by omega⟩
                have hjlt : j < kk.length := by omega
                have hjq : j < q := by omega
                obtain ⟨_, ee, k2⟩ := wk.later hjlt
                cases ee
                have hrs := HRI.out j q hjq hlt
                have hr1 : ((kk[q] : Int) ≤ ((kk[j]'hjlt : Nat) : Int)) = False := eq_false (by omega)
                have hr2 : (kk[q] ≤ kk[j]'hjlt) = False := eq_false (by omega)
                have ej : (q : Int) - 1 = (j : Int) := by omega
                have ew : IntKind.i64.wrap ((q : Int) - 1) = (j : Int) := by rw [ej]; exact IntWalk.i64_in _ (by omega)
                have ew2 : IntKind.i64.wrap (j : Int) = (j : Int) := IntWalk.i64_in _ (by omega)
                have hz1 : ((0 : Int) < (q : Int)) = True := eq_true (by omega)
                have hz2 : (0 < q) = True := eq_true (by omega)
                have hjl : (j : Int) < (kk.length : Int) := by omega
                have hj0 : (0 : Int) ≤ (j : Int) := by omega
                clear hrs hm1 h0 hqj
                generalize kk[q] = kq at *
                generalize kk[j]'hjlt = kp at *
                go_wp2_with fail
                refine wp_region_later (by kernel_rfl) (by kernel_rfl) ?_
                repeat (go_big_quiet_step (fail))
                refine wpQuiet_nil ?_
                intro _ hw'
                obtain ⟨pq, rfl⟩ := hw'
                have hbn := bstep hbq pq.h hbq.size
                clear k1 k2 hcd
                generalize pq.W = w7 at *
                go_wp2_with fail
                go_roundw
                case rel => exact ⟨q + 1, by omega, by go_num, hbn⟩
                case measure => simp [intOf]; omega
            · have hlt1 : (q < kk.length) = False := eq_false hlt
              obtain ⟨x0, x1⟩ := rm.two
              by_cases h00 : ks.length = 0
              · have hz1 : ((ks.length : Int) == 0) = true := by rw [h00]; rfl
                have hz2 : ((m.length : Int) == 0) = true := by rw [HML.out, h00]; rfl
                clear h00
                go_wp2_with fail
                go_ret
                exact ⟨rfl, hbwq⟩
              · have hz1 : ((ks.length : Int) == 0) = false := by rw [show (0 : Int) = ((0 : Nat) : Int) from rfl, beq_int]; exact decide_eq_false h00
                cases S with
                | none => exact absurd (hSn rfl).1 h00
                | some ad0 =>
                  obtain ⟨g, hge, -⟩ := hSs ad0 rfl
                  subst hge
                  have HC := hown.cells (g := g) rfl
                  have hx0 : 0 < xs.length := by omega
                  have hks0 : 0 < ks.length := by omega
                  obtain ⟨e01, hP0⟩ := hrd.2 0 xs[0] (false, [(ks[0], root)]) (List.getElem?_eq_getElem hx0) (by simp [onesOf, List.getElem?_eq_getElem hks0])
                  obtain ⟨d1, d2⟩ := tokCells_get xs 0 _ (List.getElem?_eq_getElem hx0)
                  have q0 := HC _ _ d1
                  have q1 := HC _ _ d2
                  rw [e01] at q0
                  have hmk := List.getElem_mem hks0
                  obtain ⟨m2, hM2, hK3, hm2l⟩ := ones_twice (root := root) hmk (by omega) HSM.out HPM.out
                  generalize ks[0] = k0 at *
                  generalize xs[0] = y0 at *
                  obtain ⟨A0, c0, hy0, -⟩ := hP0.form
                  simp only [addr0] at q0 q1
                  rw [hy0] at q1 hP0
                  have t0 : Tk wr (.agg #[.bool false, .slice A0 1 c0]) false [(k0, root)] := ⟨_, rfl, hP0⟩
                  have hgl : g < wr.heap.size := World.block_lt_of_cell? wr ⟨g, 0, none⟩ q0
                  have hGl : G < wr.heap.size := rm.lt
                  have h4 : Four G g (.bool false) (.slice Am m.length cm) (.bool false) (.slice A0 1 c0) wr := ⟨x0, x1, q0, q1⟩
                  obtain ⟨Z, hZ⟩ : ∃ Z : List Nat, Z = [] := ⟨_, rfl⟩
                  obtain ⟨r1, hr1⟩ : ∃ r1, r1 = (root + 1) % 18446744073709551616 := ⟨_, rfl⟩
                  have HK2 := Lib.hid (show keysT r1 m = (Z, false) by rw [hZ]; exact ones_other hks0 (by omega) HPM.out)
                  have HK3 := Lib.hid (show keysT root m2 = (Z, false) by rw [hZ]; exact hK3)
                  have HM2 := Lib.hid hM2
                  have hr1a : ((root : Int) + 1) % 18446744073709551616 = (r1 : Int) := by rw [hr1]; omega
                  have hr1b : IntKind.u64.wrap ((root : Int) + 1) = (r1 : Int) := by rw [IntKind.wrap_u64]; exact hr1a
                  have lm2 : m2.length ≤ 1000000 := by omega
                  have HKP := Lib.hid hks0
                  clear hr1 hZ hK3 hM2 hP0 d1 d2 hy0 e01 hown hrd hhd HC q0 q1 h00 hx0 hks0 hmk hwq
                  go_wp2_with fail
                  with_reducible refine (Keys_eq _ false m r1 _ Z false HK2.out tm lm).mono ?_
                  rintro e w8 ⟨A18, c18, rfl, -, hb8⟩
                  replace h4 := h4.on hb8 hGl hgl
                  replace tm := tm.on hb8
                  replace t0 := t0.on hb8
                  replace hGl : G < w8.heap.size := Nat.lt_of_lt_of_le hGl hb8.size
                  replace hgl : g < w8.heap.size := Nat.lt_of_lt_of_le hgl hb8.size
                  have hbw8 := bstep hbwq hb8 hbwq.size
                  clear x0 x1 rm hr1a hr1b
                  go_upto_region 24 with (fail)
                  go_cut [20, 21] from 143 to 150 (fun pv ev wx => ∃ (G2 : Nat) (Aq : Option Addr) (cq : Nat), pv = .pointer (some ⟨G2, 0, none⟩) ∧ ev = .int .i64 0 ∧ RowAt wx G2 24 [.bool false, .slice Aq m2.length cq] ∧ Tk wx (.agg #[.bool false, .slice Aq m2.length cq]) false m2 ∧ Below w8.heap.size w8 wx)
                  case first =>
                    have HTR2 := Lib.hid (show ∀ (W : World) (g : Nat), Below w8.heap.size w8 W → RowAt W g 24 [.bool false, .slice Am m.length cm, .bool false, .slice A0 1 c0] → TkRow W (.slice (some ⟨g, 0, none⟩) 2 2) [(false, m), (false, [(k0, root)])] from fun W g hb hr => TkRow.of (xs := [(false, .slice Am m.length cm), (false, .slice A0 1 c0)]) hr (.cons (tm.on hb) (.cons (t0.on hb) (.nil _))))
                    have rowA := RowAt.new (w8.alloc (.cells #[.bool false, .slice none 0 0] 24)) 24 #[.bool false, .slice Am m.length cm, .bool false, .slice A0 1 c0]
                    rw [World.size_alloc] at rowA
                    have rowB := (RowAt.new w8 24 #[.bool false, .slice Am m.length cm, .bool false, .slice A0 1 c0]).alloc (.cells #[.bool false, .slice none 0 0] 24)
                    have rowC := RowAt.new w8 24 #[.bool false, .slice Am m.length cm, .bool false, .slice A0 1 c0]
                    have boxA := (RowAt.new w8 24 #[.bool false, .slice none 0 0]).alloc (.cells #[.bool false, .slice Am m.length cm, .bool false, .slice A0 1 c0] 24)
                    have boxB := RowAt.new (w8.alloc (.cells #[.bool false, .slice Am m.length cm, .bool false, .slice A0 1 c0] 24)) 24 #[.bool false, .slice none 0 0]
                    rw [World.size_alloc] at boxB
                    have trA : TkRow (((w8.alloc (.cells #[.bool false, .slice none 0 0] 24)).alloc (.cells #[.bool false, .slice Am m.length cm, .bool false, .slice A0 1 c0] 24)).drew) (.slice (some ⟨w8.heap.size + 1, 0, none⟩) 2 2) [(false, m), (false, [(k0, root)])] := HTR2.out _ _ ((((Below.refl _ w8).alloc (Nat.le_refl _) _).alloc (by simp) _).drew) rowA
                    have trB : TkRow (((w8.alloc (.cells #[.bool false, .slice Am m.length cm, .bool false, .slice A0 1 c0] 24)).alloc (.cells #[.bool false, .slice none 0 0] 24)).drew) (.slice (some ⟨w8.heap.size, 0, none⟩) 2 2) [(false, m), (false, [(k0, root)])] := HTR2.out _ _ ((((Below.refl _ w8).alloc (Nat.le_refl _) _).alloc (by simp) _).drew) rowB
                    have trC : TkRow ((w8.alloc (.cells #[.bool false, .slice Am m.length cm, .bool false, .slice A0 1 c0] 24)).drew) (.slice (some ⟨w8.heap.size, 0, none⟩) 2 2) [(false, m), (false, [(k0, root)])] := HTR2.out _ _ (((Below.refl _ w8).alloc (Nat.le_refl _) _).drew) rowC
                    have boxAd : RowAt (((w8.alloc (.cells #[.bool false, .slice none 0 0] 24)).alloc (.cells #[.bool false, .slice Am m.length cm, .bool false, .slice A0 1 c0] 24)).drew) w8.heap.size 24 [.bool false, .slice none 0 0] := boxA
                    have boxBd : RowAt (((w8.alloc (.cells #[.bool false, .slice Am m.length cm, .bool false, .slice A0 1 c0] 24)).alloc (.cells #[.bool false, .slice none 0 0] 24)).drew) (w8.heap.size + 1) 24 [.bool false, .slice none 0 0] := boxB
                    have nine2 : ∀ t ∈ [(false, m), (false, [(k0, root)])], t.2.length ≤ maxLen := fun t ht => by
                      simp at ht
                      rcases ht with rfl | rfl
                      · exact small lm
                      · show 1 ≤ maxLen
                        unfold maxLen; omega
                    have mA := Merge_eq _ [(false, m), (false, [(k0, root)])] _ 0 false m2 HM2.out trA (by simp) nine2
                    have mB := Merge_eq _ [(false, m), (false, [(k0, root)])] _ 0 false m2 HM2.out trB (by simp) nine2
                    have mC := Merge_eq _ [(false, m), (false, [(k0, root)])] _ 0 false m2 HM2.out trC (by simp) nine2
                    have bA : Below w8.heap.size w8 (((w8.alloc (.cells #[.bool false, .slice none 0 0] 24)).alloc (.cells #[.bool false, .slice Am m.length cm, .bool false, .slice A0 1 c0] 24)).drew) := (((Below.refl _ w8).alloc (Nat.le_refl _) _).alloc (by simp) _).drew
                    have bB : Below w8.heap.size w8 (((w8.alloc (.cells #[.bool false, .slice Am m.length cm, .bool false, .slice A0 1 c0] 24)).alloc (.cells #[.bool false, .slice none 0 0] 24)).drew) := (((Below.refl _ w8).alloc (Nat.le_refl _) _).alloc (by simp) _).drew
                    have bC : Below w8.heap.size w8 ((w8.alloc (.cells #[.bool false, .slice Am m.length cm, .bool false, .slice A0 1 c0] 24)).drew) := ((Below.refl _ w8).alloc (Nat.le_refl _) _).drew
                    have hkp := HKP.out
                    clear rowA rowB rowC boxA boxB trA trB trC HTR2 HTR HK HKL HRI HME HK2 HK3 HM HM2
                    have hkp1 : ((0 : Int) < (ks.length : Int)) = True := eq_true (by omega)
                    have hkp2 : (0 < ks.length) = True := eq_true hkp
                    clear hkp
                    have h4k := h4
                    obtain ⟨y1, y2, y3, y4⟩ : w8.cell? ⟨G, 0, none⟩ = some (.bool false) ∧ w8.cell? ⟨G, 1, none⟩ = some (.slice Am m.length cm) ∧ w8.cell? ⟨g, 0, none⟩ = some (.bool false) ∧ w8.cell? ⟨g, 1, none⟩ = some (.slice A0 1 c0) := h4
                    go_region_held3 (fun w' => w'.cell? ⟨G, 0, none⟩ = some (.bool false) ∧ w'.cell? ⟨G, 1, none⟩ = some (.slice Am m.length cm) ∧ w'.cell? ⟨g, 0, none⟩ = some (.bool false) ∧ w'.cell? ⟨g, 1, none⟩ = some (.slice A0 1 c0))
                      (first | exact h4k.drew | exact (h4k.alloc _).drew | exact ((h4k.alloc _).alloc _).drew | exact h5 | exact h5.alloc _ | exact h5.set hGl hgl _ _ | exact h5.set (Nat.lt_succ_of_lt hGl) (Nat.lt_succ_of_lt hgl) _ _ | go_keep)
                      (first
                        | ((with_reducible refine mA.mono ?_); rintro e w5 ⟨Aq, cq, rfl, tq, hb5'⟩; have hb5 := bA.trans (hb5'.mono bA.size); have h5 := h4k.on hb5 hGl hgl; have bx : RowAt w5 w8.heap.size 24 [.bool false, .slice none 0 0] := RowAt.on boxAd hb5'; obtain ⟨z0, z1⟩ := bx.two; have zf0 := bx.frozen 0; have zf1 := bx.frozen 1)
                        | ((with_reducible refine mB.mono ?_); rintro e w5 ⟨Aq, cq, rfl, tq, hb5'⟩; have hb5 := bB.trans (hb5'.mono bB.size); have h5 := h4k.on hb5 hGl hgl; have bx : RowAt w5 (w8.heap.size + 1) 24 [.bool false, .slice none 0 0] := RowAt.on boxBd hb5'; obtain ⟨z0, z1⟩ := bx.two; have zf0 := bx.frozen 0; have zf1 := bx.frozen 1)
                        | ((with_reducible refine mC.mono ?_); rintro e w5 ⟨Aq, cq, rfl, tq, hb5'⟩; have hb5 := bC.trans (hb5'.mono bC.size); have h5 := h4k.on hb5 hGl hgl))
                    · go_simp
                      go_wp2_with fail
                      go_meet
                      exact ⟨_, Aq, cq, rfl, rfl, RowAt.new w5 24 #[.bool false, .slice Aq m2.length cq], tq.alloc _, hb5.alloc hb5.size _⟩
                    all_goals
                      go_simp
                      go_wp2_with fail
                      go_meet
                      exact ⟨_, Aq, cq, rfl, rfl, (bx.set 0 (.bool false)).set 1 (.slice Aq m2.length cq), tq.setBox bx false _, (hb5.setCell (p := ⟨_, 0, none⟩) (by first | exact Nat.le_refl _ | exact Nat.le_succ _) _).setCell (p := ⟨_, 1, none⟩) (by first | exact Nat.le_refl _ | exact Nat.le_succ _) _⟩
                  case rest =>
                    obtain ⟨w9, hw9⟩ : ∃ w9, w9 = wc := ⟨_, rfl⟩
                    subst hw9
                    obtain ⟨G2, Aq, cq, rfl, rfl, rq, tq, hb9⟩ := hcut
                    have hbw9 := bstep hbw8 hb9 hbw8.size
                    obtain ⟨v0, v1⟩ := rq.two
                    go_wp2_with fail
                    with_reducible refine (Keys_eq _ false m2 root _ Z false HK3.out tq lm2).mono ?_
                    rintro e w10 ⟨A22, c22, rfl, -, hb10⟩
                    have hbw10 := bstep hbw9 hb10 hbw9.size
                    clear v0 v1
                    go_wp2_with fail
                    go_ret
                    exact ⟨rfl, hbw10⟩

theorem tkeys_calls (xs0 : List Int) (v0 : Value) {w : World} (s0 : Ints w w.heap.size v0 xs0) (b0 : ∀ x ∈ xs0, -9223372036854775808 ≤ x ∧ x ≤ 9223372036854775807) (l0 : xs0.length ≤ maxLen) (a1 : Int) (w1 : (Lit.int .u64 a1).wf = true) (a2 : Int) (w2 : (Lit.int .i64 a2).wf = true) :
    Calls Try.prog 6 #[v0, .int .u64 a1, .int .i64 a2] w fun e w' => e = .returned (.bool true) ∧ Below w.heap.size w w' := by
  have h1 := bounds_u64 w1
  obtain ⟨k, rfl⟩ := Int.eq_ofNat_of_zero_le h1.1
  exact tkeys_walk xs0 k a2 v0 w s0 b0 l0 (by omega) (bounds_i64 w2)
end Go.Proofs.Ytgkihgcclkkbeaa
