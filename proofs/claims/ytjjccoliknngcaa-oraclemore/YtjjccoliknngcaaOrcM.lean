/- Layer 7's All. -/
import Derived.Test.YtjjccoliknngcaaOrcL
namespace Go.Proofs.Ytjjccoliknngcaa
open Go.RowKit

set_option maxHeartbeats 2000000 in
theorem oAll_any (v u : Value) (t : List Pr) (is : List Itm) (w : World) (hv : Prs w w.heap.size v t) (hu : ItRow w u is) (h9 : t.length ≤ 100000) (hs : Short is) (hfit : ∀ i ∈ is, ∀ x ∈ i.ks, x < 18446744073709551616) :
    Calls Try.prog 23 #[v, u] w fun e w' => e = .returned (.bool (is.all (Itm.ok t))) ∧ Below w.heap.size w w' := by
  obtain ⟨A, c, rfl, hc⟩ := hv.form
  obtain ⟨B, d, rfl, hd⟩ := hu.form
  have h1000 := hs.1
  obtain ⟨X, hX⟩ : ∃ X, is.all (Itm.ok t) = X := ⟨_, rfl⟩
  rw [hX]
  have HX := Lib.hid hX
  clear hX
  go_enter Try.func23, Try.ntmps23
  go_wp2_with fail
  go_loopw [9] (fun i wr => ∃ k : Nat, k ≤ is.length ∧ i = .int .i64 k ∧ (∀ x (hx : x < k) (hk : x < is.length), Itm.ok t is[x] = true) ∧ Below w.heap.size w wr) (fun i _ => is.length - (intOf i).toNat)
  case atStart => exact ⟨0, Nat.zero_le _, rfl, fun x hx => by omega, Below.refl _ _⟩
  case round =>
    obtain ⟨k, hk, rfl, hd, hb⟩ := hrel
    by_cases hlk : k < is.length
    · obtain ⟨ad, rfl, K, P, kc, pc, c0, c1, c2, c3, qk, qp⟩ := (hu.on hb).read hlk
      have hsh := hs.2 _ (List.getElem_mem hlk)
      have ba := (Below.refl wr.heap.size wr).alloc (Nat.le_refl _) (.cells #[.slice K is[k].ks.length kc, .int .u64 is[k].root, .bool is[k].f, .slice P is[k].l.length pc] 44)
      have cC := oCheck_any _ t K P kc pc _ is[k].root is[k].f _ _ ((hv.on hb).on ba) (qk.on ba) (qp.on ba) (hfit _ (List.getElem_mem hlk)) h9 hsh.1 hsh.2
      have HD := Lib.hid (show Itm.ok t is[k] = true → ∀ x (hx : x < k + 1) (hk : x < is.length), Itm.ok t is[x] = true from fun h x hx hxl => by
        by_cases e : x = k
        · subst e; exact h
        · exact hd x (by omega) hxl)
      have HF := Lib.hid (show Itm.ok t is[k] = false → X = false from fun h => by
        rw [← HX.out, List.all_eq_false]
        exact ⟨_, List.getElem_mem hlk, by rw [h]; simp⟩)
      have e : checkO t is[k].ks is[k].root is[k].f is[k].l = Itm.ok t is[k] := rfl
      rw [e] at cC
      clear e
      generalize Itm.ok t is[k] = vb at *
      clear hd hsh qk qp
      generalize is[k].ks.length = m1 at *
      generalize is[k].l.length = m2 at *
      generalize is[k].root = m3 at *
      generalize is[k].f = m4 at *
      go_wp2_with fail
      with_reducible refine cC.mono ?_
      rintro e w7 ⟨rfl, b7⟩
      have hb7 := hb.trans ((ba.trans (b7.mono ba.size)).mono hb.size)
      clear cC c0 c1 c2 c3 b7 ba
      cases vb
      · have hXf := HF.out rfl
        subst hXf
        go_wp2_with fail
        go_ret
        exact ⟨rfl, hb7⟩
      · have HD2 := Lib.hid (HD.out rfl)
        clear HD HF
        go_wp2_with fail
        go_roundw
        case rel => exact ⟨k + 1, by omega, by go_num, HD2.out, hb7⟩
        case measure => simp [intOf]; omega
    · obtain rfl : k = is.length := by omega
      have hXt : X = true := by
        rw [← HX.out, List.all_eq_true]
        intro i hi
        obtain ⟨j, hj, rfl⟩ := List.mem_iff_getElem.1 hi
        exact hd j hj hj
      subst hXt
      clear hd
      go_wp2_with fail
      go_ret
      exact ⟨rfl, hb⟩
end Go.Proofs.Ytjjccoliknngcaa
