/- The document's own answers of layer 7: Right, in, Valid. -/
import Derived.Test.YtjjccoliknngcaaTokO
import Derived.Test.YtjjccoliknngcaaOrcP
namespace Go.Proofs.Ytjjccoliknngcaa
open Go.RowKit

theorem ret_bool_ {a b : Bool} (h : a = b) : Ending.returned (.bool a) = .returned (.bool b) := by rw [h]
/-- As far as k, rising. -/
def stcTo (l : List Pr) (k : Nat) : Prop := ∀ i (h : i + 1 < l.length), i + 1 < k → aheadB l[i] l[i + 1] = true
set_option maxHeartbeats 1000000 in
theorem orRight_any (v : Value) (l : List Pr) (w : World) (hv : Prs w w.heap.size v l) (h9 : l.length ≤ 1000000) :
    Calls Try.prog 15 #[v] w fun e w' => e = .returned (.bool (rightO l)) ∧ Below w.heap.size w w' := by
  obtain ⟨A, c, rfl, hc⟩ := hv.form
  go_enter Try.func15, Try.ntmps15
  go_wp2_with fail
  go_loopw [3] (fun i wr => ∃ k : Nat, 1 ≤ k ∧ (k ≤ l.length ∨ k = 1) ∧ i = .int .i64 k ∧ stcTo l k ∧ Below w.heap.size w wr) (fun i _ => l.length - (intOf i).toNat)
  case atStart => exact ⟨1, Nat.le_refl _, .inr rfl, rfl, fun i _ h => by omega, Below.refl _ _⟩
  case round =>
    obtain ⟨k, hk1, hk, rfl, hs, hb⟩ := hrel
    by_cases hlt : k < l.length
    · obtain ⟨j, rfl⟩ : ∃ j, k = j + 1 := ⟨k - 1, by omega⟩
      obtain ⟨ad, rfl, hc1, hc2⟩ := hv.cells hb hlt
      obtain ⟨_, e, hd1, hd2⟩ := hv.cells hb (show j < l.length by omega)
      cases e
      have hz := hb.size
      have ej : ((j + 1 : Nat) : Int) - 1 = (j : Int) := by omega
      have HS := Lib.hid (show aheadB l[j] l[j + 1] = true → stcTo l (j + 1 + 1) from fun h0 i hi hi2 => by
        rcases Nat.lt_or_ge (i + 1) (j + 1) with h1 | h1
        · exact hs i hi h1
        · obtain rfl : i = j := by omega
          exact h0)
      have HN := Lib.hid (show aheadB l[j] l[j + 1] = false → rightO l = false from fun h0 => by
        cases hq : stc l
        · unfold rightO; rw [hq, Bool.and_false]
        · rw [(stc_at l).1 hq j hlt] at h0; cases h0)
      have cA := fun W => rAhead_at l[j] l[j + 1] W
      clear hs
      generalize aheadB l[j] l[j + 1] = bb at *
      go_wp2_with fail
      refine wp_region_later (by kernel_rfl) (by kernel_rfl) ?_
      repeat (go_big_quiet_step (first | (go_at_call 37; exact later_of (cA _))))
      refine wpQuiet_nil ?_
      intro _ hw'
      obtain ⟨pq, rfl⟩ := hw'
      have hbn : Below w.heap.size w pq.W := hb.trans (pq.h.mono hz)
      clear hc1 hc2 hd1 hd2
      generalize pq.W = w2 at *
      cases bb
      · have HN2 := Lib.hid (HN.out rfl)
        clear HN HS
        go_wp2_with fail
        go_ret
        refine ⟨?_, hbn⟩
        rw [HN2.out]
        rfl
      · have hs2 := HS.out rfl
        go_wp2_with fail
        go_roundw
        case rel => exact ⟨j + 1 + 1, by omega, .inl (by omega), by go_num, hs2, hbn⟩
        case measure => simp [intOf]; omega
    · have HR := Lib.hid (show decide (l.length ≤ 4096) = rightO l by
        unfold rightO
        rw [(stc_at l).2 fun i hi => hs i hi (by omega), Bool.and_true])
      clear hs
      go_wp2_with fail
      go_ret
      refine ⟨?_, hb⟩
      rw [← HR.out]
      exact ret_bool_ (by rw [Bool.eq_iff_iff]; simp; omega)

set_option maxHeartbeats 1000000 in
theorem orin_any (v : Value) (l : List Pr) (p : Pr) (w : World) (hv : Prs w w.heap.size v l) (h9 : l.length ≤ 1000000) :
    Calls Try.prog 34 #[v, .agg #[.int .u64 (p.1 : Int), .int .u64 (p.2 : Int)]] w fun e w' => e = .returned (.bool (decide (p ∈ l))) ∧ Below w.heap.size w w' := by
  obtain ⟨A, c, rfl, hc⟩ := hv.form
  go_enter Try.func34, Try.ntmps34
  go_wp2_with fail
  have r0 := RowAt.new w 27 #[.int .u64 (p.1 : Int), .int .u64 (p.2 : Int)]
  have b0 := (Below.refl w.heap.size w).alloc (Nat.le_refl _) (.cells #[.int .u64 (p.1 : Int), .int .u64 (p.2 : Int)] 27)
  have hv0 := hv.alloc (.cells #[.int .u64 (p.1 : Int), .int .u64 (p.2 : Int)] 27)
  generalize w.alloc (.cells #[.int .u64 (p.1 : Int), .int .u64 (p.2 : Int)] 27) = w0 at *
  go_loopw [5] (fun i wr => ∃ k : Nat, k ≤ l.length ∧ i = .int .i64 k ∧ p ∉ l.take k ∧ Below w0.heap.size w0 wr) (fun i _ => l.length - (intOf i).toNat)
  case atStart => exact ⟨0, Nat.zero_le _, rfl, by simp, Below.refl _ _⟩
  case round =>
    obtain ⟨k, hk, rfl, hn, hb⟩ := hrel
    have hB := b0.trans (hb.mono b0.size)
    obtain ⟨x0, x1⟩ := (r0.on hb).two
    by_cases hlt : k < l.length
    · obtain ⟨ad, rfl, _, e1, e2⟩ := (hv0.below hb (Nat.le_refl _)).at_ hlt
      have HY := Lib.hid (show l[k] = p → decide (p ∈ l) = true from fun e => decide_eq_true (by rw [← e]; exact List.getElem_mem _))
      have HN := Lib.hid (show l[k] ≠ p → p ∉ l.take (k + 1) from fun e => by
        rw [List.take_succ_eq_append_getElem hlt, List.mem_append, List.mem_singleton]
        rintro (h | h)
        · exact hn h
        · exact e h.symm)
      clear hn
      generalize l[k] = a at *
      obtain ⟨a1, a2⟩ := a
      obtain ⟨p1, p2⟩ := p
      by_cases h1 : a1 = p1
      · subst h1
        by_cases h2 : a2 = p2
        · subst h2
          have HY2 := Lib.hid (HY.out rfl)
          clear HY HN
          go_wp2_with fail
          go_region
          all_goals go_wp2_with fail
          go_ret
          refine ⟨?_, hB.drew⟩
          rw [HY2.out]
          rfl
        · have hne : ((a2 : Int) == (p2 : Int)) = false := by simp; omega
          have HN2 := Lib.hid (HN.out (fun e => h2 (congrArg Prod.snd e)))
          clear HY HN h2
          go_wp2_with fail
          go_region
          all_goals go_wp2_with fail
          go_roundw
          case rel => exact ⟨k + 1, by omega, by go_num, HN2.out, hb.drew⟩
          case measure => simp [intOf]; omega
      · have hne : ((a1 : Int) == (p1 : Int)) = false := by simp; omega
        have HN2 := Lib.hid (HN.out (fun e => h1 (congrArg Prod.fst e)))
        clear HY HN h1
        go_wp2_with fail
        go_region
        all_goals go_wp2_with fail
        go_roundw
        case rel => exact ⟨k + 1, by omega, by go_num, HN2.out, hb.drew⟩
        case measure => simp [intOf]; omega
    · obtain rfl : k = l.length := by omega
      rw [List.take_length] at hn
      have HN := Lib.hid (decide_eq_false hn)
      clear hn
      go_wp2_with fail
      go_ret
      refine ⟨?_, hB⟩
      rw [HN.out]
      rfl

theorem orValid_any (v : Value) (l : List Pr) (p : Pr) (w : World) (hv : Prs w w.heap.size v l) (h9 : l.length ≤ 1000000) :
    Calls Try.prog 17 #[v, .agg #[.int .u64 (p.1 : Int), .int .u64 (p.2 : Int)]] w fun e w' => e = .returned (.bool (rightO l && decide (p ∈ l))) ∧ Below w.heap.size w w' := by
  obtain ⟨A, c, rfl, hc⟩ := hv.form
  have cR := fun W hv => orRight_any (.slice A l.length c) l W hv h9
  have cI := fun W hv => orin_any (.slice A l.length c) l p W hv h9
  have r0 := RowAt.new w 27 #[.int .u64 (p.1 : Int), .int .u64 (p.2 : Int)]
  have b0 := (Below.refl w.heap.size w).alloc (Nat.le_refl _) (.cells #[.int .u64 (p.1 : Int), .int .u64 (p.2 : Int)] 27)
  have hv0 := hv.alloc (.cells #[.int .u64 (p.1 : Int), .int .u64 (p.2 : Int)] 27)
  generalize rightO l = x at *
  generalize decide (p ∈ l) = y at *
  cases x
  all_goals
    go_enter Try.func17, Try.ntmps17
    go_wp2_with fail
    with_reducible refine (cR _ hv0).mono ?_
    rintro e w1 ⟨rfl, b1⟩
    have B1 := b0.trans (b1.mono b0.size)
    have r1 := r0.on b1
    obtain ⟨x0, x1⟩ := r1.two
    have hv1 := hv0.on b1
    go_wp2_with fail
    first
      | (go_ret; exact ⟨rfl, B1⟩)
      | (with_reducible refine (cI _ hv1).mono ?_
         rintro e w2 ⟨rfl, b2⟩
         go_wp2_with fail
         go_ret
         exact ⟨rfl, B1.trans (b2.mono B1.size)⟩)
end Go.Proofs.Ytjjccoliknngcaa
