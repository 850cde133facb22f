/- The document's own answers of layer 7: Right, in, Valid.
   The document's own answers of layer 7: with, Pairs, Add, Sign.
   The document's own answers of layer 7: Pairs, Add. -/
import Derived.Test.YtjjccoliknngcaaTokO
import Derived.Test.YtjjccoliknngcaaOrcP
namespace Go.Proofs.Ytjjccoliknngcaa
open Go.RowKit

theorem ret_bool_ {a b : Bool} (h : a = b) : Ending.returned (.bool a) = .returned (.bool b) := by rw [h]
/-- As far as k, rising. -/
def stcTo (l : List Pr) (k : Nat) : Prop := ∀ i (h : i + 1 < l.length), i + 1 < k → aheadB l[i] l[i + 1] = true
set_option maxHeartbeats 1000000 in
theorem orRight_any (v : Value) (l : List Pr) (w : World) (hv : Prs w w.heap.size v l) (h9 : l.length ≤ 1000000) :
    Calls Try.prog 15 #[v] w fun e w' => e = .returned (.bool (rightO l)) ∧ Below w.heap.size w w' := by
  obtain ⟨A, c, rfl, hc⟩ := hv.form
  go_enter Try.func15, Try.ntmps15
  go_wp2_with fail
  go_loopw [3] (fun i wr => ∃ k : Nat, 1 ≤ k ∧ (k ≤ l.length ∨ k = 1) ∧ i = .int .i64 k ∧ stcTo l k ∧ Below w.heap.size w wr) (fun i _ => l.length - (intOf i).toNat)
  case atStart => exact ⟨1, Nat.le_refl _, .inr rfl, rfl, fun i _ h => by omega, Below.refl _ _⟩
  case round =>
    obtain ⟨k, hk1, hk, rfl, hs, hb⟩ := hrel
    by_cases hlt : k < l.length
    · obtain ⟨j, rfl⟩ : ∃ j, k = j + 1 := ⟨k - 1, by omega⟩
      obtain ⟨ad, rfl, hc1, hc2⟩ := hv.cells hb hlt
      obtain ⟨_, e, hd1, hd2⟩ := hv.cells hb (show j < l.length by omega)
      cases e
      have hz := hb.size
      have ej : ((j + 1 : Nat) : Int) - 1 = (j : Int) := by omega
      have HS := Lib.hid (show aheadB l[j] l[j + 1] = true → stcTo l (j + 1 + 1) from fun h0 i hi hi2 => by
        rcases Nat.lt_or_ge (i + 1) (j + 1) with h1 | h1
        · exact hs i hi h1
        · obtain rfl : i = j := by omega
          exact h0)
      have HN := Lib.hid (show aheadB l[j] l[j + 1] = false → rightO l = false from fun h0 => by
        cases hq : stc l
        · unfold rightO; rw [hq, Bool.and_false]
        · rw [(stc_at l).1 hq j hlt] at h0; cases h0)
      have cA := fun W => rAhead_at l[j] l[j + 1] W
      clear hs
      generalize aheadB l[j] l[j + 1] = bb at *
      go_wp2_with fail
      refine wp_region_later (by kernel_rfl) (by kernel_rfl) ?_
      repeat (go_big_quiet_step (first | (go_at_call 37; exact later_of (cA _))))
      refine wpQuiet_nil ?_
      intro _ hw'
      obtain ⟨pq, rfl⟩ := hw'
      have hbn : Below w.heap.size w pq.W := hb.trans (pq.h.mono hz)
      clear hc1 hc2 hd1 hd2
      generalize pq.W = w2 at *
      cases bb
      · have HN2 := Lib.hid (HN.out rfl)
        clear HN HS
        go_wp2_with fail
        go_ret
        refine ⟨?_, hbn⟩
        rw [HN2.out]
        rfl
      · have hs2 := HS.out rfl
        go_wp2_with fail
        go_roundw
        case rel => exact ⟨j + 1 + 1, by omega, .inl (by omega), by go_num, hs2, hbn⟩
        case measure => simp [intOf]; omega
    · have HR := Lib.hid (show decide (l.length ≤ 4096) = rightO l by
        unfold rightO
        rw [(stc_at l).2 fun i hi => hs i hi (by omega), Bool.and_true])
      clear hs
      go_wp2_with fail
      go_ret
      refine ⟨?_, hb⟩
      rw [← HR.out]
      exact ret_bool_ (by rw [Bool.eq_iff_iff]; simp; omega)

set_option maxHeartbeats 1000000 in
theorem orin_any (v : Value) (l : List Pr) (p : Pr) (w : World) (hv : Prs w w.heap.size v l) (h9 : l.length ≤ 1000000) :
    Calls Try.prog 34 #[v, .agg #[.int .u64 (p.1 : Int), .int .u64 (p.2 : Int)]] w fun e w' => e = .returned (.bool (decide (p ∈ l))) ∧ Below w.heap.size w w' := by
  obtain ⟨A, c, rfl, hc⟩ := hv.form
  go_enter Try.func34, Try.ntmps34
  go_wp2_with fail
  have r0 := RowAt.new w 27 #[.int .u64 (p.1 : Int), .int .u64 (p.2 : Int)]
  have b0 := (Below.refl w.heap.size w).alloc (Nat.le_refl _) (.cells #[.int .u64 (p.1 : Int), .int .u64 (p.2 : Int)] 27)
  have hv0 := hv.alloc (.cells #[.int .u64 (p.1 : Int), .int .u64 (p.2 : Int)] 27)
  generalize w.alloc (.cells #[.int .u64 (p.1 : Int), .int .u64 (p.2 : Int)] 27) = w0 at *
  go_loopw [5] (fun i wr => ∃ k : Nat, k ≤ l.length ∧ i = .int .i64 k ∧ p ∉ l.take k ∧ Below w0.heap.size w0 wr) (fun i _ => l.length - (intOf i).toNat)
  case atStart => exact ⟨0, Nat.zero_le _, rfl, by simp, Below.refl _ _⟩
  case round =>
    obtain ⟨k, hk, rfl, hn, hb⟩ := hrel
    have hB := b0.trans (hb.mono b0.size)
    obtain ⟨x0, x1⟩ := (r0.on hb).two
    by_cases hlt : k < l.length
    · obtain ⟨ad, rfl, _, e1, e2⟩ := (hv0.below hb (Nat.le_refl _)).at_ hlt
      have HY := Lib.hid (show l[k] = p → decide (p ∈ l) = true from fun e => decide_eq_true (by rw [← e]; exact List.getElem_mem _))
      have HN := Lib.hid (show l[k] ≠ p → p ∉ l.take (k + 1) from fun e => by
        rw [List.take_succ_eq_append_getElem hlt, List.mem_append, List.mem_singleton]
        rintro (h | h)
        · exact hn h
        · exact e h.symm)
      clear hn
      generalize l[k] = a at *
      obtain ⟨a1, a2⟩ := a
      obtain ⟨p1, p2⟩ := p
      by_cases h1 : a1 = p1
      · subst h1
        by_cases h2 : a2 = p2
        · subst h2
          have HY2 := Lib.hid (HY.out rfl)
          clear HY HN
          go_wp2_with fail
          go_region
          all_goals go_wp2_with fail
          go_ret
          refine ⟨?_, hB.drew⟩
          rw [HY2.out]
          rfl
        · have hne : ((a2 : Int) == (p2 : Int)) = false := by simp; omega
          have HN2 := Lib.hid (HN.out (fun e => h2 (congrArg Prod.snd e)))
          clear HY HN h2
          go_wp2_with fail
          go_region
          all_goals go_wp2_with fail
          go_roundw
          case rel => exact ⟨k + 1, by omega, by go_num, HN2.out, hb.drew⟩
          case measure => simp [intOf]; omega
      · have hne : ((a1 : Int) == (p1 : Int)) = false := by simp; omega
        have HN2 := Lib.hid (HN.out (fun e => h1 (congrArg Prod.fst e)))
        clear HY HN h1
        go_wp2_with fail
        go_region
        all_goals go_wp2_with fail
        go_roundw
        case rel => exact ⟨k + 1, by omega, by go_num, HN2.out, hb.drew⟩
        case measure => simp [intOf]; omega
    · obtain rfl : k = l.length := by omega
      rw [List.take_length] at hn
      have HN := Lib.hid (decide_eq_false hn)
      clear hn
      go_wp2_with fail
      go_ret
      refine ⟨?_, hB⟩
      rw [HN.out]
      rfl

theorem orValid_any (v : Value) (l : List Pr) (p : Pr) (w : World) (hv : Prs w w.heap.size v l) (h9 : l.length ≤ 1000000) :
    Calls Try.prog 17 #[v, .agg #[.int .u64 (p.1 : Int), .int .u64 (p.2 : Int)]] w fun e w' => e = .returned (.bool (rightO l && decide (p ∈ l))) ∧ Below w.heap.size w w' := by
  obtain ⟨A, c, rfl, hc⟩ := hv.form
  have cR := fun W hv => orRight_any (.slice A l.length c) l W hv h9
  have cI := fun W hv => orin_any (.slice A l.length c) l p W hv h9
  have r0 := RowAt.new w 27 #[.int .u64 (p.1 : Int), .int .u64 (p.2 : Int)]
  have b0 := (Below.refl w.heap.size w).alloc (Nat.le_refl _) (.cells #[.int .u64 (p.1 : Int), .int .u64 (p.2 : Int)] 27)
  have hv0 := hv.alloc (.cells #[.int .u64 (p.1 : Int), .int .u64 (p.2 : Int)] 27)
  generalize rightO l = x at *
  generalize decide (p ∈ l) = y at *
  cases x
  all_goals
    go_enter Try.func17, Try.ntmps17
    go_wp2_with fail
    with_reducible refine (cR _ hv0).mono ?_
    rintro e w1 ⟨rfl, b1⟩
    have B1 := b0.trans (b1.mono b0.size)
    have r1 := r0.on b1
    obtain ⟨x0, x1⟩ := r1.two
    have hv1 := hv0.on b1
    go_wp2_with fail
    first
      | (go_ret; exact ⟨rfl, B1⟩)
      | (with_reducible refine (cI _ hv1).mono ?_
         rintro e w2 ⟨rfl, b2⟩
         go_wp2_with fail
         go_ret
         exact ⟨rfl, B1.trans (b2.mono B1.size)⟩)
end Go.Proofs.Ytjjccoliknngcaa

namespace Go.Proofs.Ytjjccoliknngcaa
open Go.RowKit

theorem Prs.not_none {w : World} {B c : Nat} {l : List Pr} (h : Prs w B (.slice none l.length c) l) : l = [] ∧ c = 0 := by
  obtain ⟨A', c', hv, hc', ha⟩ := h
  injection hv with h1 h2 h3
  subst h1; subst h3
  refine ⟨?_, hc'.2 rfl⟩
  rcases Nat.eq_zero_or_pos l.length with h0 | h0
  · exact List.eq_nil_of_length_eq_zero h0
  · obtain ⟨ad, e, _⟩ := ha h0; cases e
theorem with_end {w3 : World} {lo n m cap : Nat} {S : Option Addr} {l : List Pr} {p : Pr} (hm : n + m = l.length)
    (own : w3.ownsRow lo 27 2 (.slice S (n + 1 + m) cap) (n + 1 + m) (((l.take n).flatMap pairCells ++ [.int .u64 (p.1 : Int), .int .u64 (p.2 : Int)]) ++ (l.drop n).flatMap pairCells))
    (hin : l.take n ++ p :: l.drop n = ins p l) : Prs w3 w3.heap.size (.slice S (n + 1 + m) cap) (ins p l) ∧ FromOn lo (.slice S (n + 1 + m) cap) := by
  have e : n + 1 + m = (ins p l).length := by rw [ins_length]; omega
  have R : w3.ownsRow lo 27 2 (.slice S (n + 1 + m) cap) (ins p l).length ((ins p l).flatMap pairCells) := by
    rw [← e, ← hin, List.flatMap_append, List.flatMap_cons]
    rw [List.append_assoc] at own
    exact own
  exact ⟨Prs.own R, from_own own⟩

set_option maxHeartbeats 8000000 in
set_option maxRecDepth 100000 in
theorem orwith_any (v : Value) (l : List Pr) (p : Pr) (w : World) (hv : Prs w w.heap.size v l) (hs : srt l = true) (h9 : l.length ≤ 1000000) :
    Calls Try.prog 35 #[v, .agg #[.int .u64 (p.1 : Int), .int .u64 (p.2 : Int)]] w fun e w' => ∃ A c, e = .returned (.slice A (ins p l).length c) ∧ Prs w' w'.heap.size (.slice A (ins p l).length c) (ins p l) ∧ FromOn w.heap.size (.slice A (ins p l).length c) ∧ Below w.heap.size w w' := by
  obtain ⟨i0, hi, hz0, hz1, hz2⟩ := info_parts info_pair
  obtain ⟨A, c, rfl, hc⟩ := hv.form
  go_enter Try.func35, Try.ntmps35
  go_wp2_with fail
  have r0 := RowAt.new w 27 #[.int .u64 (p.1 : Int), .int .u64 (p.2 : Int)]
  have b0 := (Below.refl w.heap.size w).alloc (Nat.le_refl _) (.cells #[.int .u64 (p.1 : Int), .int .u64 (p.2 : Int)] 27)
  have hv0 := hv.alloc (.cells #[.int .u64 (p.1 : Int), .int .u64 (p.2 : Int)] 27)
  generalize w.alloc (.cells #[.int .u64 (p.1 : Int), .int .u64 (p.2 : Int)] 27) = w0 at *
  clear hv
  go_loopw [5] (fun i wr => ∃ n : Nat, n ≤ l.length ∧ i = .int .i64 n ∧ (∀ i (hi : i < l.length), n ≤ i → aheadB l[i] p = false) ∧ Below w0.heap.size w0 wr) (fun i _ => (intOf i).toNat)
  case atStart => exact ⟨l.length, Nat.le_refl _, rfl, fun i hi h => by omega, Below.refl _ _⟩
  case round =>
    obtain ⟨n, hn, rfl, hb1, hb⟩ := hrel
    obtain ⟨x0, x1⟩ := (r0.on hb).laters
    have hz := hb.size
    have HB := Lib.hid hb1
    clear hb1
    rcases Nat.eq_zero_or_pos n with h0 | hpos
    · have HIN := Lib.hid (ins_where hs n hn HB.out (fun i hi h => by omega))
      have hd : ((0 : Int) < (n : Int)) = False := eq_false (by omega)
      have hd2 : (0 < n) = False := eq_false (by omega)
      clear HB h0
      go_wp2_with fail
      refine wp_region_later (by kernel_rfl) (by kernel_rfl) ?_
      repeat (go_big_quiet_step (fail))
      refine wpQuiet_nil ?_
      intro _ hw'
      obtain ⟨pq, rfl⟩ := hw'
      have hb3 : Below w0.heap.size w0 pq.W := hb.trans (pq.h.mono hz)
      clear x0 x1 hb
      generalize pq.W = w3 at *
      have hz1' : w0.heap.size ≤ w3.heap.size := hb3.size
      have r1 := r0.on hb3
      have hv1 := hv0.on hb3
      obtain ⟨x0, x1⟩ := r1.two
      have n1 : (n : Int) ≤ (l.length : Int) := by omega
      have n2 : (0 : Int) ≤ (n : Int) := by omega
      have n3 : (n : Int) ≤ (c : Int) := by omega
      go_wp2_with fail
      cases A with
      | none =>
        obtain ⟨rfl, rfl⟩ := hv1.not_none
        obtain rfl : 0 = n := by simp at hn; omega
        simp only [List.length_nil] at *
        refine wp_region_E (fun W => W.cell? ⟨w.heap.size, 0, none⟩ = some (.int .u64 (p.1 : Int)) ∧ W.cell? ⟨w.heap.size, 1, none⟩ = some (.int .u64 (p.2 : Int))) 11 (by kernel_rfl) ?_
        have hSd : w3.drew.cell? ⟨w.heap.size, 0, none⟩ = some (.int .u64 (p.1 : Int)) ∧ w3.drew.cell? ⟨w.heap.size, 1, none⟩ = some (.int .u64 (p.2 : Int)) := ⟨x0, x1⟩
        refine E_take (i := 0) (.slice none 0 0) (by simp only [List.getElem?_toArray, List.getElem?_cons_zero]; rfl) (by kernel_rfl) (by kernel_rfl) (by kernel_rfl) (by kernel_rfl) (by kernel_rfl) (by exact fun _ _ _ h => h) (by rfl) (by intro W hW; obtain ⟨h1, h2⟩ := hW; go_simp) hSd ?_
        (try simp only [Act.put]); (try simp only [List.setIfInBounds_toArray]); (try simp only [List.set_cons_succ, List.set_cons_zero])
        refine E_take (i := 1) (.int .i64 0) (by simp only [List.getElem?_toArray, List.getElem?_cons_succ, List.getElem?_cons_zero]; rfl) (by kernel_rfl) (by kernel_rfl) (by kernel_rfl) (by kernel_rfl) (by kernel_rfl) (by exact fun _ _ _ h => h) (by rfl) (by intro W hW; obtain ⟨h1, h2⟩ := hW; go_simp) hSd ?_
        (try simp only [Act.put]); (try simp only [List.setIfInBounds_toArray]); (try simp only [List.set_cons_succ, List.set_cons_zero])
        refine E_take (i := 2) (.slice none 0 0) (by simp only [List.getElem?_toArray, List.getElem?_cons_succ, List.getElem?_cons_zero]; rfl) (by kernel_rfl) (by kernel_rfl) (by kernel_rfl) (by kernel_rfl) (by kernel_rfl) (by exact fun _ _ _ h => h) (by rfl) (by intro W hW; obtain ⟨h1, h2⟩ := hW; go_simp) hSd ?_
        (try simp only [Act.put]); (try simp only [List.setIfInBounds_toArray]); (try simp only [List.set_cons_succ, List.set_cons_zero])
        refine E_take (i := 4) (.agg #[.int .u64 (p.1 : Int), .int .u64 (p.2 : Int)]) (by simp only [List.getElem?_toArray, List.getElem?_cons_succ, List.getElem?_cons_zero]; rfl) (by kernel_rfl) (by kernel_rfl) (by kernel_rfl) (by kernel_rfl) (by kernel_rfl) (by exact fun _ _ _ h => h) (by rfl) (by intro W hW; obtain ⟨h1, h2⟩ := hW; go_simp) hSd ?_
        (try simp only [Act.put]); (try simp only [List.setIfInBounds_toArray]); (try simp only [List.set_cons_succ, List.set_cons_zero])
        refine E_take (i := 7) (.slice none 0 0) (by simp only [List.getElem?_toArray, List.getElem?_cons_succ, List.getElem?_cons_zero]; rfl) (by kernel_rfl) (by kernel_rfl) (by kernel_rfl) (by kernel_rfl) (by kernel_rfl) (by exact fun _ _ _ h => h) (by rfl) (by intro W hW; obtain ⟨h1, h2⟩ := hW; go_simp) hSd ?_
        (try simp only [Act.put]); (try simp only [List.setIfInBounds_toArray]); (try simp only [List.set_cons_succ, List.set_cons_zero])
        refine E_take (i := 8) (.int .i64 0) (by simp only [List.getElem?_toArray, List.getElem?_cons_succ, List.getElem?_cons_zero]; rfl) (by kernel_rfl) (by kernel_rfl) (by kernel_rfl) (by kernel_rfl) (by kernel_rfl) (by exact fun _ _ _ h => h) (by rfl) (by intro W hW; obtain ⟨h1, h2⟩ := hW; go_simp) hSd ?_
        (try simp only [Act.put]); (try simp only [List.setIfInBounds_toArray]); (try simp only [List.set_cons_succ, List.set_cons_zero])
        refine E_take (i := 9) (.slice none 0 0) (by simp only [List.getElem?_toArray, List.getElem?_cons_succ, List.getElem?_cons_zero]; rfl) (by kernel_rfl) (by kernel_rfl) (by kernel_rfl) (by kernel_rfl) (by kernel_rfl) (by exact fun _ _ _ h => h) (by rfl) (by intro W hW; obtain ⟨h1, h2⟩ := hW; go_simp) hSd ?_
        (try simp only [Act.put]); (try simp only [List.setIfInBounds_toArray]); (try simp only [List.set_cons_succ, List.set_cons_zero])
        refine E_two (i := 3) (k := 5) (by kernel_rfl) (by simp only [List.getElem?_toArray, List.getElem?_cons_succ, List.getElem?_cons_zero]; rfl) (by simp only [List.getElem?_toArray, List.getElem?_cons_succ, List.getElem?_cons_zero]; rfl) (fun K hK => ?_) (fun K hK => ?_)
        · have hBd : Below w3.heap.size w3 w3.drew := (Below.refl _ _).drew
          refine step_append_any rfl _ _ 22 rfl w3.heap.size 27 i0 (.agg #[.int .u64 0, .int .u64 0]) 2 16 Try.underlying22 hi hz0 hz1 hz2 rfl (by decide) (.slice none 0 0) 0 [] rfl (World.ownsRow_nil _ _ _ _) none 0 0 ((([] : List Pr).take 0).flatMap pairCells) rfl (by rw [flat_pairs_length, List.length_take]; omega) (news_first hv1 (hBd) hn) (pairs_one _) (by unfold maxLen; omega) (by omega) ((hBd).size) ?_
          intro S1 cap1 w4 own1 grow1
          simp only [Nat.zero_add, List.nil_append] at own1 ⊢
          have hB1 : Below w3.heap.size w3 w4 := Below.grown (hBd) grow1 (hBd).size (fun k h => by cases h)
          refine hK _ _ (fun _ => (r1.on (hB1)).two) ?_
          clear hK K
          (try simp only [Act.put]); (try simp only [List.setIfInBounds_toArray]); (try simp only [List.set_cons_succ, List.set_cons_zero])
          refine E_one (i := 5) (by kernel_rfl) (by simp only [List.getElem?_toArray, List.getElem?_cons_succ, List.getElem?_cons_zero]; rfl) (fun K hK => ?_)
          go_simp
          refine hK _ _ (fun _ => (r1.on (hB1.alloc hB1.size (.cells #[.int .u64 (p.1 : Int), .int .u64 (p.2 : Int)] 27))).two) ?_
          clear hK K
          (try simp only [Act.put]); (try simp only [List.setIfInBounds_toArray]); (try simp only [List.set_cons_succ, List.set_cons_zero])
          refine E_one (i := 6) (by kernel_rfl) (by simp only [List.getElem?_toArray, List.getElem?_cons_succ, List.getElem?_cons_zero]; rfl) (fun K hK => ?_)
          refine step_append_any rfl _ _ 22 rfl w3.heap.size 27 i0 (.agg #[.int .u64 0, .int .u64 0]) 2 16 Try.underlying22 hi hz0 hz1 hz2 rfl (by decide) (.slice S1 0 cap1) 0 _ rfl (own1.alloc _) _ 1 1 [.int .u64 (p.1 : Int), .int .u64 (p.2 : Int)] rfl rfl (fun _ => ⟨_, rfl, news_pair (RowAt.new w4 27 #[.int .u64 (p.1 : Int), .int .u64 (p.2 : Int)])⟩) (by intro u hu0; simp at hu0; rcases hu0 with rfl | rfl <;> rfl) (by unfold maxLen; omega) (by omega) ((hB1.alloc hB1.size (.cells #[.int .u64 (p.1 : Int), .int .u64 (p.2 : Int)] 27)).size) ?_
          intro S2 cap2 w5 own2 grow2
          have hB2 : Below w3.heap.size w3 w5 := Below.grown (hB1.alloc hB1.size (.cells #[.int .u64 (p.1 : Int), .int .u64 (p.2 : Int)] 27)) grow2 (hB1.alloc hB1.size (.cells #[.int .u64 (p.1 : Int), .int .u64 (p.2 : Int)] 27)).size (fun k h => (own1.lt k h).1)
          refine hK _ _ (fun _ => (r1.on (hB2)).two) ?_
          clear hK K
          (try simp only [Act.put]); (try simp only [List.setIfInBounds_toArray]); (try simp only [List.set_cons_succ, List.set_cons_zero])
          refine E_one (i := 10) (by kernel_rfl) (by simp only [List.getElem?_toArray, List.getElem?_cons_succ, List.getElem?_cons_zero]; rfl) (fun K hK => ?_)
          refine step_append_any rfl _ _ 22 rfl w3.heap.size 27 i0 (.agg #[.int .u64 0, .int .u64 0]) 2 16 Try.underlying22 hi hz0 hz1 hz2 rfl (by decide) (.slice S2 (0 + 1) cap2) (0 + 1) _ rfl own2 none 0 0 ((([] : List Pr).drop 0).flatMap pairCells) rfl (by simp) (fun h => absurd h (by omega)) (pairs_one _) (by unfold maxLen; omega) (by omega) hB2.size ?_
          intro S3 cap3 w6 own3 grow3
          have hB3 : Below w3.heap.size w3 w6 := Below.grown hB2 grow3 hB2.size (fun k h => (own2.lt k h).1)
          refine hK _ _ (fun _ => (r1.on (hB3)).two) ?_
          clear hK K
          (try simp only [Act.put]); (try simp only [List.setIfInBounds_toArray]); (try simp only [List.set_cons_succ, List.set_cons_zero])
          refine E_one (i := 11) (by kernel_rfl) (by simp only [List.getElem?_toArray, List.getElem?_cons_succ, List.getElem?_cons_zero]; rfl) (fun K hK => ?_)
          go_simp
          refine hK _ _ (fun h => absurd rfl h) ?_
          clear hK K
          refine E_done (by kernel_rfl) ?_ _
          obtain ⟨e1, e2⟩ := with_end (l := []) (n := 0) (m := 0) (by simp) own3 HIN.out
          have e3 : 0 + 1 + 0 = (ins p []).length := by rw [ins_length]; rfl
          rw [e3] at e1 e2
          clear own1 own2 own3 grow1 grow2 grow3
          go_simp
          go_wp2_with fail
          go_ret
          exact ⟨S3, cap3, by first | rfl | (rw [← e3]; rfl), e1, e2.less (Nat.le_trans b0.size hz1'), (b0.trans (hb3.mono b0.size)).trans (hB3.mono (Nat.le_trans b0.size hz1'))⟩
        · have hBd : Below w3.heap.size w3 (w3.drew.alloc (.cells #[.int .u64 (p.1 : Int), .int .u64 (p.2 : Int)] 27)) := ((Below.refl _ _).drew).alloc (Nat.le_refl _) _
          go_simp
          refine hK _ _ (fun _ => (r1.on (hBd)).two) ?_
          clear hK K
          (try simp only [Act.put]); (try simp only [List.setIfInBounds_toArray]); (try simp only [List.set_cons_succ, List.set_cons_zero])
          refine E_one (i := 3) (by kernel_rfl) (by simp only [List.getElem?_toArray, List.getElem?_cons_succ, List.getElem?_cons_zero]; rfl) (fun K hK => ?_)
          refine step_append_any rfl _ _ 22 rfl w3.heap.size 27 i0 (.agg #[.int .u64 0, .int .u64 0]) 2 16 Try.underlying22 hi hz0 hz1 hz2 rfl (by decide) (.slice none 0 0) 0 [] rfl (World.ownsRow_nil _ _ _ _) none 0 0 ((([] : List Pr).take 0).flatMap pairCells) rfl (by rw [flat_pairs_length, List.length_take]; omega) (news_first hv1 (hBd) hn) (pairs_one _) (by unfold maxLen; omega) (by omega) ((hBd).size) ?_
          intro S1 cap1 w4 own1 grow1
          simp only [Nat.zero_add, List.nil_append] at own1 ⊢
          have hB1 : Below w3.heap.size w3 w4 := Below.grown (hBd) grow1 (hBd).size (fun k h => by cases h)
          refine hK _ _ (fun _ => (r1.on (hB1)).two) ?_
          clear hK K
          (try simp only [Act.put]); (try simp only [List.setIfInBounds_toArray]); (try simp only [List.set_cons_succ, List.set_cons_zero])
          have rB : RowAt w4 w3.heap.size 27 [.int .u64 (p.1 : Int), .int .u64 (p.2 : Int)] := RowAt.grown (RowAt.new w3.drew 27 #[.int .u64 (p.1 : Int), .int .u64 (p.2 : Int)]) grow1 (by simp [Value.ownBlock])
          refine E_one (i := 6) (by kernel_rfl) (by simp only [List.getElem?_toArray, List.getElem?_cons_succ, List.getElem?_cons_zero]; rfl) (fun K hK => ?_)
          refine step_append_any rfl _ _ 22 rfl w3.heap.size 27 i0 (.agg #[.int .u64 0, .int .u64 0]) 2 16 Try.underlying22 hi hz0 hz1 hz2 rfl (by decide) (.slice S1 0 cap1) 0 _ rfl (own1) _ 1 1 [.int .u64 (p.1 : Int), .int .u64 (p.2 : Int)] rfl rfl (fun _ => ⟨_, rfl, news_pair (rB)⟩) (by intro u hu0; simp at hu0; rcases hu0 with rfl | rfl <;> rfl) (by unfold maxLen; omega) (by omega) ((hB1).size) ?_
          intro S2 cap2 w5 own2 grow2
          have hB2 : Below w3.heap.size w3 w5 := Below.grown (hB1) grow2 (hB1).size (fun k h => (own1.lt k h).1)
          refine hK _ _ (fun _ => (r1.on (hB2)).two) ?_
          clear hK K
          (try simp only [Act.put]); (try simp only [List.setIfInBounds_toArray]); (try simp only [List.set_cons_succ, List.set_cons_zero])
          refine E_one (i := 10) (by kernel_rfl) (by simp only [List.getElem?_toArray, List.getElem?_cons_succ, List.getElem?_cons_zero]; rfl) (fun K hK => ?_)
          refine step_append_any rfl _ _ 22 rfl w3.heap.size 27 i0 (.agg #[.int .u64 0, .int .u64 0]) 2 16 Try.underlying22 hi hz0 hz1 hz2 rfl (by decide) (.slice S2 (0 + 1) cap2) (0 + 1) _ rfl own2 none 0 0 ((([] : List Pr).drop 0).flatMap pairCells) rfl (by simp) (fun h => absurd h (by omega)) (pairs_one _) (by unfold maxLen; omega) (by omega) hB2.size ?_
          intro S3 cap3 w6 own3 grow3
          have hB3 : Below w3.heap.size w3 w6 := Below.grown hB2 grow3 hB2.size (fun k h => (own2.lt k h).1)
          refine hK _ _ (fun _ => (r1.on (hB3)).two) ?_
          clear hK K
          (try simp only [Act.put]); (try simp only [List.setIfInBounds_toArray]); (try simp only [List.set_cons_succ, List.set_cons_zero])
          refine E_one (i := 11) (by kernel_rfl) (by simp only [List.getElem?_toArray, List.getElem?_cons_succ, List.getElem?_cons_zero]; rfl) (fun K hK => ?_)
          go_simp
          refine hK _ _ (fun h => absurd rfl h) ?_
          clear hK K
          refine E_done (by kernel_rfl) ?_ _
          obtain ⟨e1, e2⟩ := with_end (l := []) (n := 0) (m := 0) (by simp) own3 HIN.out
          have e3 : 0 + 1 + 0 = (ins p []).length := by rw [ins_length]; rfl
          rw [e3] at e1 e2
          clear own1 own2 own3 grow1 grow2 grow3
          go_simp
          go_wp2_with fail
          go_ret
          exact ⟨S3, cap3, by first | rfl | (rw [← e3]; rfl), e1, e2.less (Nat.le_trans b0.size hz1'), (b0.trans (hb3.mono b0.size)).trans (hB3.mono (Nat.le_trans b0.size hz1'))⟩
      | some od =>
        by_cases hcn : c = n
        · obtain rfl : n = c := hcn.symm
          refine wp_region_E (fun W => W.cell? ⟨w.heap.size, 0, none⟩ = some (.int .u64 (p.1 : Int)) ∧ W.cell? ⟨w.heap.size, 1, none⟩ = some (.int .u64 (p.2 : Int))) 11 (by kernel_rfl) ?_
          have hSd : w3.drew.cell? ⟨w.heap.size, 0, none⟩ = some (.int .u64 (p.1 : Int)) ∧ w3.drew.cell? ⟨w.heap.size, 1, none⟩ = some (.int .u64 (p.2 : Int)) := ⟨x0, x1⟩
          refine E_take (i := 0) (.slice (some od) l.length n) (by simp only [List.getElem?_toArray, List.getElem?_cons_zero]; rfl) (by kernel_rfl) (by kernel_rfl) (by kernel_rfl) (by kernel_rfl) (by kernel_rfl) (by exact fun _ _ _ h => h) (by rfl) (by intro W hW; obtain ⟨h1, h2⟩ := hW; go_simp) hSd ?_
          (try simp only [Act.put]); (try simp only [List.setIfInBounds_toArray]); (try simp only [List.set_cons_succ, List.set_cons_zero])
          refine E_take (i := 1) (.int .i64 (n : Int)) (by simp only [List.getElem?_toArray, List.getElem?_cons_succ, List.getElem?_cons_zero]; rfl) (by kernel_rfl) (by kernel_rfl) (by kernel_rfl) (by kernel_rfl) (by kernel_rfl) (by exact fun _ _ _ h => h) (by rfl) (by intro W hW; obtain ⟨h1, h2⟩ := hW; go_simp) hSd ?_
          (try simp only [Act.put]); (try simp only [List.setIfInBounds_toArray]); (try simp only [List.set_cons_succ, List.set_cons_zero])
          refine E_take (i := 2) (.slice (some od) n n) (by simp only [List.getElem?_toArray, List.getElem?_cons_succ, List.getElem?_cons_zero]; rfl) (by kernel_rfl) (by kernel_rfl) (by kernel_rfl) (by kernel_rfl) (by kernel_rfl) (by exact fun _ _ _ h => h) (by rfl) (by intro W hW; obtain ⟨h1, h2⟩ := hW; go_simp) hSd ?_
          (try simp only [Act.put]); (try simp only [List.setIfInBounds_toArray]); (try simp only [List.set_cons_succ, List.set_cons_zero])
          refine E_take (i := 4) (.agg #[.int .u64 (p.1 : Int), .int .u64 (p.2 : Int)]) (by simp only [List.getElem?_toArray, List.getElem?_cons_succ, List.getElem?_cons_zero]; rfl) (by kernel_rfl) (by kernel_rfl) (by kernel_rfl) (by kernel_rfl) (by kernel_rfl) (by exact fun _ _ _ h => h) (by rfl) (by intro W hW; obtain ⟨h1, h2⟩ := hW; go_simp) hSd ?_
          (try simp only [Act.put]); (try simp only [List.setIfInBounds_toArray]); (try simp only [List.set_cons_succ, List.set_cons_zero])
          refine E_take (i := 7) (.slice (some od) l.length n) (by simp only [List.getElem?_toArray, List.getElem?_cons_succ, List.getElem?_cons_zero]; rfl) (by kernel_rfl) (by kernel_rfl) (by kernel_rfl) (by kernel_rfl) (by kernel_rfl) (by exact fun _ _ _ h => h) (by rfl) (by intro W hW; obtain ⟨h1, h2⟩ := hW; go_simp) hSd ?_
          (try simp only [Act.put]); (try simp only [List.setIfInBounds_toArray]); (try simp only [List.set_cons_succ, List.set_cons_zero])
          refine E_take (i := 8) (.int .i64 (n : Int)) (by simp only [List.getElem?_toArray, List.getElem?_cons_succ, List.getElem?_cons_zero]; rfl) (by kernel_rfl) (by kernel_rfl) (by kernel_rfl) (by kernel_rfl) (by kernel_rfl) (by exact fun _ _ _ h => h) (by rfl) (by intro W hW; obtain ⟨h1, h2⟩ := hW; go_simp) hSd ?_
          (try simp only [Act.put]); (try simp only [List.setIfInBounds_toArray]); (try simp only [List.set_cons_succ, List.set_cons_zero])
          refine E_take (i := 9) (.slice (some od) 0 0) (by simp only [List.getElem?_toArray, List.getElem?_cons_succ, List.getElem?_cons_zero]; rfl) (by kernel_rfl) (by kernel_rfl) (by kernel_rfl) (by kernel_rfl) (by kernel_rfl) (by exact fun _ _ _ h => h) (by rfl) (by intro W hW; obtain ⟨h1, h2⟩ := hW; go_simp) hSd ?_
          (try simp only [Act.put]); (try simp only [List.setIfInBounds_toArray]); (try simp only [List.set_cons_succ, List.set_cons_zero])
          refine E_two (i := 3) (k := 5) (by kernel_rfl) (by simp only [List.getElem?_toArray, List.getElem?_cons_succ, List.getElem?_cons_zero]; rfl) (by simp only [List.getElem?_toArray, List.getElem?_cons_succ, List.getElem?_cons_zero]; rfl) (fun K hK => ?_) (fun K hK => ?_)
          · have hBd : Below w3.heap.size w3 w3.drew := (Below.refl _ _).drew
            refine step_append_any rfl _ _ 22 rfl w3.heap.size 27 i0 (.agg #[.int .u64 0, .int .u64 0]) 2 16 Try.underlying22 hi hz0 hz1 hz2 rfl (by decide) (.slice none 0 0) 0 [] rfl (World.ownsRow_nil _ _ _ _) (some od) n n ((l.take n).flatMap pairCells) rfl (by rw [flat_pairs_length, List.length_take]; omega) (news_first hv1 (hBd) hn) (pairs_one _) (by unfold maxLen; omega) (by omega) ((hBd).size) ?_
            intro S1 cap1 w4 own1 grow1
            simp only [Nat.zero_add, List.nil_append] at own1 ⊢
            have hB1 : Below w3.heap.size w3 w4 := Below.grown (hBd) grow1 (hBd).size (fun k h => by cases h)
            refine hK _ _ (fun _ => (r1.on (hB1)).two) ?_
            clear hK K
            (try simp only [Act.put]); (try simp only [List.setIfInBounds_toArray]); (try simp only [List.set_cons_succ, List.set_cons_zero])
            refine E_one (i := 5) (by kernel_rfl) (by simp only [List.getElem?_toArray, List.getElem?_cons_succ, List.getElem?_cons_zero]; rfl) (fun K hK => ?_)
            go_simp
            refine hK _ _ (fun _ => (r1.on (hB1.alloc hB1.size (.cells #[.int .u64 (p.1 : Int), .int .u64 (p.2 : Int)] 27))).two) ?_
            clear hK K
            (try simp only [Act.put]); (try simp only [List.setIfInBounds_toArray]); (try simp only [List.set_cons_succ, List.set_cons_zero])
            refine E_one (i := 6) (by kernel_rfl) (by simp only [List.getElem?_toArray, List.getElem?_cons_succ, List.getElem?_cons_zero]; rfl) (fun K hK => ?_)
            refine step_append_any rfl _ _ 22 rfl w3.heap.size 27 i0 (.agg #[.int .u64 0, .int .u64 0]) 2 16 Try.underlying22 hi hz0 hz1 hz2 rfl (by decide) (.slice S1 n cap1) n _ rfl (own1.alloc _) _ 1 1 [.int .u64 (p.1 : Int), .int .u64 (p.2 : Int)] rfl rfl (fun _ => ⟨_, rfl, news_pair (RowAt.new w4 27 #[.int .u64 (p.1 : Int), .int .u64 (p.2 : Int)])⟩) (by intro u hu0; simp at hu0; rcases hu0 with rfl | rfl <;> rfl) (by unfold maxLen; omega) (by omega) ((hB1.alloc hB1.size (.cells #[.int .u64 (p.1 : Int), .int .u64 (p.2 : Int)] 27)).size) ?_
            intro S2 cap2 w5 own2 grow2
            have hB2 : Below w3.heap.size w3 w5 := Below.grown (hB1.alloc hB1.size (.cells #[.int .u64 (p.1 : Int), .int .u64 (p.2 : Int)] 27)) grow2 (hB1.alloc hB1.size (.cells #[.int .u64 (p.1 : Int), .int .u64 (p.2 : Int)] 27)).size (fun k h => (own1.lt k h).1)
            refine hK _ _ (fun _ => (r1.on (hB2)).two) ?_
            clear hK K
            (try simp only [Act.put]); (try simp only [List.setIfInBounds_toArray]); (try simp only [List.set_cons_succ, List.set_cons_zero])
            refine E_one (i := 10) (by kernel_rfl) (by simp only [List.getElem?_toArray, List.getElem?_cons_succ, List.getElem?_cons_zero]; rfl) (fun K hK => ?_)
            refine step_append_any rfl _ _ 22 rfl w3.heap.size 27 i0 (.agg #[.int .u64 0, .int .u64 0]) 2 16 Try.underlying22 hi hz0 hz1 hz2 rfl (by decide) (.slice S2 (n + 1) cap2) (n + 1) _ rfl own2 (some od) 0 0 ((l.drop n).flatMap pairCells) rfl (by rw [flat_pairs_length, List.length_drop]; omega) (fun h => absurd h (by omega)) (pairs_one _) (by unfold maxLen; omega) (by omega) hB2.size ?_
            intro S3 cap3 w6 own3 grow3
            have hB3 : Below w3.heap.size w3 w6 := Below.grown hB2 grow3 hB2.size (fun k h => (own2.lt k h).1)
            refine hK _ _ (fun _ => (r1.on (hB3)).two) ?_
            clear hK K
            (try simp only [Act.put]); (try simp only [List.setIfInBounds_toArray]); (try simp only [List.set_cons_succ, List.set_cons_zero])
            refine E_one (i := 11) (by kernel_rfl) (by simp only [List.getElem?_toArray, List.getElem?_cons_succ, List.getElem?_cons_zero]; rfl) (fun K hK => ?_)
            go_simp
            refine hK _ _ (fun h => absurd rfl h) ?_
            clear hK K
            refine E_done (by kernel_rfl) ?_ _
            obtain ⟨e1, e2⟩ := with_end (by omega) own3 HIN.out
            have e3 : n + 1 + 0 = (ins p l).length := by rw [ins_length]; omega
            rw [e3] at e1 e2
            clear own1 own2 own3 grow1 grow2 grow3
            go_simp
            go_wp2_with fail
            go_ret
            exact ⟨S3, cap3, by first | rfl | (rw [← e3]; rfl), e1, e2.less (Nat.le_trans b0.size hz1'), (b0.trans (hb3.mono b0.size)).trans (hB3.mono (Nat.le_trans b0.size hz1'))⟩
          · have hBd : Below w3.heap.size w3 (w3.drew.alloc (.cells #[.int .u64 (p.1 : Int), .int .u64 (p.2 : Int)] 27)) := ((Below.refl _ _).drew).alloc (Nat.le_refl _) _
            go_simp
            refine hK _ _ (fun _ => (r1.on (hBd)).two) ?_
            clear hK K
            (try simp only [Act.put]); (try simp only [List.setIfInBounds_toArray]); (try simp only [List.set_cons_succ, List.set_cons_zero])
            refine E_one (i := 3) (by kernel_rfl) (by simp only [List.getElem?_toArray, List.getElem?_cons_succ, List.getElem?_cons_zero]; rfl) (fun K hK => ?_)
            refine step_append_any rfl _ _ 22 rfl w3.heap.size 27 i0 (.agg #[.int .u64 0, .int .u64 0]) 2 16 Try.underlying22 hi hz0 hz1 hz2 rfl (by decide) (.slice none 0 0) 0 [] rfl (World.ownsRow_nil _ _ _ _) (some od) n n ((l.take n).flatMap pairCells) rfl (by rw [flat_pairs_length, List.length_take]; omega) (news_first hv1 (hBd) hn) (pairs_one _) (by unfold maxLen; omega) (by omega) ((hBd).size) ?_
            intro S1 cap1 w4 own1 grow1
            simp only [Nat.zero_add, List.nil_append] at own1 ⊢
            have hB1 : Below w3.heap.size w3 w4 := Below.grown (hBd) grow1 (hBd).size (fun k h => by cases h)
            refine hK _ _ (fun _ => (r1.on (hB1)).two) ?_
            clear hK K
            (try simp only [Act.put]); (try simp only [List.setIfInBounds_toArray]); (try simp only [List.set_cons_succ, List.set_cons_zero])
            have rB : RowAt w4 w3.heap.size 27 [.int .u64 (p.1 : Int), .int .u64 (p.2 : Int)] := RowAt.grown (RowAt.new w3.drew 27 #[.int .u64 (p.1 : Int), .int .u64 (p.2 : Int)]) grow1 (by simp [Value.ownBlock])
            refine E_one (i := 6) (by kernel_rfl) (by simp only [List.getElem?_toArray, List.getElem?_cons_succ, List.getElem?_cons_zero]; rfl) (fun K hK => ?_)
            refine step_append_any rfl _ _ 22 rfl w3.heap.size 27 i0 (.agg #[.int .u64 0, .int .u64 0]) 2 16 Try.underlying22 hi hz0 hz1 hz2 rfl (by decide) (.slice S1 n cap1) n _ rfl (own1) _ 1 1 [.int .u64 (p.1 : Int), .int .u64 (p.2 : Int)] rfl rfl (fun _ => ⟨_, rfl, news_pair (rB)⟩) (by intro u hu0; simp at hu0; rcases hu0 with rfl | rfl <;> rfl) (by unfold maxLen; omega) (by omega) ((hB1).size) ?_
            intro S2 cap2 w5 own2 grow2
            have hB2 : Below w3.heap.size w3 w5 := Below.grown (hB1) grow2 (hB1).size (fun k h => (own1.lt k h).1)
            refine hK _ _ (fun _ => (r1.on (hB2)).two) ?_
            clear hK K
            (try simp only [Act.put]); (try simp only [List.setIfInBounds_toArray]); (try simp only [List.set_cons_succ, List.set_cons_zero])
            refine E_one (i := 10) (by kernel_rfl) (by simp only [List.getElem?_toArray, List.getElem?_cons_succ, List.getElem?_cons_zero]; rfl) (fun K hK => ?_)
            refine step_append_any rfl _ _ 22 rfl w3.heap.size 27 i0 (.agg #[.int .u64 0, .int .u64 0]) 2 16 Try.underlying22 hi hz0 hz1 hz2 rfl (by decide) (.slice S2 (n + 1) cap2) (n + 1) _ rfl own2 (some od) 0 0 ((l.drop n).flatMap pairCells) rfl (by rw [flat_pairs_length, List.length_drop]; omega) (fun h => absurd h (by omega)) (pairs_one _) (by unfold maxLen; omega) (by omega) hB2.size ?_
            intro S3 cap3 w6 own3 grow3
            have hB3 : Below w3.heap.size w3 w6 := Below.grown hB2 grow3 hB2.size (fun k h => (own2.lt k h).1)
            refine hK _ _ (fun _ => (r1.on (hB3)).two) ?_
            clear hK K
            (try simp only [Act.put]); (try simp only [List.setIfInBounds_toArray]); (try simp only [List.set_cons_succ, List.set_cons_zero])
            refine E_one (i := 11) (by kernel_rfl) (by simp only [List.getElem?_toArray, List.getElem?_cons_succ, List.getElem?_cons_zero]; rfl) (fun K hK => ?_)
            go_simp
            refine hK _ _ (fun h => absurd rfl h) ?_
            clear hK K
            refine E_done (by kernel_rfl) ?_ _
            obtain ⟨e1, e2⟩ := with_end (by omega) own3 HIN.out
            have e3 : n + 1 + 0 = (ins p l).length := by rw [ins_length]; omega
            rw [e3] at e1 e2
            clear own1 own2 own3 grow1 grow2 grow3
            go_simp
            go_wp2_with fail
            go_ret
            exact ⟨S3, cap3, by first | rfl | (rw [← e3]; rfl), e1, e2.less (Nat.le_trans b0.size hz1'), (b0.trans (hb3.mono b0.size)).trans (hB3.mono (Nat.le_trans b0.size hz1'))⟩
        · have hcn1 : (c = n) = False := eq_false hcn
          have hcn2 : (c - n = 0) = False := eq_false (by omega)
          refine wp_region_E (fun W => W.cell? ⟨w.heap.size, 0, none⟩ = some (.int .u64 (p.1 : Int)) ∧ W.cell? ⟨w.heap.size, 1, none⟩ = some (.int .u64 (p.2 : Int))) 11 (by kernel_rfl) ?_
          have hSd : w3.drew.cell? ⟨w.heap.size, 0, none⟩ = some (.int .u64 (p.1 : Int)) ∧ w3.drew.cell? ⟨w.heap.size, 1, none⟩ = some (.int .u64 (p.2 : Int)) := ⟨x0, x1⟩
          refine E_take (i := 0) (.slice (some od) l.length c) (by simp only [List.getElem?_toArray, List.getElem?_cons_zero]; rfl) (by kernel_rfl) (by kernel_rfl) (by kernel_rfl) (by kernel_rfl) (by kernel_rfl) (by exact fun _ _ _ h => h) (by rfl) (by intro W hW; obtain ⟨h1, h2⟩ := hW; go_simp) hSd ?_
          (try simp only [Act.put]); (try simp only [List.setIfInBounds_toArray]); (try simp only [List.set_cons_succ, List.set_cons_zero])
          refine E_take (i := 1) (.int .i64 (n : Int)) (by simp only [List.getElem?_toArray, List.getElem?_cons_succ, List.getElem?_cons_zero]; rfl) (by kernel_rfl) (by kernel_rfl) (by kernel_rfl) (by kernel_rfl) (by kernel_rfl) (by exact fun _ _ _ h => h) (by rfl) (by intro W hW; obtain ⟨h1, h2⟩ := hW; go_simp) hSd ?_
          (try simp only [Act.put]); (try simp only [List.setIfInBounds_toArray]); (try simp only [List.set_cons_succ, List.set_cons_zero])
          refine E_take (i := 2) (.slice (some od) n c) (by simp only [List.getElem?_toArray, List.getElem?_cons_succ, List.getElem?_cons_zero]; rfl) (by kernel_rfl) (by kernel_rfl) (by kernel_rfl) (by kernel_rfl) (by kernel_rfl) (by exact fun _ _ _ h => h) (by rfl) (by intro W hW; obtain ⟨h1, h2⟩ := hW; go_simp) hSd ?_
          (try simp only [Act.put]); (try simp only [List.setIfInBounds_toArray]); (try simp only [List.set_cons_succ, List.set_cons_zero])
          refine E_take (i := 4) (.agg #[.int .u64 (p.1 : Int), .int .u64 (p.2 : Int)]) (by simp only [List.getElem?_toArray, List.getElem?_cons_succ, List.getElem?_cons_zero]; rfl) (by kernel_rfl) (by kernel_rfl) (by kernel_rfl) (by kernel_rfl) (by kernel_rfl) (by exact fun _ _ _ h => h) (by rfl) (by intro W hW; obtain ⟨h1, h2⟩ := hW; go_simp) hSd ?_
          (try simp only [Act.put]); (try simp only [List.setIfInBounds_toArray]); (try simp only [List.set_cons_succ, List.set_cons_zero])
          refine E_take (i := 7) (.slice (some od) l.length c) (by simp only [List.getElem?_toArray, List.getElem?_cons_succ, List.getElem?_cons_zero]; rfl) (by kernel_rfl) (by kernel_rfl) (by kernel_rfl) (by kernel_rfl) (by kernel_rfl) (by exact fun _ _ _ h => h) (by rfl) (by intro W hW; obtain ⟨h1, h2⟩ := hW; go_simp) hSd ?_
          (try simp only [Act.put]); (try simp only [List.setIfInBounds_toArray]); (try simp only [List.set_cons_succ, List.set_cons_zero])
          refine E_take (i := 8) (.int .i64 (n : Int)) (by simp only [List.getElem?_toArray, List.getElem?_cons_succ, List.getElem?_cons_zero]; rfl) (by kernel_rfl) (by kernel_rfl) (by kernel_rfl) (by kernel_rfl) (by kernel_rfl) (by exact fun _ _ _ h => h) (by rfl) (by intro W hW; obtain ⟨h1, h2⟩ := hW; go_simp) hSd ?_
          (try simp only [Act.put]); (try simp only [List.setIfInBounds_toArray]); (try simp only [List.set_cons_succ, List.set_cons_zero])
          refine E_take (i := 9) (.slice (some (od.add (n * 2))) (l.length - n) (c - n)) (by simp only [List.getElem?_toArray, List.getElem?_cons_succ, List.getElem?_cons_zero]; rfl) (by kernel_rfl) (by kernel_rfl) (by kernel_rfl) (by kernel_rfl) (by kernel_rfl) (by exact fun _ _ _ h => h) (by rfl) (by intro W hW; obtain ⟨h1, h2⟩ := hW; go_simp) hSd ?_
          (try simp only [Act.put]); (try simp only [List.setIfInBounds_toArray]); (try simp only [List.set_cons_succ, List.set_cons_zero])
          refine E_two (i := 3) (k := 5) (by kernel_rfl) (by simp only [List.getElem?_toArray, List.getElem?_cons_succ, List.getElem?_cons_zero]; rfl) (by simp only [List.getElem?_toArray, List.getElem?_cons_succ, List.getElem?_cons_zero]; rfl) (fun K hK => ?_) (fun K hK => ?_)
          · have hBd : Below w3.heap.size w3 w3.drew := (Below.refl _ _).drew
            refine step_append_any rfl _ _ 22 rfl w3.heap.size 27 i0 (.agg #[.int .u64 0, .int .u64 0]) 2 16 Try.underlying22 hi hz0 hz1 hz2 rfl (by decide) (.slice none 0 0) 0 [] rfl (World.ownsRow_nil _ _ _ _) (some od) n c ((l.take n).flatMap pairCells) rfl (by rw [flat_pairs_length, List.length_take]; omega) (news_first hv1 (hBd) hn) (pairs_one _) (by unfold maxLen; omega) (by omega) ((hBd).size) ?_
            intro S1 cap1 w4 own1 grow1
            simp only [Nat.zero_add, List.nil_append] at own1 ⊢
            have hB1 : Below w3.heap.size w3 w4 := Below.grown (hBd) grow1 (hBd).size (fun k h => by cases h)
            refine hK _ _ (fun _ => (r1.on (hB1)).two) ?_
            clear hK K
            (try simp only [Act.put]); (try simp only [List.setIfInBounds_toArray]); (try simp only [List.set_cons_succ, List.set_cons_zero])
            refine E_one (i := 5) (by kernel_rfl) (by simp only [List.getElem?_toArray, List.getElem?_cons_succ, List.getElem?_cons_zero]; rfl) (fun K hK => ?_)
            go_simp
            refine hK _ _ (fun _ => (r1.on (hB1.alloc hB1.size (.cells #[.int .u64 (p.1 : Int), .int .u64 (p.2 : Int)] 27))).two) ?_
            clear hK K
            (try simp only [Act.put]); (try simp only [List.setIfInBounds_toArray]); (try simp only [List.set_cons_succ, List.set_cons_zero])
            refine E_one (i := 6) (by kernel_rfl) (by simp only [List.getElem?_toArray, List.getElem?_cons_succ, List.getElem?_cons_zero]; rfl) (fun K hK => ?_)
            refine step_append_any rfl _ _ 22 rfl w3.heap.size 27 i0 (.agg #[.int .u64 0, .int .u64 0]) 2 16 Try.underlying22 hi hz0 hz1 hz2 rfl (by decide) (.slice S1 n cap1) n _ rfl (own1.alloc _) _ 1 1 [.int .u64 (p.1 : Int), .int .u64 (p.2 : Int)] rfl rfl (fun _ => ⟨_, rfl, news_pair (RowAt.new w4 27 #[.int .u64 (p.1 : Int), .int .u64 (p.2 : Int)])⟩) (by intro u hu0; simp at hu0; rcases hu0 with rfl | rfl <;> rfl) (by unfold maxLen; omega) (by omega) ((hB1.alloc hB1.size (.cells #[.int .u64 (p.1 : Int), .int .u64 (p.2 : Int)] 27)).size) ?_
            intro S2 cap2 w5 own2 grow2
            have hB2 : Below w3.heap.size w3 w5 := Below.grown (hB1.alloc hB1.size (.cells #[.int .u64 (p.1 : Int), .int .u64 (p.2 : Int)] 27)) grow2 (hB1.alloc hB1.size (.cells #[.int .u64 (p.1 : Int), .int .u64 (p.2 : Int)] 27)).size (fun k h => (own1.lt k h).1)
            refine hK _ _ (fun _ => (r1.on (hB2)).two) ?_
            clear hK K
            (try simp only [Act.put]); (try simp only [List.setIfInBounds_toArray]); (try simp only [List.set_cons_succ, List.set_cons_zero])
            refine E_one (i := 10) (by kernel_rfl) (by simp only [List.getElem?_toArray, List.getElem?_cons_succ, List.getElem?_cons_zero]; rfl) (fun K hK => ?_)
            refine step_append_any rfl _ _ 22 rfl w3.heap.size 27 i0 (.agg #[.int .u64 0, .int .u64 0]) 2 16 Try.underlying22 hi hz0 hz1 hz2 rfl (by decide) (.slice S2 (n + 1) cap2) (n + 1) _ rfl own2 (some (od.add (n * 2))) (l.length - n) (c - n) ((l.drop n).flatMap pairCells) rfl (by rw [flat_pairs_length, List.length_drop]) (news_rest hv1 hB2) (pairs_one _) (by unfold maxLen; omega) (by omega) hB2.size ?_
            intro S3 cap3 w6 own3 grow3
            have hB3 : Below w3.heap.size w3 w6 := Below.grown hB2 grow3 hB2.size (fun k h => (own2.lt k h).1)
            refine hK _ _ (fun _ => (r1.on (hB3)).two) ?_
            clear hK K
            (try simp only [Act.put]); (try simp only [List.setIfInBounds_toArray]); (try simp only [List.set_cons_succ, List.set_cons_zero])
            refine E_one (i := 11) (by kernel_rfl) (by simp only [List.getElem?_toArray, List.getElem?_cons_succ, List.getElem?_cons_zero]; rfl) (fun K hK => ?_)
            go_simp
            refine hK _ _ (fun h => absurd rfl h) ?_
            clear hK K
            refine E_done (by kernel_rfl) ?_ _
            obtain ⟨e1, e2⟩ := with_end (by omega) own3 HIN.out
            have e3 : n + 1 + (l.length - n) = (ins p l).length := by rw [ins_length]; omega
            rw [e3] at e1 e2
            clear own1 own2 own3 grow1 grow2 grow3
            go_simp
            go_wp2_with fail
            go_ret
            exact ⟨S3, cap3, by first | rfl | (rw [← e3]; rfl), e1, e2.less (Nat.le_trans b0.size hz1'), (b0.trans (hb3.mono b0.size)).trans (hB3.mono (Nat.le_trans b0.size hz1'))⟩
          · have hBd : Below w3.heap.size w3 (w3.drew.alloc (.cells #[.int .u64 (p.1 : Int), .int .u64 (p.2 : Int)] 27)) := ((Below.refl _ _).drew).alloc (Nat.le_refl _) _
            go_simp
            refine hK _ _ (fun _ => (r1.on (hBd)).two) ?_
            clear hK K
            (try simp only [Act.put]); (try simp only [List.setIfInBounds_toArray]); (try simp only [List.set_cons_succ, List.set_cons_zero])
            refine E_one (i := 3) (by kernel_rfl) (by simp only [List.getElem?_toArray, List.getElem?_cons_succ, List.getElem?_cons_zero]; rfl) (fun K hK => ?_)
            refine step_append_any rfl _ _ 22 rfl w3.heap.size 27 i0 (.agg #[.int .u64 0, .int .u64 0]) 2 16 Try.underlying22 hi hz0 hz1 hz2 rfl (by decide) (.slice none 0 0) 0 [] rfl (World.ownsRow_nil _ _ _ _) (some od) n c ((l.take n).flatMap pairCells) rfl (by rw [flat_pairs_length, List.length_take]; omega) (news_first hv1 (hBd) hn) (pairs_one _) (by unfold maxLen; omega) (by omega) ((hBd).size) ?_
            intro S1 cap1 w4 own1 grow1
            simp only [Nat.zero_add, List.nil_append] at own1 ⊢
            have hB1 : Below w3.heap.size w3 w4 := Below.grown (hBd) grow1 (hBd).size (fun k h => by cases h)
            refine hK _ _ (fun _ => (r1.on (hB1)).two) ?_
            clear hK K
            (try simp only [Act.put]); (try simp only [List.setIfInBounds_toArray]); (try simp only [List.set_cons_succ, List.set_cons_zero])
            have rB : RowAt w4 w3.heap.size 27 [.int .u64 (p.1 : Int), .int .u64 (p.2 : Int)] := RowAt.grown (RowAt.new w3.drew 27 #[.int .u64 (p.1 : Int), .int .u64 (p.2 : Int)]) grow1 (by simp [Value.ownBlock])
            refine E_one (i := 6) (by kernel_rfl) (by simp only [List.getElem?_toArray, List.getElem?_cons_succ, List.getElem?_cons_zero]; rfl) (fun K hK => ?_)
            refine step_append_any rfl _ _ 22 rfl w3.heap.size 27 i0 (.agg #[.int .u64 0, .int .u64 0]) 2 16 Try.underlying22 hi hz0 hz1 hz2 rfl (by decide) (.slice S1 n cap1) n _ rfl (own1) _ 1 1 [.int .u64 (p.1 : Int), .int .u64 (p.2 : Int)] rfl rfl (fun _ => ⟨_, rfl, news_pair (rB)⟩) (by intro u hu0; simp at hu0; rcases hu0 with rfl | rfl <;> rfl) (by unfold maxLen; omega) (by omega) ((hB1).size) ?_
            intro S2 cap2 w5 own2 grow2
            have hB2 : Below w3.heap.size w3 w5 := Below.grown (hB1) grow2 (hB1).size (fun k h => (own1.lt k h).1)
            refine hK _ _ (fun _ => (r1.on (hB2)).two) ?_
            clear hK K
            (try simp only [Act.put]); (try simp only [List.setIfInBounds_toArray]); (try simp only [List.set_cons_succ, List.set_cons_zero])
            refine E_one (i := 10) (by kernel_rfl) (by simp only [List.getElem?_toArray, List.getElem?_cons_succ, List.getElem?_cons_zero]; rfl) (fun K hK => ?_)
            refine step_append_any rfl _ _ 22 rfl w3.heap.size 27 i0 (.agg #[.int .u64 0, .int .u64 0]) 2 16 Try.underlying22 hi hz0 hz1 hz2 rfl (by decide) (.slice S2 (n + 1) cap2) (n + 1) _ rfl own2 (some (od.add (n * 2))) (l.length - n) (c - n) ((l.drop n).flatMap pairCells) rfl (by rw [flat_pairs_length, List.length_drop]) (news_rest hv1 hB2) (pairs_one _) (by unfold maxLen; omega) (by omega) hB2.size ?_
            intro S3 cap3 w6 own3 grow3
            have hB3 : Below w3.heap.size w3 w6 := Below.grown hB2 grow3 hB2.size (fun k h => (own2.lt k h).1)
            refine hK _ _ (fun _ => (r1.on (hB3)).two) ?_
            clear hK K
            (try simp only [Act.put]); (try simp only [List.setIfInBounds_toArray]); (try simp only [List.set_cons_succ, List.set_cons_zero])
            refine E_one (i := 11) (by kernel_rfl) (by simp only [List.getElem?_toArray, List.getElem?_cons_succ, List.getElem?_cons_zero]; rfl) (fun K hK => ?_)
            go_simp
            refine hK _ _ (fun h => absurd rfl h) ?_
            clear hK K
            refine E_done (by kernel_rfl) ?_ _
            obtain ⟨e1, e2⟩ := with_end (by omega) own3 HIN.out
            have e3 : n + 1 + (l.length - n) = (ins p l).length := by rw [ins_length]; omega
            rw [e3] at e1 e2
            clear own1 own2 own3 grow1 grow2 grow3
            go_simp
            go_wp2_with fail
            go_ret
            exact ⟨S3, cap3, by first | rfl | (rw [← e3]; rfl), e1, e2.less (Nat.le_trans b0.size hz1'), (b0.trans (hb3.mono b0.size)).trans (hB3.mono (Nat.le_trans b0.size hz1'))⟩
    · obtain ⟨k, hk⟩ : ∃ k, n = k + 1 := ⟨n - 1, by omega⟩
      have hkl : k < l.length := by omega
      obtain ⟨ad, hA, hc1, hc2⟩ := hv0.cells hb hkl
      have ej : (n : Int) - 1 = (k : Int) := by omega
      have hd : ((0 : Int) < (n : Int)) = True := eq_true (by omega)
      have hd2 : (0 < n) = True := eq_true hpos
      have HS := Lib.hid (show aheadB l[k] p = false → ∀ i (hi : i < l.length), k ≤ i → aheadB l[i] p = false from fun h0 i hi h => by
        by_cases e : i = k
        · subst e; exact h0
        · exact HB.out i hi (by omega))
      have HN := Lib.hid (show aheadB l[k] p = true → l.take n ++ p :: l.drop n = ins p l from fun h0 => ins_where hs n hn HB.out (fun i hi h => by
        obtain rfl : i = k := by omega
        exact h0))
      have cA := fun W => rAhead_at l[k] p W
      have HK := Lib.hid hk
      clear hk HB hpos
      generalize aheadB l[k] p = bb at *
      subst hA
      go_wp2_with fail
      refine wp_region_later (by kernel_rfl) (by kernel_rfl) ?_
      repeat (go_big_quiet_step (first | (go_at_call 37; exact later_of (cA _))))
      refine wpQuiet_nil ?_
      intro _ hw'
      obtain ⟨pq, rfl⟩ := hw'
      have hb3 : Below w0.heap.size w0 pq.W := hb.trans (pq.h.mono hz)
      clear x0 x1 hb hc1 hc2 cA
      generalize pq.W = w3 at *
      cases bb
      · have hs2 := HS.out rfl
        clear HN HS
        go_wp2_with fail
        go_roundw
        case rel => exact ⟨k, by omega, by go_num, hs2, hb3⟩
        case measure => have := HK.out; simp [intOf]; omega
      · have HIN := Lib.hid (HN.out rfl)
        clear HN HS HK ej
        have hz1' : w0.heap.size ≤ w3.heap.size := hb3.size
        have r1 := r0.on hb3
        have hv1 := hv0.on hb3
        obtain ⟨x0, x1⟩ := r1.two
        have n1 : (n : Int) ≤ (l.length : Int) := by omega
        have n2 : (0 : Int) ≤ (n : Int) := by omega
        have n3 : (n : Int) ≤ (c : Int) := by omega
        go_wp2_with fail
        by_cases hcn : c = n
        · obtain rfl : n = c := hcn.symm
          refine wp_region_E (fun W => W.cell? ⟨w.heap.size, 0, none⟩ = some (.int .u64 (p.1 : Int)) ∧ W.cell? ⟨w.heap.size, 1, none⟩ = some (.int .u64 (p.2 : Int))) 11 (by kernel_rfl) ?_
          have hSd : w3.drew.cell? ⟨w.heap.size, 0, none⟩ = some (.int .u64 (p.1 : Int)) ∧ w3.drew.cell? ⟨w.heap.size, 1, none⟩ = some (.int .u64 (p.2 : Int)) := ⟨x0, x1⟩
          refine E_take (i := 0) (.slice (some ad) l.length n) (by simp only [List.getElem?_toArray, List.getElem?_cons_zero]; rfl) (by kernel_rfl) (by kernel_rfl) (by kernel_rfl) (by kernel_rfl) (by kernel_rfl) (by exact fun _ _ _ h => h) (by rfl) (by intro W hW; obtain ⟨h1, h2⟩ := hW; go_simp) hSd ?_
          (try simp only [Act.put]); (try simp only [List.setIfInBounds_toArray]); (try simp only [List.set_cons_succ, List.set_cons_zero])
          refine E_take (i := 1) (.int .i64 (n : Int)) (by simp only [List.getElem?_toArray, List.getElem?_cons_succ, List.getElem?_cons_zero]; rfl) (by kernel_rfl) (by kernel_rfl) (by kernel_rfl) (by kernel_rfl) (by kernel_rfl) (by exact fun _ _ _ h => h) (by rfl) (by intro W hW; obtain ⟨h1, h2⟩ := hW; go_simp) hSd ?_
          (try simp only [Act.put]); (try simp only [List.setIfInBounds_toArray]); (try simp only [List.set_cons_succ, List.set_cons_zero])
          refine E_take (i := 2) (.slice (some ad) n n) (by simp only [List.getElem?_toArray, List.getElem?_cons_succ, List.getElem?_cons_zero]; rfl) (by kernel_rfl) (by kernel_rfl) (by kernel_rfl) (by kernel_rfl) (by kernel_rfl) (by exact fun _ _ _ h => h) (by rfl) (by intro W hW; obtain ⟨h1, h2⟩ := hW; go_simp) hSd ?_
          (try simp only [Act.put]); (try simp only [List.setIfInBounds_toArray]); (try simp only [List.set_cons_succ, List.set_cons_zero])
          refine E_take (i := 4) (.agg #[.int .u64 (p.1 : Int), .int .u64 (p.2 : Int)]) (by simp only [List.getElem?_toArray, List.getElem?_cons_succ, List.getElem?_cons_zero]; rfl) (by kernel_rfl) (by kernel_rfl) (by kernel_rfl) (by kernel_rfl) (by kernel_rfl) (by exact fun _ _ _ h => h) (by rfl) (by intro W hW; obtain ⟨h1, h2⟩ := hW; go_simp) hSd ?_
          (try simp only [Act.put]); (try simp only [List.setIfInBounds_toArray]); (try simp only [List.set_cons_succ, List.set_cons_zero])
          refine E_take (i := 7) (.slice (some ad) l.length n) (by simp only [List.getElem?_toArray, List.getElem?_cons_succ, List.getElem?_cons_zero]; rfl) (by kernel_rfl) (by kernel_rfl) (by kernel_rfl) (by kernel_rfl) (by kernel_rfl) (by exact fun _ _ _ h => h) (by rfl) (by intro W hW; obtain ⟨h1, h2⟩ := hW; go_simp) hSd ?_
          (try simp only [Act.put]); (try simp only [List.setIfInBounds_toArray]); (try simp only [List.set_cons_succ, List.set_cons_zero])
          refine E_take (i := 8) (.int .i64 (n : Int)) (by simp only [List.getElem?_toArray, List.getElem?_cons_succ, List.getElem?_cons_zero]; rfl) (by kernel_rfl) (by kernel_rfl) (by kernel_rfl) (by kernel_rfl) (by kernel_rfl) (by exact fun _ _ _ h => h) (by rfl) (by intro W hW; obtain ⟨h1, h2⟩ := hW; go_simp) hSd ?_
          (try simp only [Act.put]); (try simp only [List.setIfInBounds_toArray]); (try simp only [List.set_cons_succ, List.set_cons_zero])
          refine E_take (i := 9) (.slice (some ad) 0 0) (by simp only [List.getElem?_toArray, List.getElem?_cons_succ, List.getElem?_cons_zero]; rfl) (by kernel_rfl) (by kernel_rfl) (by kernel_rfl) (by kernel_rfl) (by kernel_rfl) (by exact fun _ _ _ h => h) (by rfl) (by intro W hW; obtain ⟨h1, h2⟩ := hW; go_simp) hSd ?_
          (try simp only [Act.put]); (try simp only [List.setIfInBounds_toArray]); (try simp only [List.set_cons_succ, List.set_cons_zero])
          refine E_two (i := 3) (k := 5) (by kernel_rfl) (by simp only [List.getElem?_toArray, List.getElem?_cons_succ, List.getElem?_cons_zero]; rfl) (by simp only [List.getElem?_toArray, List.getElem?_cons_succ, List.getElem?_cons_zero]; rfl) (fun K hK => ?_) (fun K hK => ?_)
          · have hBd : Below w3.heap.size w3 w3.drew := (Below.refl _ _).drew
            refine step_append_any rfl _ _ 22 rfl w3.heap.size 27 i0 (.agg #[.int .u64 0, .int .u64 0]) 2 16 Try.underlying22 hi hz0 hz1 hz2 rfl (by decide) (.slice none 0 0) 0 [] rfl (World.ownsRow_nil _ _ _ _) (some ad) n n ((l.take n).flatMap pairCells) rfl (by rw [flat_pairs_length, List.length_take]; omega) (news_first hv1 (hBd) hn) (pairs_one _) (by unfold maxLen; omega) (by omega) ((hBd).size) ?_
            intro S1 cap1 w4 own1 grow1
            simp only [Nat.zero_add, List.nil_append] at own1 ⊢
            have hB1 : Below w3.heap.size w3 w4 := Below.grown (hBd) grow1 (hBd).size (fun k h => by cases h)
            refine hK _ _ (fun _ => (r1.on (hB1)).two) ?_
            clear hK K
            (try simp only [Act.put]); (try simp only [List.setIfInBounds_toArray]); (try simp only [List.set_cons_succ, List.set_cons_zero])
            refine E_one (i := 5) (by kernel_rfl) (by simp only [List.getElem?_toArray, List.getElem?_cons_succ, List.getElem?_cons_zero]; rfl) (fun K hK => ?_)
            go_simp
            refine hK _ _ (fun _ => (r1.on (hB1.alloc hB1.size (.cells #[.int .u64 (p.1 : Int), .int .u64 (p.2 : Int)] 27))).two) ?_
            clear hK K
            (try simp only [Act.put]); (try simp only [List.setIfInBounds_toArray]); (try simp only [List.set_cons_succ, List.set_cons_zero])
            refine E_one (i := 6) (by kernel_rfl) (by simp only [List.getElem?_toArray, List.getElem?_cons_succ, List.getElem?_cons_zero]; rfl) (fun K hK => ?_)
            refine step_append_any rfl _ _ 22 rfl w3.heap.size 27 i0 (.agg #[.int .u64 0, .int .u64 0]) 2 16 Try.underlying22 hi hz0 hz1 hz2 rfl (by decide) (.slice S1 n cap1) n _ rfl (own1.alloc _) _ 1 1 [.int .u64 (p.1 : Int), .int .u64 (p.2 : Int)] rfl rfl (fun _ => ⟨_, rfl, news_pair (RowAt.new w4 27 #[.int .u64 (p.1 : Int), .int .u64 (p.2 : Int)])⟩) (by intro u hu0; simp at hu0; rcases hu0 with rfl | rfl <;> rfl) (by unfold maxLen; omega) (by omega) ((hB1.alloc hB1.size (.cells #[.int .u64 (p.1 : Int), .int .u64 (p.2 : Int)] 27)).size) ?_
            intro S2 cap2 w5 own2 grow2
            have hB2 : Below w3.heap.size w3 w5 := Below.grown (hB1.alloc hB1.size (.cells #[.int .u64 (p.1 : Int), .int .u64 (p.2 : Int)] 27)) grow2 (hB1.alloc hB1.size (.cells #[.int .u64 (p.1 : Int), .int .u64 (p.2 : Int)] 27)).size (fun k h => (own1.lt k h).1)
            refine hK _ _ (fun _ => (r1.on (hB2)).two) ?_
            clear hK K
            (try simp only [Act.put]); (try simp only [List.setIfInBounds_toArray]); (try simp only [List.set_cons_succ, List.set_cons_zero])
            refine E_one (i := 10) (by kernel_rfl) (by simp only [List.getElem?_toArray, List.getElem?_cons_succ, List.getElem?_cons_zero]; rfl) (fun K hK => ?_)
            refine step_append_any rfl _ _ 22 rfl w3.heap.size 27 i0 (.agg #[.int .u64 0, .int .u64 0]) 2 16 Try.underlying22 hi hz0 hz1 hz2 rfl (by decide) (.slice S2 (n + 1) cap2) (n + 1) _ rfl own2 (some ad) 0 0 ((l.drop n).flatMap pairCells) rfl (by rw [flat_pairs_length, List.length_drop]; omega) (fun h => absurd h (by omega)) (pairs_one _) (by unfold maxLen; omega) (by omega) hB2.size ?_
            intro S3 cap3 w6 own3 grow3
            have hB3 : Below w3.heap.size w3 w6 := Below.grown hB2 grow3 hB2.size (fun k h => (own2.lt k h).1)
            refine hK _ _ (fun _ => (r1.on (hB3)).two) ?_
            clear hK K
            (try simp only [Act.put]); (try simp only [List.setIfInBounds_toArray]); (try simp only [List.set_cons_succ, List.set_cons_zero])
            refine E_one (i := 11) (by kernel_rfl) (by simp only [List.getElem?_toArray, List.getElem?_cons_succ, List.getElem?_cons_zero]; rfl) (fun K hK => ?_)
            go_simp
            refine hK _ _ (fun h => absurd rfl h) ?_
            clear hK K
            refine E_done (by kernel_rfl) ?_ _
            obtain ⟨e1, e2⟩ := with_end (by omega) own3 HIN.out
            have e3 : n + 1 + 0 = (ins p l).length := by rw [ins_length]; omega
            rw [e3] at e1 e2
            clear own1 own2 own3 grow1 grow2 grow3
            go_simp
            go_wp2_with fail
            go_ret
            exact ⟨S3, cap3, by first | rfl | (rw [← e3]; rfl), e1, e2.less (Nat.le_trans b0.size hz1'), (b0.trans (hb3.mono b0.size)).trans (hB3.mono (Nat.le_trans b0.size hz1'))⟩
          · have hBd : Below w3.heap.size w3 (w3.drew.alloc (.cells #[.int .u64 (p.1 : Int), .int .u64 (p.2 : Int)] 27)) := ((Below.refl _ _).drew).alloc (Nat.le_refl _) _
            go_simp
            refine hK _ _ (fun _ => (r1.on (hBd)).two) ?_
            clear hK K
            (try simp only [Act.put]); (try simp only [List.setIfInBounds_toArray]); (try simp only [List.set_cons_succ, List.set_cons_zero])
            refine E_one (i := 3) (by kernel_rfl) (by simp only [List.getElem?_toArray, List.getElem?_cons_succ, List.getElem?_cons_zero]; rfl) (fun K hK => ?_)
            refine step_append_any rfl _ _ 22 rfl w3.heap.size 27 i0 (.agg #[.int .u64 0, .int .u64 0]) 2 16 Try.underlying22 hi hz0 hz1 hz2 rfl (by decide) (.slice none 0 0) 0 [] rfl (World.ownsRow_nil _ _ _ _) (some ad) n n ((l.take n).flatMap pairCells) rfl (by rw [flat_pairs_length, List.length_take]; omega) (news_first hv1 (hBd) hn) (pairs_one _) (by unfold maxLen; omega) (by omega) ((hBd).size) ?_
            intro S1 cap1 w4 own1 grow1
            simp only [Nat.zero_add, List.nil_append] at own1 ⊢
            have hB1 : Below w3.heap.size w3 w4 := Below.grown (hBd) grow1 (hBd).size (fun k h => by cases h)
            refine hK _ _ (fun _ => (r1.on (hB1)).two) ?_
            clear hK K
            (try simp only [Act.put]); (try simp only [List.setIfInBounds_toArray]); (try simp only [List.set_cons_succ, List.set_cons_zero])
            have rB : RowAt w4 w3.heap.size 27 [.int .u64 (p.1 : Int), .int .u64 (p.2 : Int)] := RowAt.grown (RowAt.new w3.drew 27 #[.int .u64 (p.1 : Int), .int .u64 (p.2 : Int)]) grow1 (by simp [Value.ownBlock])
            refine E_one (i := 6) (by kernel_rfl) (by simp only [List.getElem?_toArray, List.getElem?_cons_succ, List.getElem?_cons_zero]; rfl) (fun K hK => ?_)
            refine step_append_any rfl _ _ 22 rfl w3.heap.size 27 i0 (.agg #[.int .u64 0, .int .u64 0]) 2 16 Try.underlying22 hi hz0 hz1 hz2 rfl (by decide) (.slice S1 n cap1) n _ rfl (own1) _ 1 1 [.int .u64 (p.1 : Int), .int .u64 (p.2 : Int)] rfl rfl (fun _ => ⟨_, rfl, news_pair (rB)⟩) (by intro u hu0; simp at hu0; rcases hu0 with rfl | rfl <;> rfl) (by unfold maxLen; omega) (by omega) ((hB1).size) ?_
            intro S2 cap2 w5 own2 grow2
            have hB2 : Below w3.heap.size w3 w5 := Below.grown (hB1) grow2 (hB1).size (fun k h => (own1.lt k h).1)
            refine hK _ _ (fun _ => (r1.on (hB2)).two) ?_
            clear hK K
            (try simp only [Act.put]); (try simp only [List.setIfInBounds_toArray]); (try simp only [List.set_cons_succ, List.set_cons_zero])
            refine E_one (i := 10) (by kernel_rfl) (by simp only [List.getElem?_toArray, List.getElem?_cons_succ, List.getElem?_cons_zero]; rfl) (fun K hK => ?_)
            refine step_append_any rfl _ _ 22 rfl w3.heap.size 27 i0 (.agg #[.int .u64 0, .int .u64 0]) 2 16 Try.underlying22 hi hz0 hz1 hz2 rfl (by decide) (.slice S2 (n + 1) cap2) (n + 1) _ rfl own2 (some ad) 0 0 ((l.drop n).flatMap pairCells) rfl (by rw [flat_pairs_length, List.length_drop]; omega) (fun h => absurd h (by omega)) (pairs_one _) (by unfold maxLen; omega) (by omega) hB2.size ?_
            intro S3 cap3 w6 own3 grow3
            have hB3 : Below w3.heap.size w3 w6 := Below.grown hB2 grow3 hB2.size (fun k h => (own2.lt k h).1)
            refine hK _ _ (fun _ => (r1.on (hB3)).two) ?_
            clear hK K
            (try simp only [Act.put]); (try simp only [List.setIfInBounds_toArray]); (try simp only [List.set_cons_succ, List.set_cons_zero])
            refine E_one (i := 11) (by kernel_rfl) (by simp only [List.getElem?_toArray, List.getElem?_cons_succ, List.getElem?_cons_zero]; rfl) (fun K hK => ?_)
            go_simp
            refine hK _ _ (fun h => absurd rfl h) ?_
            clear hK K
            refine E_done (by kernel_rfl) ?_ _
            obtain ⟨e1, e2⟩ := with_end (by omega) own3 HIN.out
            have e3 : n + 1 + 0 = (ins p l).length := by rw [ins_length]; omega
            rw [e3] at e1 e2
            clear own1 own2 own3 grow1 grow2 grow3
            go_simp
            go_wp2_with fail
            go_ret
            exact ⟨S3, cap3, by first | rfl | (rw [← e3]; rfl), e1, e2.less (Nat.le_trans b0.size hz1'), (b0.trans (hb3.mono b0.size)).trans (hB3.mono (Nat.le_trans b0.size hz1'))⟩
        · have hcn1 : (c = n) = False := eq_false hcn
          have hcn2 : (c - n = 0) = False := eq_false (by omega)
          refine wp_region_E (fun W => W.cell? ⟨w.heap.size, 0, none⟩ = some (.int .u64 (p.1 : Int)) ∧ W.cell? ⟨w.heap.size, 1, none⟩ = some (.int .u64 (p.2 : Int))) 11 (by kernel_rfl) ?_
          have hSd : w3.drew.cell? ⟨w.heap.size, 0, none⟩ = some (.int .u64 (p.1 : Int)) ∧ w3.drew.cell? ⟨w.heap.size, 1, none⟩ = some (.int .u64 (p.2 : Int)) := ⟨x0, x1⟩
          refine E_take (i := 0) (.slice (some ad) l.length c) (by simp only [List.getElem?_toArray, List.getElem?_cons_zero]; rfl) (by kernel_rfl) (by kernel_rfl) (by kernel_rfl) (by kernel_rfl) (by kernel_rfl) (by exact fun _ _ _ h => h) (by rfl) (by intro W hW; obtain ⟨h1, h2⟩ := hW; go_simp) hSd ?_
          (try simp only [Act.put]); (try simp only [List.setIfInBounds_toArray]); (try simp only [List.set_cons_succ, List.set_cons_zero])
          refine E_take (i := 1) (.int .i64 (n : Int)) (by simp only [List.getElem?_toArray, List.getElem?_cons_succ, List.getElem?_cons_zero]; rfl) (by kernel_rfl) (by kernel_rfl) (by kernel_rfl) (by kernel_rfl) (by kernel_rfl) (by exact fun _ _ _ h => h) (by rfl) (by intro W hW; obtain ⟨h1, h2⟩ := hW; go_simp) hSd ?_
          (try simp only [Act.put]); (try simp only [List.setIfInBounds_toArray]); (try simp only [List.set_cons_succ, List.set_cons_zero])
          refine E_take (i := 2) (.slice (some ad) n c) (by simp only [List.getElem?_toArray, List.getElem?_cons_succ, List.getElem?_cons_zero]; rfl) (by kernel_rfl) (by kernel_rfl) (by kernel_rfl) (by kernel_rfl) (by kernel_rfl) (by exact fun _ _ _ h => h) (by rfl) (by intro W hW; obtain ⟨h1, h2⟩ := hW; go_simp) hSd ?_
          (try simp only [Act.put]); (try simp only [List.setIfInBounds_toArray]); (try simp only [List.set_cons_succ, List.set_cons_zero])
          refine E_take (i := 4) (.agg #[.int .u64 (p.1 : Int), .int .u64 (p.2 : Int)]) (by simp only [List.getElem?_toArray, List.getElem?_cons_succ, List.getElem?_cons_zero]; rfl) (by kernel_rfl) (by kernel_rfl) (by kernel_rfl) (by kernel_rfl) (by kernel_rfl) (by exact fun _ _ _ h => h) (by rfl) (by intro W hW; obtain ⟨h1, h2⟩ := hW; go_simp) hSd ?_
          (try simp only [Act.put]); (try simp only [List.setIfInBounds_toArray]); (try simp only [List.set_cons_succ, List.set_cons_zero])
          refine E_take (i := 7) (.slice (some ad) l.length c) (by simp only [List.getElem?_toArray, List.getElem?_cons_succ, List.getElem?_cons_zero]; rfl) (by kernel_rfl) (by kernel_rfl) (by kernel_rfl) (by kernel_rfl) (by kernel_rfl) (by exact fun _ _ _ h => h) (by rfl) (by intro W hW; obtain ⟨h1, h2⟩ := hW; go_simp) hSd ?_
          (try simp only [Act.put]); (try simp only [List.setIfInBounds_toArray]); (try simp only [List.set_cons_succ, List.set_cons_zero])
          refine E_take (i := 8) (.int .i64 (n : Int)) (by simp only [List.getElem?_toArray, List.getElem?_cons_succ, List.getElem?_cons_zero]; rfl) (by kernel_rfl) (by kernel_rfl) (by kernel_rfl) (by kernel_rfl) (by kernel_rfl) (by exact fun _ _ _ h => h) (by rfl) (by intro W hW; obtain ⟨h1, h2⟩ := hW; go_simp) hSd ?_
          (try simp only [Act.put]); (try simp only [List.setIfInBounds_toArray]); (try simp only [List.set_cons_succ, List.set_cons_zero])
          refine E_take (i := 9) (.slice (some (ad.add (n * 2))) (l.length - n) (c - n)) (by simp only [List.getElem?_toArray, List.getElem?_cons_succ, List.getElem?_cons_zero]; rfl) (by kernel_rfl) (by kernel_rfl) (by kernel_rfl) (by kernel_rfl) (by kernel_rfl) (by exact fun _ _ _ h => h) (by rfl) (by intro W hW; obtain ⟨h1, h2⟩ := hW; go_simp) hSd ?_
          (try simp only [Act.put]); (try simp only [List.setIfInBounds_toArray]); (try simp only [List.set_cons_succ, List.set_cons_zero])
          refine E_two (i := 3) (k := 5) (by kernel_rfl) (by simp only [List.getElem?_toArray, List.getElem?_cons_succ, List.getElem?_cons_zero]; rfl) (by simp only [List.getElem?_toArray, List.getElem?_cons_succ, List.getElem?_cons_zero]; rfl) (fun K hK => ?_) (fun K hK => ?_)
          · have hBd : Below w3.heap.size w3 w3.drew := (Below.refl _ _).drew
            refine step_append_any rfl _ _ 22 rfl w3.heap.size 27 i0 (.agg #[.int .u64 0, .int .u64 0]) 2 16 Try.underlying22 hi hz0 hz1 hz2 rfl (by decide) (.slice none 0 0) 0 [] rfl (World.ownsRow_nil _ _ _ _) (some ad) n c ((l.take n).flatMap pairCells) rfl (by rw [flat_pairs_length, List.length_take]; omega) (news_first hv1 (hBd) hn) (pairs_one _) (by unfold maxLen; omega) (by omega) ((hBd).size) ?_
            intro S1 cap1 w4 own1 grow1
            simp only [Nat.zero_add, List.nil_append] at own1 ⊢
            have hB1 : Below w3.heap.size w3 w4 := Below.grown (hBd) grow1 (hBd).size (fun k h => by cases h)
            refine hK _ _ (fun _ => (r1.on (hB1)).two) ?_
            clear hK K
            (try simp only [Act.put]); (try simp only [List.setIfInBounds_toArray]); (try simp only [List.set_cons_succ, List.set_cons_zero])
            refine E_one (i := 5) (by kernel_rfl) (by simp only [List.getElem?_toArray, List.getElem?_cons_succ, List.getElem?_cons_zero]; rfl) (fun K hK => ?_)
            go_simp
            refine hK _ _ (fun _ => (r1.on (hB1.alloc hB1.size (.cells #[.int .u64 (p.1 : Int), .int .u64 (p.2 : Int)] 27))).two) ?_
            clear hK K
            (try simp only [Act.put]); (try simp only [List.setIfInBounds_toArray]); (try simp only [List.set_cons_succ, List.set_cons_zero])
            refine E_one (i := 6) (by kernel_rfl) (by simp only [List.getElem?_toArray, List.getElem?_cons_succ, List.getElem?_cons_zero]; rfl) (fun K hK => ?_)
            refine step_append_any rfl _ _ 22 rfl w3.heap.size 27 i0 (.agg #[.int .u64 0, .int .u64 0]) 2 16 Try.underlying22 hi hz0 hz1 hz2 rfl (by decide) (.slice S1 n cap1) n _ rfl (own1.alloc _) _ 1 1 [.int .u64 (p.1 : Int), .int .u64 (p.2 : Int)] rfl rfl (fun _ => ⟨_, rfl, news_pair (RowAt.new w4 27 #[.int .u64 (p.1 : Int), .int .u64 (p.2 : Int)])⟩) (by intro u hu0; simp at hu0; rcases hu0 with rfl | rfl <;> rfl) (by unfold maxLen; omega) (by omega) ((hB1.alloc hB1.size (.cells #[.int .u64 (p.1 : Int), .int .u64 (p.2 : Int)] 27)).size) ?_
            intro S2 cap2 w5 own2 grow2
            have hB2 : Below w3.heap.size w3 w5 := Below.grown (hB1.alloc hB1.size (.cells #[.int .u64 (p.1 : Int), .int .u64 (p.2 : Int)] 27)) grow2 (hB1.alloc hB1.size (.cells #[.int .u64 (p.1 : Int), .int .u64 (p.2 : Int)] 27)).size (fun k h => (own1.lt k h).1)
            refine hK _ _ (fun _ => (r1.on (hB2)).two) ?_
            clear hK K
            (try simp only [Act.put]); (try simp only [List.setIfInBounds_toArray]); (try simp only [List.set_cons_succ, List.set_cons_zero])
            refine E_one (i := 10) (by kernel_rfl) (by simp only [List.getElem?_toArray, List.getElem?_cons_succ, List.getElem?_cons_zero]; rfl) (fun K hK => ?_)
            refine step_append_any rfl _ _ 22 rfl w3.heap.size 27 i0 (.agg #[.int .u64 0, .int .u64 0]) 2 16 Try.underlying22 hi hz0 hz1 hz2 rfl (by decide) (.slice S2 (n + 1) cap2) (n + 1) _ rfl own2 (some (ad.add (n * 2))) (l.length - n) (c - n) ((l.drop n).flatMap pairCells) rfl (by rw [flat_pairs_length, List.length_drop]) (news_rest hv1 hB2) (pairs_one _) (by unfold maxLen; omega) (by omega) hB2.size ?_
            intro S3 cap3 w6 own3 grow3
            have hB3 : Below w3.heap.size w3 w6 := Below.grown hB2 grow3 hB2.size (fun k h => (own2.lt k h).1)
            refine hK _ _ (fun _ => (r1.on (hB3)).two) ?_
            clear hK K
            (try simp only [Act.put]); (try simp only [List.setIfInBounds_toArray]); (try simp only [List.set_cons_succ, List.set_cons_zero])
            refine E_one (i := 11) (by kernel_rfl) (by simp only [List.getElem?_toArray, List.getElem?_cons_succ, List.getElem?_cons_zero]; rfl) (fun K hK => ?_)
            go_simp
            refine hK _ _ (fun h => absurd rfl h) ?_
            clear hK K
            refine E_done (by kernel_rfl) ?_ _
            obtain ⟨e1, e2⟩ := with_end (by omega) own3 HIN.out
            have e3 : n + 1 + (l.length - n) = (ins p l).length := by rw [ins_length]; omega
            rw [e3] at e1 e2
            clear own1 own2 own3 grow1 grow2 grow3
            go_simp
            go_wp2_with fail
            go_ret
            exact ⟨S3, cap3, by first | rfl | (rw [← e3]; rfl), e1, e2.less (Nat.le_trans b0.size hz1'), (b0.trans (hb3.mono b0.size)).trans (hB3.mono (Nat.le_trans b0.size hz1'))⟩
          · have hBd : Below w3.heap.size w3 (w3.drew.alloc (.cells #[.int .u64 (p.1 : Int), .int .u64 (p.2 : Int)] 27)) := ((Below.refl _ _).drew).alloc (Nat.le_refl _) _
            go_simp
            refine hK _ _ (fun _ => (r1.on (hBd)).two) ?_
            clear hK K
            (try simp only [Act.put]); (try simp only [List.setIfInBounds_toArray]); (try simp only [List.set_cons_succ, List.set_cons_zero])
            refine E_one (i := 3) (by kernel_rfl) (by simp only [List.getElem?_toArray, List.getElem?_cons_succ, List.getElem?_cons_zero]; rfl) (fun K hK => ?_)
            refine step_append_any rfl _ _ 22 rfl w3.heap.size 27 i0 (.agg #[.int .u64 0, .int .u64 0]) 2 16 Try.underlying22 hi hz0 hz1 hz2 rfl (by decide) (.slice none 0 0) 0 [] rfl (World.ownsRow_nil _ _ _ _) (some ad) n c ((l.take n).flatMap pairCells) rfl (by rw [flat_pairs_length, List.length_take]; omega) (news_first hv1 (hBd) hn) (pairs_one _) (by unfold maxLen; omega) (by omega) ((hBd).size) ?_
            intro S1 cap1 w4 own1 grow1
            simp only [Nat.zero_add, List.nil_append] at own1 ⊢
            have hB1 : Below w3.heap.size w3 w4 := Below.grown (hBd) grow1 (hBd).size (fun k h => by cases h)
            refine hK _ _ (fun _ => (r1.on (hB1)).two) ?_
            clear hK K
            (try simp only [Act.put]); (try simp only [List.setIfInBounds_toArray]); (try simp only [List.set_cons_succ, List.set_cons_zero])
            have rB : RowAt w4 w3.heap.size 27 [.int .u64 (p.1 : Int), .int .u64 (p.2 : Int)] := RowAt.grown (RowAt.new w3.drew 27 #[.int .u64 (p.1 : Int), .int .u64 (p.2 : Int)]) grow1 (by simp [Value.ownBlock])
            refine E_one (i := 6) (by kernel_rfl) (by simp only [List.getElem?_toArray, List.getElem?_cons_succ, List.getElem?_cons_zero]; rfl) (fun K hK => ?_)
            refine step_append_any rfl _ _ 22 rfl w3.heap.size 27 i0 (.agg #[.int .u64 0, .int .u64 0]) 2 16 Try.underlying22 hi hz0 hz1 hz2 rfl (by decide) (.slice S1 n cap1) n _ rfl (own1) _ 1 1 [.int .u64 (p.1 : Int), .int .u64 (p.2 : Int)] rfl rfl (fun _ => ⟨_, rfl, news_pair (rB)⟩) (by intro u hu0; simp at hu0; rcases hu0 with rfl | rfl <;> rfl) (by unfold maxLen; omega) (by omega) ((hB1).size) ?_
            intro S2 cap2 w5 own2 grow2
            have hB2 : Below w3.heap.size w3 w5 := Below.grown (hB1) grow2 (hB1).size (fun k h => (own1.lt k h).1)
            refine hK _ _ (fun _ => (r1.on (hB2)).two) ?_
            clear hK K
            (try simp only [Act.put]); (try simp only [List.setIfInBounds_toArray]); (try simp only [List.set_cons_succ, List.set_cons_zero])
            refine E_one (i := 10) (by kernel_rfl) (by simp only [List.getElem?_toArray, List.getElem?_cons_succ, List.getElem?_cons_zero]; rfl) (fun K hK => ?_)
            refine step_append_any rfl _ _ 22 rfl w3.heap.size 27 i0 (.agg #[.int .u64 0, .int .u64 0]) 2 16 Try.underlying22 hi hz0 hz1 hz2 rfl (by decide) (.slice S2 (n + 1) cap2) (n + 1) _ rfl own2 (some (ad.add (n * 2))) (l.length - n) (c - n) ((l.drop n).flatMap pairCells) rfl (by rw [flat_pairs_length, List.length_drop]) (news_rest hv1 hB2) (pairs_one _) (by unfold maxLen; omega) (by omega) hB2.size ?_
            intro S3 cap3 w6 own3 grow3
            have hB3 : Below w3.heap.size w3 w6 := Below.grown hB2 grow3 hB2.size (fun k h => (own2.lt k h).1)
            refine hK _ _ (fun _ => (r1.on (hB3)).two) ?_
            clear hK K
            (try simp only [Act.put]); (try simp only [List.setIfInBounds_toArray]); (try simp only [List.set_cons_succ, List.set_cons_zero])
            refine E_one (i := 11) (by kernel_rfl) (by simp only [List.getElem?_toArray, List.getElem?_cons_succ, List.getElem?_cons_zero]; rfl) (fun K hK => ?_)
            go_simp
            refine hK _ _ (fun h => absurd rfl h) ?_
            clear hK K
            refine E_done (by kernel_rfl) ?_ _
            obtain ⟨e1, e2⟩ := with_end (by omega) own3 HIN.out
            have e3 : n + 1 + (l.length - n) = (ins p l).length := by rw [ins_length]; omega
            rw [e3] at e1 e2
            clear own1 own2 own3 grow1 grow2 grow3
            go_simp
            go_wp2_with fail
            go_ret
            exact ⟨S3, cap3, by first | rfl | (rw [← e3]; rfl), e1, e2.less (Nat.le_trans b0.size hz1'), (b0.trans (hb3.mono b0.size)).trans (hB3.mono (Nat.le_trans b0.size hz1'))⟩
end Go.Proofs.Ytjjccoliknngcaa

namespace Go.Proofs.Ytjjccoliknngcaa
open Go.RowKit

theorem tk_of {w : World} {v : Value} {f : Bool} {l : List Pr} (h : Prs w w.heap.size v l) : Tk w (.agg #[.bool f, v]) f l := ⟨_, rfl, h⟩
theorem from_none (lo n c : Nat) : FromOn lo (.slice none n c) := fun ad _ _ e => by cases e
theorem orPairs_any (va vb : Value) (a b : List Pr) (w : World) (ha : Prs w w.heap.size va a) (hb : Prs w w.heap.size vb b) (h9 : a.length ≤ 1000000) (h9b : b.length ≤ 1000000) :
    Calls Try.prog 18 #[va, vb] w fun e w' => e = .returned (.bool (decide (a = b))) ∧ Below w.heap.size w w' := by
  obtain ⟨A, c, rfl, hc⟩ := ha.form
  obtain ⟨B, d, rfl, hd⟩ := hb.form
  have cS := fun W hx hy => Same_eq (.agg #[.bool false, .slice A a.length c]) (.agg #[.bool false, .slice B b.length d]) false false a b W _ rfl hx hy h9 h9b
  have e : sameT false false a b = decide (a = b) := by simp [sameT]
  rw [e] at cS
  go_enter Try.func18, Try.ntmps18
  go_wp2_with fail
  with_reducible refine (cS _ (tk_of ha) (tk_of hb)).mono ?_
  rintro e w1 ⟨rfl, b1⟩
  go_wp2_with fail
  go_ret
  exact ⟨rfl, b1⟩

theorem news_all {w W : World} {A : Option Addr} {c : Nat} {l : List Pr} (hP : Prs w w.heap.size (.slice A l.length c) l) (hb : Below w.heap.size w W) :
    0 < l.length → ∃ ad, A = some ad ∧ ∀ j u, (l.flatMap pairCells)[j]? = some u → W.cell? (ad.add j) = some u := by
  have := news_first hP hb (Nat.le_refl _)
  rwa [List.take_length] at this
theorem Prs.read {w : World} {B : Nat} {A : Option Addr} {n c k : Nat} {l : List Pr} (h : Prs w B (.slice A n c) l) (hk : k < l.length) :
    ∃ ad : Addr, A = some ad ∧ w.cell? (ad.add (k * 2)) = some (.int .u64 ((l[k]).1 : Int)) ∧ w.cell? ⟨(ad.add (k * 2)).block, (ad.add (k * 2)).off + 1, none⟩ = some (.int .u64 ((l[k]).2 : Int)) := by
  obtain ⟨ad, e, _, h1, h2⟩ := h.at_ hk
  exact ⟨ad, e, h1, h2⟩

set_option maxHeartbeats 2000000 in
theorem orAdd_any (v u : Value) (t m : List Pr) (w : World) (hv : Prs w w.heap.size v t) (hu : Prs w w.heap.size u m) (h9 : t.length ≤ 100000) (h9m : m.length ≤ 100000) :
    Calls Try.prog 13 #[v, u] w fun e w' => ∃ A c, e = .returned (.tuple #[.slice A (addO t m).1.length c, .int .i64 (addO t m).2]) ∧ Prs w' w'.heap.size (.slice A (addO t m).1.length c) (addO t m).1 ∧ FromOn w.heap.size (.slice A (addO t m).1.length c) ∧ Below w.heap.size w w' := by
  obtain ⟨i0, hi, hz0, hz1, hz2⟩ := info_parts info_pair
  obtain ⟨A, c, rfl, hc⟩ := hv.form
  obtain ⟨B, d, rfl, hd⟩ := hu.form
  have cR := orRight_any (.slice A t.length c) t w hv (by omega)
  obtain ⟨RE, hRE⟩ : ∃ RE, addO t m = RE := ⟨_, rfl⟩
  rw [hRE]
  obtain ⟨R, E⟩ := RE
  unfold addO at hRE
  cases hr : rightO t
  · rw [hr] at cR hRE
    rw [if_neg (by simp)] at hRE
    cases hRE
    go_enter Try.func13, Try.ntmps13
    go_wp2_with fail
    with_reducible refine cR.mono ?_
    rintro e w1 ⟨rfl, b1⟩
    go_wp2_with fail
    go_ret2
    exact ⟨none, 0, rfl, Prs.nil _ _, from_none _ _ _, b1⟩
  · rw [hr] at cR hRE
    rw [if_pos rfl] at hRE
    have HRE := Lib.hid hRE
    clear hRE
    have hrt := ((rightO_iff t).1 hr).2
    have ht9 := ((rightO_iff t).1 hr).1
    go_enter Try.func13, Try.ntmps13
    go_wp2_with fail
    with_reducible refine cR.mono ?_
    rintro e w1 ⟨rfl, b1⟩
    clear cR
    have hz := b1.size
    go_wp2_with (at_builtin; refine wpList_append_any rfl _ _ 22 rfl w.heap.size 27 i0 (.agg #[.int .u64 0, .int .u64 0]) 2 16 Try.underlying22 hi hz0 hz1 hz2 rfl (by decide) (.slice none 0 0) 0 [] rfl (World.ownsRow_nil _ _ _ _) A t.length c (t.flatMap pairCells) rfl (by rw [flat_pairs_length]) (news_all hv b1) (pairs_one _) (by unfold maxLen; omega) (by omega) hz ?_; intro S1 cap1 w2 own1 grow1)
    simp only [Nat.zero_add, List.nil_append] at own1 ⊢
    have hB1 : Below w.heap.size w w2 := Below.grown b1 grow1 hz (fun k h => by cases h)
    have P1 : Prs w2 w2.heap.size (.slice S1 t.length cap1) t := Prs.own own1
    have F1 : FromOn w.heap.size (.slice S1 t.length cap1) := from_own own1
    clear own1 grow1 b1 hz hv
    go_wp2_with fail
    go_loopw [7, 8] (fun x i wr => ∃ k : Nat, k ≤ m.length ∧ i = .int .i64 k ∧ (∃ A c, x = .slice A (addL t (m.take k)).length c ∧ Prs wr wr.heap.size (.slice A (addL t (m.take k)).length c) (addL t (m.take k)) ∧ FromOn w.heap.size (.slice A (addL t (m.take k)).length c)) ∧ Below w.heap.size w wr) (fun _ i _ => m.length - (intOf i).toNat)
    case atStart => exact ⟨0, Nat.zero_le _, rfl, ⟨_, _, rfl, P1, F1⟩, hB1⟩
    case round =>
      obtain ⟨k, hk, rfl, ⟨O, oc, rfl, hP, hF⟩, hb⟩ := hrel
      by_cases hlt : k < m.length
      · have hrO : Rise (addL t (m.take k)) := addL_rise hrt
        have hO9 := (addL_length t (m.take k)).2
        rw [List.length_take] at hO9
        have HS := Lib.hid (show addL t (m.take (k + 1)) = put1 (addL t (m.take k)) m[k] by rw [List.take_succ_eq_append_getElem hlt, addL_snoc])
        obtain ⟨ad, rfl, q0, q1⟩ := (hu.on hb).read hlt
        have cI := orin_any _ _ m[k] wr hP (by omega)
        generalize addL t (m.take k) = o at *
        go_wp2_with fail
        with_reducible refine cI.mono ?_
        rintro e w3 ⟨rfl, b3⟩
        have hb3 := hb.trans (b3.mono hb.size)
        have hP3 := hP.on b3
        obtain ⟨_, e, q2, q3⟩ := (hu.on hb3).read hlt
        cases e
        have cW := orwith_any _ _ m[k] w3 hP3 hrO.srt (by omega)
        clear q0 q1 cI hP b3
        generalize m[k] = p at *
        by_cases hin : p ∈ o
        · have hd : decide (p ∈ o) = true := decide_eq_true hin
          have HS2 := Lib.hid (HS.out.trans (if_pos hin))
          clear HS hin cW
          go_wp2_with fail
          go_roundw
          case rel => exact ⟨k + 1, by omega, by go_num, ⟨O, oc, by rw [HS2.out], by rw [HS2.out]; exact hP3, by rw [HS2.out]; exact hF⟩, hb3⟩
          case measure => simp [intOf]; omega
        · have hd : decide (p ∈ o) = false := decide_eq_false hin
          have HS2 := Lib.hid (HS.out.trans (if_neg hin))
          clear HS hin
          go_wp2_with fail
          with_reducible refine cW.mono ?_
          rintro e w4 ⟨O2, oc2, rfl, hP4, hF4, b4⟩
          have hb4 := hb3.trans (b4.mono hb3.size)
          have hF5 := hF4.less hb3.size
          clear cW hP3 hF hF4 b4 q2 q3
          generalize ins p o = o2 at *
          go_wp2_with fail
          go_roundw
          case rel => exact ⟨k + 1, by omega, by go_num, ⟨O2, oc2, by rw [HS2.out], by rw [HS2.out]; exact hP4, by rw [HS2.out]; exact hF5⟩, hb4⟩
          case measure => simp [intOf]; omega
      · obtain rfl : k = m.length := by omega
        rw [List.take_length] at hP hF ⊢
        have hRE := HRE.out
        clear HRE
        generalize addL t m = o at *
        by_cases hl : 4096 < o.length
        · have hd : ((4096 : Int) < (o.length : Int)) = True := eq_true (by omega)
          rw [if_pos hl] at hRE
          cases hRE
          go_wp2_with fail
          go_ret2
          exact ⟨none, 0, rfl, Prs.nil _ _, from_none _ _ _, hb⟩
        · have hd : ((4096 : Int) < (o.length : Int)) = False := eq_false (by omega)
          rw [if_neg hl] at hRE
          cases hRE
          go_wp2_with fail
          go_ret2
          exact ⟨O, oc, rfl, hP, hF, hb⟩
end Go.Proofs.Ytjjccoliknngcaa
