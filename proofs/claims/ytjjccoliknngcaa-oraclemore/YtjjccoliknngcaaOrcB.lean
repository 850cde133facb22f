/- The document's own answers of layer 7: with, Pairs, Add, Sign. -/
import Derived.Test.YtjjccoliknngcaaOrcA
namespace Go.Proofs.Ytjjccoliknngcaa
open Go.RowKit

theorem Prs.not_none {w : World} {B c : Nat} {l : List Pr} (h : Prs w B (.slice none l.length c) l) : l = [] ∧ c = 0 := by
  obtain ⟨A', c', hv, hc', ha⟩ := h
  injection hv with h1 h2 h3
  subst h1; subst h3
  refine ⟨?_, hc'.2 rfl⟩
  rcases Nat.eq_zero_or_pos l.length with h0 | h0
  · exact List.eq_nil_of_length_eq_zero h0
  · obtain ⟨ad, e, _⟩ := ha h0; cases e
theorem with_end {w3 : World} {lo n m cap : Nat} {S : Option Addr} {l : List Pr} {p : Pr} (hm : n + m = l.length)
    (own : w3.ownsRow lo 27 2 (.slice S (n + 1 + m) cap) (n + 1 + m) (((l.take n).flatMap pairCells ++ [.int .u64 (p.1 : Int), .int .u64 (p.2 : Int)]) ++ (l.drop n).flatMap pairCells))
    (hin : l.take n ++ p :: l.drop n = ins p l) : Prs w3 w3.heap.size (.slice S (n + 1 + m) cap) (ins p l) ∧ FromOn lo (.slice S (n + 1 + m) cap) := by
  have e : n + 1 + m = (ins p l).length := by rw [ins_length]; omega
  have R : w3.ownsRow lo 27 2 (.slice S (n + 1 + m) cap) (ins p l).length ((ins p l).flatMap pairCells) := by
    rw [← e, ← hin, List.flatMap_append, List.flatMap_cons]
    rw [List.append_assoc] at own
    exact own
  exact ⟨Prs.own R, from_own own⟩

set_option maxHeartbeats 8000000 in
set_option maxRecDepth 100000 in
theorem orwith_any (v : Value) (l : List Pr) (p : Pr) (w : World) (hv : Prs w w.heap.size v l) (hs : srt l = true) (h9 : l.length ≤ 1000000) :
    Calls Try.prog 35 #[v, .agg #[.int .u64 (p.1 : Int), .int .u64 (p.2 : Int)]] w fun e w' => ∃ A c, e = .returned (.slice A (ins p l).length c) ∧ Prs w' w'.heap.size (.slice A (ins p l).length c) (ins p l) ∧ FromOn w.heap.size (.slice A (ins p l).length c) ∧ Below w.heap.size w w' := by
  obtain ⟨i0, hi, hz0, hz1, hz2⟩ := info_parts info_pair
  obtain ⟨A, c, rfl, hc⟩ := hv.form
  go_enter Try.func35, Try.ntmps35
  go_wp2_with fail
  have r0 := RowAt.new w 27 #[.int .u64 (p.1 : Int), .int .u64 (p.2 : Int)]
  have b0 := (Below.refl w.heap.size w).alloc (Nat.le_refl _) (.cells #[.int .u64 (p.1 : Int), .int .u64 (p.2 : Int)] 27)
  have hv0 := hv.alloc (.cells #[.int .u64 (p.1 : Int), .int .u64 (p.2 : Int)] 27)
  generalize w.alloc (.cells #[.int .u64 (p.1 : Int), .int .u64 (p.2 : Int)] 27) = w0 at *
  clear hv
  go_loopw [5] (fun i wr => ∃ n : Nat, n ≤ l.length ∧ i = .int .i64 n ∧ (∀ i (hi : i < l.length), n ≤ i → aheadB l[i] p = false) ∧ Below w0.heap.size w0 wr) (fun i _ => (intOf i).toNat)
  case atStart => exact ⟨l.length, Nat.le_refl _, rfl, fun i hi h => by omega, Below.refl _ _⟩
  case round =>
    obtain ⟨n, hn, rfl, hb1, hb⟩ := hrel
    obtain ⟨x0, x1⟩ := (r0.on hb).laters
    have hz := hb.size
    have HB := Lib.hid hb1
    clear hb1
    rcases Nat.eq_zero_or_pos n with h0 | hpos
    · have HIN := Lib.hid (ins_where hs n hn HB.out (fun i hi h => by omega))
      have hd : ((0 : Int) < (n : Int)) = False := eq_false (by omega)
      have hd2 : (0 < n) = False := eq_false (by omega)
      clear HB h0
      go_wp2_with fail
      refine wp_region_later (by kernel_rfl) (by kernel_rfl) ?_
      repeat (go_big_quiet_step (fail))
      refine wpQuiet_nil ?_
      intro _ hw'
      obtain ⟨pq, rfl⟩ := hw'
      have hb3 : Below w0.heap.size w0 pq.W := hb.trans (pq.h.mono hz)
      clear x0 x1 hb
      generalize pq.W = w3 at *
      have hz1' : w0.heap.size ≤ w3.heap.size := hb3.size
      have r1 := r0.on hb3
      have hv1 := hv0.on hb3
      obtain ⟨x0, x1⟩ := r1.two
      have n1 : (n : Int) ≤ (l.length : Int) := by omega
      have n2 : (0 : Int) ≤ (n : Int) := by omega
      have n3 : (n : Int) ≤ (c : Int) := by omega
      go_wp2_with fail
      cases A with
      | none =>
        obtain ⟨rfl, rfl⟩ := hv1.not_none
        obtain rfl : 0 = n := by simp at hn; omega
        simp only [List.length_nil] at *
        refine wp_region_E (fun W => W.cell? ⟨w.heap.size, 0, none⟩ = some (.int .u64 (p.1 : Int)) ∧ W.cell? ⟨w.heap.size, 1, none⟩ = some (.int .u64 (p.2 : Int))) 11 (by kernel_rfl) ?_
        have hSd : w3.drew.cell? ⟨w.heap.size, 0, none⟩ = some (.int .u64 (p.1 : Int)) ∧ w3.drew.cell? ⟨w.heap.size, 1, none⟩ = some (.int .u64 (p.2 : Int)) := ⟨x0, x1⟩
        refine E_take (i := 0) (.slice none 0 0) (by simp only [List.getElem?_toArray, List.getElem?_cons_zero]; rfl) (by kernel_rfl) (by kernel_rfl) (by kernel_rfl) (by kernel_rfl) (by kernel_rfl) (by exact fun _ _ _ h => h) (by rfl) (by intro W hW; obtain ⟨h1, h2⟩ := hW; go_simp) hSd ?_
        (try simp only [Act.put]); (try simp only [List.setIfInBounds_toArray]); (try simp only [List.set_cons_succ, List.set_cons_zero])
        refine E_take (i := 1) (.int .i64 0) (by simp only [List.getElem?_toArray, List.getElem?_cons_succ, List.getElem?_cons_zero]; rfl) (by kernel_rfl) (by kernel_rfl) (by kernel_rfl) (by kernel_rfl) (by kernel_rfl) (by exact fun _ _ _ h => h) (by rfl) (by intro W hW; obtain ⟨h1, h2⟩ := hW; go_simp) hSd ?_
        (try simp only [Act.put]); (try simp only [List.setIfInBounds_toArray]); (try simp only [List.set_cons_succ, List.set_cons_zero])
        refine E_take (i := 2) (.slice none 0 0) (by simp only [List.getElem?_toArray, List.getElem?_cons_succ, List.getElem?_cons_zero]; rfl) (by kernel_rfl) (by kernel_rfl) (by kernel_rfl) (by kernel_rfl) (by kernel_rfl) (by exact fun _ _ _ h => h) (by rfl) (by intro W hW; obtain ⟨h1, h2⟩ := hW; go_simp) hSd ?_
        (try simp only [Act.put]); (try simp only [List.setIfInBounds_toArray]); (try simp only [List.set_cons_succ, List.set_cons_zero])
        refine E_take (i := 4) (.agg #[.int .u64 (p.1 : Int), .int .u64 (p.2 : Int)]) (by simp only [List.getElem?_toArray, List.getElem?_cons_succ, List.getElem?_cons_zero]; rfl) (by kernel_rfl) (by kernel_rfl) (by kernel_rfl) (by kernel_rfl) (by kernel_rfl) (by exact fun _ _ _ h => h) (by rfl) (by intro W hW; obtain ⟨h1, h2⟩ := hW; go_simp) hSd ?_
        (try simp only [Act.put]); (try simp only [List.setIfInBounds_toArray]); (try simp only [List.set_cons_succ, List.set_cons_zero])
        refine E_take (i := 7) (.slice none 0 0) (by simp only [List.getElem?_toArray, List.getElem?_cons_succ, List.getElem?_cons_zero]; rfl) (by kernel_rfl) (by kernel_rfl) (by kernel_rfl) (by kernel_rfl) (by kernel_rfl) (by exact fun _ _ _ h => h) (by rfl) (by intro W hW; obtain ⟨h1, h2⟩ := hW; go_simp) hSd ?_
        (try simp only [Act.put]); (try simp only [List.setIfInBounds_toArray]); (try simp only [List.set_cons_succ, List.set_cons_zero])
        refine E_take (i := 8) (.int .i64 0) (by simp only [List.getElem?_toArray, List.getElem?_cons_succ, List.getElem?_cons_zero]; rfl) (by kernel_rfl) (by kernel_rfl) (by kernel_rfl) (by kernel_rfl) (by kernel_rfl) (by exact fun _ _ _ h => h) (by rfl) (by intro W hW; obtain ⟨h1, h2⟩ := hW; go_simp) hSd ?_
        (try simp only [Act.put]); (try simp only [List.setIfInBounds_toArray]); (try simp only [List.set_cons_succ, List.set_cons_zero])
        refine E_take (i := 9) (.slice none 0 0) (by simp only [List.getElem?_toArray, List.getElem?_cons_succ, List.getElem?_cons_zero]; rfl) (by kernel_rfl) (by kernel_rfl) (by kernel_rfl) (by kernel_rfl) (by kernel_rfl) (by exact fun _ _ _ h => h) (by rfl) (by intro W hW; obtain ⟨h1, h2⟩ := hW; go_simp) hSd ?_
        (try simp only [Act.put]); (try simp only [List.setIfInBounds_toArray]); (try simp only [List.set_cons_succ, List.set_cons_zero])
        refine E_two (i := 3) (k := 5) (by kernel_rfl) (by simp only [List.getElem?_toArray, List.getElem?_cons_succ, List.getElem?_cons_zero]; rfl) (by simp only [List.getElem?_toArray, List.getElem?_cons_succ, List.getElem?_cons_zero]; rfl) (fun K hK => ?_) (fun K hK => ?_)
        · have hBd : Below w3.heap.size w3 w3.drew := (Below.refl _ _).drew
          refine step_append_any rfl _ _ 22 rfl w3.heap.size 27 i0 (.agg #[.int .u64 0, .int .u64 0]) 2 16 Try.underlying22 hi hz0 hz1 hz2 rfl (by decide) (.slice none 0 0) 0 [] rfl (World.ownsRow_nil _ _ _ _) none 0 0 ((([] : List Pr).take 0).flatMap pairCells) rfl (by rw [flat_pairs_length, List.length_take]; omega) (news_first hv1 (hBd) hn) (pairs_one _) (by unfold maxLen; omega) (by omega) ((hBd).size) ?_
          intro S1 cap1 w4 own1 grow1
          simp only [Nat.zero_add, List.nil_append] at own1 ⊢
          have hB1 : Below w3.heap.size w3 w4 := Below.grown (hBd) grow1 (hBd).size (fun k h => by cases h)
          refine hK _ _ (fun _ => (r1.on (hB1)).two) ?_
          clear hK K
          (try simp only [Act.put]); (try simp only [List.setIfInBounds_toArray]); (try simp only [List.set_cons_succ, List.set_cons_zero])
          refine E_one (i := 5) (by kernel_rfl) (by simp only [List.getElem?_toArray, List.getElem?_cons_succ, List.getElem?_cons_zero]; rfl) (fun K hK => ?_)
          go_simp
          refine hK _ _ (fun _ => (r1.on (hB1.alloc hB1.size (.cells #[.int .u64 (p.1 : Int), .int .u64 (p.2 : Int)] 27))).two) ?_
          clear hK K
          (try simp only [Act.put]); (try simp only [List.setIfInBounds_toArray]); (try simp only [List.set_cons_succ, List.set_cons_zero])
          refine E_one (i := 6) (by kernel_rfl) (by simp only [List.getElem?_toArray, List.getElem?_cons_succ, List.getElem?_cons_zero]; rfl) (fun K hK => ?_)
          refine step_append_any rfl _ _ 22 rfl w3.heap.size 27 i0 (.agg #[.int .u64 0, .int .u64 0]) 2 16 Try.underlying22 hi hz0 hz1 hz2 rfl (by decide) (.slice S1 0 cap1) 0 _ rfl (own1.alloc _) _ 1 1 [.int .u64 (p.1 : Int), .int .u64 (p.2 : Int)] rfl rfl (fun _ => ⟨_, rfl, news_pair (RowAt.new w4 27 #[.int .u64 (p.1 : Int), .int .u64 (p.2 : Int)])⟩) (by intro u hu0; simp at hu0; rcases hu0 with rfl | rfl <;> rfl) (by unfold maxLen; omega) (by omega) ((hB1.alloc hB1.size (.cells #[.int .u64 (p.1 : Int), .int .u64 (p.2 : Int)] 27)).size) ?_
          intro S2 cap2 w5 own2 grow2
          have hB2 : Below w3.heap.size w3 w5 := Below.grown (hB1.alloc hB1.size (.cells #[.int .u64 (p.1 : Int), .int .u64 (p.2 : Int)] 27)) grow2 (hB1.alloc hB1.size (.cells #[.int .u64 (p.1 : Int), .int .u64 (p.2 : Int)] 27)).size (fun k h => (own1.lt k h).1)
          refine hK _ _ (fun _ => (r1.on (hB2)).two) ?_
          clear hK K
          (try simp only [Act.put]); (try simp only [List.setIfInBounds_toArray]); (try simp only [List.set_cons_succ, List.set_cons_zero])
          refine E_one (i := 10) (by kernel_rfl) (by simp only [List.getElem?_toArray, List.getElem?_cons_succ, List.getElem?_cons_zero]; rfl) (fun K hK => ?_)
          refine step_append_any rfl _ _ 22 rfl w3.heap.size 27 i0 (.agg #[.int .u64 0, .int .u64 0]) 2 16 Try.underlying22 hi hz0 hz1 hz2 rfl (by decide) (.slice S2 (0 + 1) cap2) (0 + 1) _ rfl own2 none 0 0 ((([] : List Pr).drop 0).flatMap pairCells) rfl (by simp) (fun h => absurd h (by omega)) (pairs_one _) (by unfold maxLen; omega) (by omega) hB2.size ?_
          intro S3 cap3 w6 own3 grow3
          have hB3 : Below w3.heap.size w3 w6 := Below.grown hB2 grow3 hB2.size (fun k h => (own2.lt k h).1)
          refine hK _ _ (fun _ => (r1.on (hB3)).two) ?_
          clear hK K
          (try simp only [Act.put]); (try simp only [List.setIfInBounds_toArray]); (try simp only [List.set_cons_succ, List.set_cons_zero])
          refine E_one (i := 11) (by kernel_rfl) (by simp only [List.getElem?_toArray, List.getElem?_cons_succ, List.getElem?_cons_zero]; rfl) (fun K hK => ?_)
          go_simp
          refine hK _ _ (fun h => absurd rfl h) ?_
          clear hK K
          refine E_done (by kernel_rfl) ?_ _
          obtain ⟨e1, e2⟩ := with_end (l := []) (n := 0) (m := 0) (by simp) own3 HIN.out
          have e3 : 0 + 1 + 0 = (ins p []).length := by rw [ins_length]; rfl
          rw [e3] at e1 e2
          clear own1 own2 own3 grow1 grow2 grow3
          go_simp
          go_wp2_with fail
          go_ret
          exact ⟨S3, cap3, by first | rfl | (rw [← e3]; rfl), e1, e2.less (Nat.le_trans b0.size hz1'), (b0.trans (hb3.mono b0.size)).trans (hB3.mono (Nat.le_trans b0.size hz1'))⟩
        · have hBd : Below w3.heap.size w3 (w3.drew.alloc (.cells #[.int .u64 (p.1 : Int), .int .u64 (p.2 : Int)] 27)) := ((Below.refl _ _).drew).alloc (Nat.le_refl _) _
          go_simp
          refine hK _ _ (fun _ => (r1.on (hBd)).two) ?_
          clear hK K
          (try simp only [Act.put]); (try simp only [List.setIfInBounds_toArray]); (try simp only [List.set_cons_succ, List.set_cons_zero])
          refine E_one (i := 3) (by kernel_rfl) (by simp only [List.getElem?_toArray, List.getElem?_cons_succ, List.getElem?_cons_zero]; rfl) (fun K hK => ?_)
          refine step_append_any rfl _ _ 22 rfl w3.heap.size 27 i0 (.agg #[.int .u64 0, .int .u64 0]) 2 16 Try.underlying22 hi hz0 hz1 hz2 rfl (by decide) (.slice none 0 0) 0 [] rfl (World.ownsRow_nil _ _ _ _) none 0 0 ((([] : List Pr).take 0).flatMap pairCells) rfl (by rw [flat_pairs_length, List.length_take]; omega) (news_first hv1 (hBd) hn) (pairs_one _) (by unfold maxLen; omega) (by omega) ((hBd).size) ?_
          intro S1 cap1 w4 own1 grow1
          simp only [Nat.zero_add, List.nil_append] at own1 ⊢
          have hB1 : Below w3.heap.size w3 w4 := Below.grown (hBd) grow1 (hBd).size (fun k h => by cases h)
          refine hK _ _ (fun _ => (r1.on (hB1)).two) ?_
          clear hK K
          (try simp only [Act.put]); (try simp only [List.setIfInBounds_toArray]); (try simp only [List.set_cons_succ, List.set_cons_zero])
          have rB : RowAt w4 w3.heap.size 27 [.int .u64 (p.1 : Int), .int .u64 (p.2 : Int)] := RowAt.grown (RowAt.new w3.drew 27 #[.int .u64 (p.1 : Int), .int .u64 (p.2 : Int)]) grow1 (by simp [Value.ownBlock])
          refine E_one (i := 6) (by kernel_rfl) (by simp only [List.getElem?_toArray, List.getElem?_cons_succ, List.getElem?_cons_zero]; rfl) (fun K hK => ?_)
          refine step_append_any rfl _ _ 22 rfl w3.heap.size 27 i0 (.agg #[.int .u64 0, .int .u64 0]) 2 16 Try.underlying22 hi hz0 hz1 hz2 rfl (by decide) (.slice S1 0 cap1) 0 _ rfl (own1) _ 1 1 [.int .u64 (p.1 : Int), .int .u64 (p.2 : Int)] rfl rfl (fun _ => ⟨_, rfl, news_pair (rB)⟩) (by intro u hu0; simp at hu0; rcases hu0 with rfl | rfl <;> rfl) (by unfold maxLen; omega) (by omega) ((hB1).size) ?_
          intro S2 cap2 w5 own2 grow2
          have hB2 : Below w3.heap.size w3 w5 := Below.grown (hB1) grow2 (hB1).size (fun k h => (own1.lt k h).1)
          refine hK _ _ (fun _ => (r1.on (hB2)).two) ?_
          clear hK K
          (try simp only [Act.put]); (try simp only [List.setIfInBounds_toArray]); (try simp only [List.set_cons_succ, List.set_cons_zero])
          refine E_one (i := 10) (by kernel_rfl) (by simp only [List.getElem?_toArray, List.getElem?_cons_succ, List.getElem?_cons_zero]; rfl) (fun K hK => ?_)
          refine step_append_any rfl _ _ 22 rfl w3.heap.size 27 i0 (.agg #[.int .u64 0, .int .u64 0]) 2 16 Try.underlying22 hi hz0 hz1 hz2 rfl (by decide) (.slice S2 (0 + 1) cap2) (0 + 1) _ rfl own2 none 0 0 ((([] : List Pr).drop 0).flatMap pairCells) rfl (by simp) (fun h => absurd h (by omega)) (pairs_one _) (by unfold maxLen; omega) (by omega) hB2.size ?_
          intro S3 cap3 w6 own3 grow3
          have hB3 : Below w3.heap.size w3 w6 := Below.grown hB2 grow3 hB2.size (fun k h => (own2.lt k h).1)
          refine hK _ _ (fun _ => (r1.on (hB3)).two) ?_
          clear hK K
          (try simp only [Act.put]); (try simp only [List.setIfInBounds_toArray]); (try simp only [List.set_cons_succ, List.set_cons_zero])
          refine E_one (i := 11) (by kernel_rfl) (by simp only [List.getElem?_toArray, List.getElem?_cons_succ, List.getElem?_cons_zero]; rfl) (fun K hK => ?_)
          go_simp
          refine hK _ _ (fun h => absurd rfl h) ?_
          clear hK K
          refine E_done (by kernel_rfl) ?_ _
          obtain ⟨e1, e2⟩ := with_end (l := []) (n := 0) (m := 0) (by simp) own3 HIN.out
          have e3 : 0 + 1 + 0 = (ins p []).length := by rw [ins_length]; rfl
          rw [e3] at e1 e2
          clear own1 own2 own3 grow1 grow2 grow3
          go_simp
          go_wp2_with fail
          go_ret
          exact ⟨S3, cap3, by first | rfl | (rw [← e3]; rfl), e1, e2.less (Nat.le_trans b0.size hz1'), (b0.trans (hb3.mono b0.size)).trans (hB3.mono (Nat.le_trans b0.size hz1'))⟩
      | some od =>
        by_cases hcn : c = n
        · obtain rfl : n = c := hcn.symm
          refine wp_region_E (fun W => W.cell? ⟨w.heap.size, 0, none⟩ = some (.int .u64 (p.1 : Int)) ∧ W.cell? ⟨w.heap.size, 1, none⟩ = some (.int .u64 (p.2 : Int))) 11 (by kernel_rfl) ?_
          have hSd : w3.drew.cell? ⟨w.heap.size, 0, none⟩ = some (.int .u64 (p.1 : Int)) ∧ w3.drew.cell? ⟨w.heap.size, 1, none⟩ = some (.int .u64 (p.2 : Int)) := ⟨x0, x1⟩
          refine E_take (i := 0) (.slice (some od) l.length n) (by simp only [List.getElem?_toArray, List.getElem?_cons_zero]; rfl) (by kernel_rfl) (by kernel_rfl) (by kernel_rfl) (by kernel_rfl) (by kernel_rfl) (by exact fun _ _ _ h => h) (by rfl) (by intro W hW; obtain ⟨h1, h2⟩ := hW; go_simp) hSd ?_
          (try simp only [Act.put]); (try simp only [List.setIfInBounds_toArray]); (try simp only [List.set_cons_succ, List.set_cons_zero])
          refine E_take (i := 1) (.int .i64 (n : Int)) (by simp only [List.getElem?_toArray, List.getElem?_cons_succ, List.getElem?_cons_zero]; rfl) (by kernel_rfl) (by kernel_rfl) (by kernel_rfl) (by kernel_rfl) (by kernel_rfl) (by exact fun _ _ _ h => h) (by rfl) (by intro W hW; obtain ⟨h1, h2⟩ := hW; go_simp) hSd ?_
          (try simp only [Act.put]); (try simp only [List.setIfInBounds_toArray]); (try simp only [List.set_cons_succ, List.set_cons_zero])
          refine E_take (i := 2) (.slice (some od) n n) (by simp only [List.getElem?_toArray, List.getElem?_cons_succ, List.getElem?_cons_zero]; rfl) (by kernel_rfl) (by kernel_rfl) (by kernel_rfl) (by kernel_rfl) (by kernel_rfl) (by exact fun _ _ _ h => h) (by rfl) (by intro W hW; obtain ⟨h1, h2⟩ := hW; go_simp) hSd ?_
          (try simp only [Act.put]); (try simp only [List.setIfInBounds_toArray]); (try simp only [List.set_cons_succ, List.set_cons_zero])
          refine E_take (i := 4) (.agg #[.int .u64 (p.1 : Int), .int .u64 (p.2 : Int)]) (by simp only [List.getElem?_toArray, List.getElem?_cons_succ, List.getElem?_cons_zero]; rfl) (by kernel_rfl) (by kernel_rfl) (by kernel_rfl) (by kernel_rfl) (by kernel_rfl) (by exact fun _ _ _ h => h) (by rfl) (by intro W hW; obtain ⟨h1, h2⟩ := hW; go_simp) hSd ?_
          (try simp only [Act.put]); (try simp only [List.setIfInBounds_toArray]); (try simp only [List.set_cons_succ, List.set_cons_zero])
          refine E_take (i := 7) (.slice (some od) l.length n) (by simp only [List.getElem?_toArray, List.getElem?_cons_succ, List.getElem?_cons_zero]; rfl) (by kernel_rfl) (by kernel_rfl) (by kernel_rfl) (by kernel_rfl) (by kernel_rfl) (by exact fun _ _ _ h => h) (by rfl) (by intro W hW; obtain ⟨h1, h2⟩ := hW; go_simp) hSd ?_
          (try simp only [Act.put]); (try simp only [List.setIfInBounds_toArray]); (try simp only [List.set_cons_succ, List.set_cons_zero])
          refine E_take (i := 8) (.int .i64 (n : Int)) (by simp only [List.getElem?_toArray, List.getElem?_cons_succ, List.getElem?_cons_zero]; rfl) (by kernel_rfl) (by kernel_rfl) (by kernel_rfl) (by kernel_rfl) (by kernel_rfl) (by exact fun _ _ _ h => h) (by rfl) (by intro W hW; obtain ⟨h1, h2⟩ := hW; go_simp) hSd ?_
          (try simp only [Act.put]); (try simp only [List.setIfInBounds_toArray]); (try simp only [List.set_cons_succ, List.set_cons_zero])
          refine E_take (i := 9) (.slice (some od) 0 0) (by simp only [List.getElem?_toArray, List.getElem?_cons_succ, List.getElem?_cons_zero]; rfl) (by kernel_rfl) (by kernel_rfl) (by kernel_rfl) (by kernel_rfl) (by kernel_rfl) (by exact fun _ _ _ h => h) (by rfl) (by intro W hW; obtain ⟨h1, h2⟩ := hW; go_simp) hSd ?_
          (try simp only [Act.put]); (try simp only [List.setIfInBounds_toArray]); (try simp only [List.set_cons_succ, List.set_cons_zero])
          refine E_two (i := 3) (k := 5) (by kernel_rfl) (by simp only [List.getElem?_toArray, List.getElem?_cons_succ, List.getElem?_cons_zero]; rfl) (by simp only [List.getElem?_toArray, List.getElem?_cons_succ, List.getElem?_cons_zero]; rfl) (fun K hK => ?_) (fun K hK => ?_)
          · have hBd : Below w3.heap.size w3 w3.drew := (Below.refl _ _).drew
            refine step_append_any rfl _ _ 22 rfl w3.heap.size 27 i0 (.agg #[.int .u64 0, .int .u64 0]) 2 16 Try.underlying22 hi hz0 hz1 hz2 rfl (by decide) (.slice none 0 0) 0 [] rfl (World.ownsRow_nil _ _ _ _) (some od) n n ((l.take n).flatMap pairCells) rfl (by rw [flat_pairs_length, List.length_take]; omega) (news_first hv1 (hBd) hn) (pairs_one _) (by unfold maxLen; omega) (by omega) ((hBd).size) ?_
            intro S1 cap1 w4 own1 grow1
            simp only [Nat.zero_add, List.nil_append] at own1 ⊢
            have hB1 : Below w3.heap.size w3 w4 := Below.grown (hBd) grow1 (hBd).size (fun k h => by cases h)
            refine hK _ _ (fun _ => (r1.on (hB1)).two) ?_
            clear hK K
            (try simp only [Act.put]); (try simp only [List.setIfInBounds_toArray]); (try simp only [List.set_cons_succ, List.set_cons_zero])
            refine E_one (i := 5) (by kernel_rfl) (by simp only [List.getElem?_toArray, List.getElem?_cons_succ, List.getElem?_cons_zero]; rfl) (fun K hK => ?_)
            go_simp
            refine hK _ _ (fun _ => (r1.on (hB1.alloc hB1.size (.cells #[.int .u64 (p.1 : Int), .int .u64 (p.2 : Int)] 27))).two) ?_
            clear hK K
            (try simp only [Act.put]); (try simp only [List.setIfInBounds_toArray]); (try simp only [List.set_cons_succ, List.set_cons_zero])
            refine E_one (i := 6) (by kernel_rfl) (by simp only [List.getElem?_toArray, List.getElem?_cons_succ, List.getElem?_cons_zero]; rfl) (fun K hK => ?_)
            refine step_append_any rfl _ _ 22 rfl w3.heap.size 27 i0 (.agg #[.int .u64 0, .int .u64 0]) 2 16 Try.underlying22 hi hz0 hz1 hz2 rfl (by decide) (.slice S1 n cap1) n _ rfl (own1.alloc _) _ 1 1 [.int .u64 (p.1 : Int), .int .u64 (p.2 : Int)] rfl rfl (fun _ => ⟨_, rfl, news_pair (RowAt.new w4 27 #[.int .u64 (p.1 : Int), .int .u64 (p.2 : Int)])⟩) (by intro u hu0; simp at hu0; rcases hu0 with rfl | rfl <;> rfl) (by unfold maxLen; omega) (by omega) ((hB1.alloc hB1.size (.cells #[.int .u64 (p.1 : Int), .int .u64 (p.2 : Int)] 27)).size) ?_
            intro S2 cap2 w5 own2 grow2
            have hB2 : Below w3.heap.size w3 w5 := Below.grown (hB1.alloc hB1.size (.cells #[.int .u64 (p.1 : Int), .int .u64 (p.2 : Int)] 27)) grow2 (hB1.alloc hB1.size (.cells #[.int .u64 (p.1 : Int), .int .u64 (p.2 : Int)] 27)).size (fun k h => (own1.lt k h).1)
            refine hK _ _ (fun _ => (r1.on (hB2)).two) ?_
            clear hK K
            (try simp only [Act.put]); (try simp only [List.setIfInBounds_toArray]); (try simp only [List.set_cons_succ, List.set_cons_zero])
            refine E_one (i := 10) (by kernel_rfl) (by simp only [List.getElem?_toArray, List.getElem?_cons_succ, List.getElem?_cons_zero]; rfl) (fun K hK => ?_)
            refine step_append_any rfl _ _ 22 rfl w3.heap.size 27 i0 (.agg #[.int .u64 0, .int .u64 0]) 2 16 Try.underlying22 hi hz0 hz1 hz2 rfl (by decide) (.slice S2 (n + 1) cap2) (n + 1) _ rfl own2 (some od) 0 0 ((l.drop n).flatMap pairCells) rfl (by rw [flat_pairs_length, List.length_drop]; omega) (fun h => absurd h (by omega)) (pairs_one _) (by unfold maxLen; omega) (by omega) hB2.size ?_
            intro S3 cap3 w6 own3 grow3
            have hB3 : Below w3.heap.size w3 w6 := Below.grown hB2 grow3 hB2.size (fun k h => (own2.lt k h).1)
            refine hK _ _ (fun _ => (r1.on (hB3)).two) ?_
            clear hK K
            (try simp only [Act.put]); (try simp only [List.setIfInBounds_toArray]); (try simp only [List.set_cons_succ, List.set_cons_zero])
            refine E_one (i := 11) (by kernel_rfl) (by simp only [List.getElem?_toArray, List.getElem?_cons_succ, List.getElem?_cons_zero]; rfl) (fun K hK => ?_)
            go_simp
            refine hK _ _ (fun h => absurd rfl h) ?_
            clear hK K
            refine E_done (by kernel_rfl) ?_ _
            obtain ⟨e1, e2⟩ := with_end (by omega) own3 HIN.out
            have e3 : n + 1 + 0 = (ins p l).length := by rw [ins_length]; omega
            rw [e3] at e1 e2
            clear own1 own2 own3 grow1 grow2 grow3
            go_simp
            go_wp2_with fail
            go_ret
            exact ⟨S3, cap3, by first | rfl | (rw [← e3]; rfl), e1, e2.less (Nat.le_trans b0.size hz1'), (b0.trans (hb3.mono b0.size)).trans (hB3.mono (Nat.le_trans b0.size hz1'))⟩
          · have hBd : Below w3.heap.size w3 (w3.drew.alloc (.cells #[.int .u64 (p.1 : Int), .int .u64 (p.2 : Int)] 27)) := ((Below.refl _ _).drew).alloc (Nat.le_refl _) _
            go_simp
            refine hK _ _ (fun _ => (r1.on (hBd)).two) ?_
            clear hK K
            (try simp only [Act.put]); (try simp only [List.setIfInBounds_toArray]); (try simp only [List.set_cons_succ, List.set_cons_zero])
            refine E_one (i := 3) (by kernel_rfl) (by simp only [List.getElem?_toArray, List.getElem?_cons_succ, List.getElem?_cons_zero]; rfl) (fun K hK => ?_)
            refine step_append_any rfl _ _ 22 rfl w3.heap.size 27 i0 (.agg #[.int .u64 0, .int .u64 0]) 2 16 Try.underlying22 hi hz0 hz1 hz2 rfl (by decide) (.slice none 0 0) 0 [] rfl (World.ownsRow_nil _ _ _ _) (some od) n n ((l.take n).flatMap pairCells) rfl (by rw [flat_pairs_length, List.length_take]; omega) (news_first hv1 (hBd) hn) (pairs_one _) (by unfold maxLen; omega) (by omega) ((hBd).size) ?_
            intro S1 cap1 w4 own1 grow1
            simp only [Nat.zero_add, List.nil_append] at own1 ⊢
            have hB1 : Below w3.heap.size w3 w4 := Below.grown (hBd) grow1 (hBd).size (fun k h => by cases h)
            refine hK _ _ (fun _ => (r1.on (hB1)).two) ?_
            clear hK K
            (try simp only [Act.put]); (try simp only [List.setIfInBounds_toArray]); (try simp only [List.set_cons_succ, List.set_cons_zero])
            have rB : RowAt w4 w3.heap.size 27 [.int .u64 (p.1 : Int), .int .u64 (p.2 : Int)] := RowAt.grown (RowAt.new w3.drew 27 #[.int .u64 (p.1 : Int), .int .u64 (p.2 : Int)]) grow1 (by simp [Value.ownBlock])
            refine E_one (i := 6) (by kernel_rfl) (by simp only [List.getElem?_toArray, List.getElem?_cons_succ, List.getElem?_cons_zero]; rfl) (fun K hK => ?_)
            refine step_append_any rfl _ _ 22 rfl w3.heap.size 27 i0 (.agg #[.int .u64 0, .int .u64 0]) 2 16 Try.underlying22 hi hz0 hz1 hz2 rfl (by decide) (.slice S1 n cap1) n _ rfl (own1) _ 1 1 [.int .u64 (p.1 : Int), .int .u64 (p.2 : Int)] rfl rfl (fun _ => ⟨_, rfl, news_pair (rB)⟩) (by intro u hu0; simp at hu0; rcases hu0 with rfl | rfl <;> rfl) (by unfold maxLen; omega) (by omega) ((hB1).size) ?_
            intro S2 cap2 w5 own2 grow2
            have hB2 : Below w3.heap.size w3 w5 := Below.grown (hB1) grow2 (hB1).size (fun k h => (own1.lt k h).1)
            refine hK _ _ (fun _ => (r1.on (hB2)).two) ?_
            clear hK K
            (try simp only [Act.put]); (try simp only [List.setIfInBounds_toArray]); (try simp only [List.set_cons_succ, List.set_cons_zero])
            refine E_one (i := 10) (by kernel_rfl) (by simp only [List.getElem?_toArray, List.getElem?_cons_succ, List.getElem?_cons_zero]; rfl) (fun K hK => ?_)
            refine step_append_any rfl _ _ 22 rfl w3.heap.size 27 i0 (.agg #[.int .u64 0, .int .u64 0]) 2 16 Try.underlying22 hi hz0 hz1 hz2 rfl (by decide) (.slice S2 (n + 1) cap2) (n + 1) _ rfl own2 (some od) 0 0 ((l.drop n).flatMap pairCells) rfl (by rw [flat_pairs_length, List.length_drop]; omega) (fun h => absurd h (by omega)) (pairs_one _) (by unfold maxLen; omega) (by omega) hB2.size ?_
            intro S3 cap3 w6 own3 grow3
            have hB3 : Below w3.heap.size w3 w6 := Below.grown hB2 grow3 hB2.size (fun k h => (own2.lt k h).1)
            refine hK _ _ (fun _ => (r1.on (hB3)).two) ?_
            clear hK K
            (try simp only [Act.put]); (try simp only [List.setIfInBounds_toArray]); (try simp only [List.set_cons_succ, List.set_cons_zero])
            refine E_one (i := 11) (by kernel_rfl) (by simp only [List.getElem?_toArray, List.getElem?_cons_succ, List.getElem?_cons_zero]; rfl) (fun K hK => ?_)
            go_simp
            refine hK _ _ (fun h => absurd rfl h) ?_
            clear hK K
            refine E_done (by kernel_rfl) ?_ _
            obtain ⟨e1, e2⟩ := with_end (by omega) own3 HIN.out
            have e3 : n + 1 + 0 = (ins p l).length := by rw [ins_length]; omega
            rw [e3] at e1 e2
            clear own1 own2 own3 grow1 grow2 grow3
            go_simp
            go_wp2_with fail
            go_ret
            exact ⟨S3, cap3, by first | rfl | (rw [← e3]; rfl), e1, e2.less (Nat.le_trans b0.size hz1'), (b0.trans (hb3.mono b0.size)).trans (hB3.mono (Nat.le_trans b0.size hz1'))⟩
        · have hcn1 : (c = n) = False := eq_false hcn
          have hcn2 : (c - n = 0) = False := eq_false (by omega)
          refine wp_region_E (fun W => W.cell? ⟨w.heap.size, 0, none⟩ = some (.int .u64 (p.1 : Int)) ∧ W.cell? ⟨w.heap.size, 1, none⟩ = some (.int .u64 (p.2 : Int))) 11 (by kernel_rfl) ?_
          have hSd : w3.drew.cell? ⟨w.heap.size, 0, none⟩ = some (.int .u64 (p.1 : Int)) ∧ w3.drew.cell? ⟨w.heap.size, 1, none⟩ = some (.int .u64 (p.2 : Int)) := ⟨x0, x1⟩
          refine E_take (i := 0) (.slice (some od) l.length c) (by simp only [List.getElem?_toArray, List.getElem?_cons_zero]; rfl) (by kernel_rfl) (by kernel_rfl) (by kernel_rfl) (by kernel_rfl) (by kernel_rfl) (by exact fun _ _ _ h => h) (by rfl) (by intro W hW; obtain ⟨h1, h2⟩ := hW; go_simp) hSd ?_
          (try simp only [Act.put]); (try simp only [List.setIfInBounds_toArray]); (try simp only [List.set_cons_succ, List.set_cons_zero])
          refine E_take (i := 1) (.int .i64 (n : Int)) (by simp only [List.getElem?_toArray, List.getElem?_cons_succ, List.getElem?_cons_zero]; rfl) (by kernel_rfl) (by kernel_rfl) (by kernel_rfl) (by kernel_rfl) (by kernel_rfl) (by exact fun _ _ _ h => h) (by rfl) (by intro W hW; obtain ⟨h1, h2⟩ := hW; go_simp) hSd ?_
          (try simp only [Act.put]); (try simp only [List.setIfInBounds_toArray]); (try simp only [List.set_cons_succ, List.set_cons_zero])
          refine E_take (i := 2) (.slice (some od) n c) (by simp only [List.getElem?_toArray, List.getElem?_cons_succ, List.getElem?_cons_zero]; rfl) (by kernel_rfl) (by kernel_rfl) (by kernel_rfl) (by kernel_rfl) (by kernel_rfl) (by exact fun _ _ _ h => h) (by rfl) (by intro W hW; obtain ⟨h1, h2⟩ := hW; go_simp) hSd ?_
          (try simp only [Act.put]); (try simp only [List.setIfInBounds_toArray]); (try simp only [List.set_cons_succ, List.set_cons_zero])
          refine E_take (i := 4) (.agg #[.int .u64 (p.1 : Int), .int .u64 (p.2 : Int)]) (by simp only [List.getElem?_toArray, List.getElem?_cons_succ, List.getElem?_cons_zero]; rfl) (by kernel_rfl) (by kernel_rfl) (by kernel_rfl) (by kernel_rfl) (by kernel_rfl) (by exact fun _ _ _ h => h) (by rfl) (by intro W hW; obtain ⟨h1, h2⟩ := hW; go_simp) hSd ?_
          (try simp only [Act.put]); (try simp only [List.setIfInBounds_toArray]); (try simp only [List.set_cons_succ, List.set_cons_zero])
          refine E_take (i := 7) (.slice (some od) l.length c) (by simp only [List.getElem?_toArray, List.getElem?_cons_succ, List.getElem?_cons_zero]; rfl) (by kernel_rfl) (by kernel_rfl) (by kernel_rfl) (by kernel_rfl) (by kernel_rfl) (by exact fun _ _ _ h => h) (by rfl) (by intro W hW; obtain ⟨h1, h2⟩ := hW; go_simp) hSd ?_
          (try simp only [Act.put]); (try simp only [List.setIfInBounds_toArray]); (try simp only [List.set_cons_succ, List.set_cons_zero])
          refine E_take (i := 8) (.int .i64 (n : Int)) (by simp only [List.getElem?_toArray, List.getElem?_cons_succ, List.getElem?_cons_zero]; rfl) (by kernel_rfl) (by kernel_rfl) (by kernel_rfl) (by kernel_rfl) (by kernel_rfl) (by exact fun _ _ _ h => h) (by rfl) (by intro W hW; obtain ⟨h1, h2⟩ := hW; go_simp) hSd ?_
          (try simp only [Act.put]); (try simp only [List.setIfInBounds_toArray]); (try simp only [List.set_cons_succ, List.set_cons_zero])
          refine E_take (i := 9) (.slice (some (od.add (n * 2))) (l.length - n) (c - n)) (by simp only [List.getElem?_toArray, List.getElem?_cons_succ, List.getElem?_cons_zero]; rfl) (by kernel_rfl) (by kernel_rfl) (by kernel_rfl) (by kernel_rfl) (by kernel_rfl) (by exact fun _ _ _ h => h) (by rfl) (by intro W hW; obtain ⟨h1, h2⟩ := hW; go_simp) hSd ?_
          (try simp only [Act.put]); (try simp only [List.setIfInBounds_toArray]); (try simp only [List.set_cons_succ, List.set_cons_zero])
          refine E_two (i := 3) (k := 5) (by kernel_rfl) (by simp only [List.getElem?_toArray, List.getElem?_cons_succ, List.getElem?_cons_zero]; rfl) (by simp only [List.getElem?_toArray, List.getElem?_cons_succ, List.getElem?_cons_zero]; rfl) (fun K hK => ?_) (fun K hK => ?_)
          · have hBd : Below w3.heap.size w3 w3.drew := (Below.refl _ _).drew
            refine step_append_any rfl _ _ 22 rfl w3.heap.size 27 i0 (.agg #[.int .u64 0, .int .u64 0]) 2 16 Try.underlying22 hi hz0 hz1 hz2 rfl (by decide) (.slice none 0 0) 0 [] rfl (World.ownsRow_nil _ _ _ _) (some od) n c ((l.take n).flatMap pairCells) rfl (by rw [flat_pairs_length, List.length_take]; omega) (news_first hv1 (hBd) hn) (pairs_one _) (by unfold maxLen; omega) (by omega) ((hBd).size) ?_
            intro S1 cap1 w4 own1 grow1
            simp only [Nat.zero_add, List.nil_append] at own1 ⊢
            have hB1 : Below w3.heap.size w3 w4 := Below.grown (hBd) grow1 (hBd).size (fun k h => by cases h)
            refine hK _ _ (fun _ => (r1.on (hB1)).two) ?_
            clear hK K
            (try simp only [Act.put]); (try simp only [List.setIfInBounds_toArray]); (try simp only [List.set_cons_succ, List.set_cons_zero])
            refine E_one (i := 5) (by kernel_rfl) (by simp only [List.getElem?_toArray, List.getElem?_cons_succ, List.getElem?_cons_zero]; rfl) (fun K hK => ?_)
            go_simp
            refine hK _ _ (fun _ => (r1.on (hB1.alloc hB1.size (.cells #[.int .u64 (p.1 : Int), .int .u64 (p.2 : Int)] 27))).two) ?_
            clear hK K
            (try simp only [Act.put]); (try simp only [List.setIfInBounds_toArray]); (try simp only [List.set_cons_succ, List.set_cons_zero])
            refine E_one (i := 6) (by kernel_rfl) (by simp only [List.getElem?_toArray, List.getElem?_cons_succ, List.getElem?_cons_zero]; rfl) (fun K hK => ?_)
            refine step_append_any rfl _ _ 22 rfl w3.heap.size 27 i0 (.agg #[.int .u64 0, .int .u64 0]) 2 16 Try.underlying22 hi hz0 hz1 hz2 rfl (by decide) (.slice S1 n cap1) n _ rfl (own1.alloc _) _ 1 1 [.int .u64 (p.1 : Int), .int .u64 (p.2 : Int)] rfl rfl (fun _ => ⟨_, rfl, news_pair (RowAt.new w4 27 #[.int .u64 (p.1 : Int), .int .u64 (p.2 : Int)])⟩) (by intro u hu0; simp at hu0; rcases hu0 with rfl | rfl <;> rfl) (by unfold maxLen; omega) (by omega) ((hB1.alloc hB1.size (.cells #[.int .u64 (p.1 : Int), .int .u64 (p.2 : Int)] 27)).size) ?_
            intro S2 cap2 w5 own2 grow2
            have hB2 : Below w3.heap.size w3 w5 := Below.grown (hB1.alloc hB1.size (.cells #[.int .u64 (p.1 : Int), .int .u64 (p.2 : Int)] 27)) grow2 (hB1.alloc hB1.size (.cells #[.int .u64 (p.1 : Int), .int .u64 (p.2 : Int)] 27)).size (fun k h => (own1.lt k h).1)
            refine hK _ _ (fun _ => (r1.on (hB2)).two) ?_
            clear hK K
            (try simp only [Act.put]); (try simp only [List.setIfInBounds_toArray]); (try simp only [List.set_cons_succ, List.set_cons_zero])
            refine E_one (i := 10) (by kernel_rfl) (by simp only [List.getElem?_toArray, List.getElem?_cons_succ, List.getElem?_cons_zero]; rfl) (fun K hK => ?_)
            refine step_append_any rfl _ _ 22 rfl w3.heap.size 27 i0 (.agg #[.int .u64 0, .int .u64 0]) 2 16 Try.underlying22 hi hz0 hz1 hz2 rfl (by decide) (.slice S2 (n + 1) cap2) (n + 1) _ rfl own2 (some (od.add (n * 2))) (l.length - n) (c - n) ((l.drop n).flatMap pairCells) rfl (by rw [flat_pairs_length, List.length_drop]) (news_rest hv1 hB2) (pairs_one _) (by unfold maxLen; omega) (by omega) hB2.size ?_
            intro S3 cap3 w6 own3 grow3
            have hB3 : Below w3.heap.size w3 w6 := Below.grown hB2 grow3 hB2.size (fun k h => (own2.lt k h).1)
            refine hK _ _ (fun _ => (r1.on (hB3)).two) ?_
            clear hK K
            (try simp only [Act.put]); (try simp only [List.setIfInBounds_toArray]); (try simp only [List.set_cons_succ, List.set_cons_zero])
            refine E_one (i := 11) (by kernel_rfl) (by simp only [List.getElem?_toArray, List.getElem?_cons_succ, List.getElem?_cons_zero]; rfl) (fun K hK => ?_)
            go_simp
            refine hK _ _ (fun h => absurd rfl h) ?_
            clear hK K
            refine E_done (by kernel_rfl) ?_ _
            obtain ⟨e1, e2⟩ := with_end (by omega) own3 HIN.out
            have e3 : n + 1 + (l.length - n) = (ins p l).length := by rw [ins_length]; omega
            rw [e3] at e1 e2
            clear own1 own2 own3 grow1 grow2 grow3
            go_simp
            go_wp2_with fail
            go_ret
            exact ⟨S3, cap3, by first | rfl | (rw [← e3]; rfl), e1, e2.less (Nat.le_trans b0.size hz1'), (b0.trans (hb3.mono b0.size)).trans (hB3.mono (Nat.le_trans b0.size hz1'))⟩
          · have hBd : Below w3.heap.size w3 (w3.drew.alloc (.cells #[.int .u64 (p.1 : Int), .int .u64 (p.2 : Int)] 27)) := ((Below.refl _ _).drew).alloc (Nat.le_refl _) _
            go_simp
            refine hK _ _ (fun _ => (r1.on (hBd)).two) ?_
            clear hK K
            (try simp only [Act.put]); (try simp only [List.setIfInBounds_toArray]); (try simp only [List.set_cons_succ, List.set_cons_zero])
            refine E_one (i := 3) (by kernel_rfl) (by simp only [List.getElem?_toArray, List.getElem?_cons_succ, List.getElem?_cons_zero]; rfl) (fun K hK => ?_)
            refine step_append_any rfl _ _ 22 rfl w3.heap.size 27 i0 (.agg #[.int .u64 0, .int .u64 0]) 2 16 Try.underlying22 hi hz0 hz1 hz2 rfl (by decide) (.slice none 0 0) 0 [] rfl (World.ownsRow_nil _ _ _ _) (some od) n c ((l.take n).flatMap pairCells) rfl (by rw [flat_pairs_length, List.length_take]; omega) (news_first hv1 (hBd) hn) (pairs_one _) (by unfold maxLen; omega) (by omega) ((hBd).size) ?_
            intro S1 cap1 w4 own1 grow1
            simp only [Nat.zero_add, List.nil_append] at own1 ⊢
            have hB1 : Below w3.heap.size w3 w4 := Below.grown (hBd) grow1 (hBd).size (fun k h => by cases h)
            refine hK _ _ (fun _ => (r1.on (hB1)).two) ?_
            clear hK K
            (try simp only [Act.put]); (try simp only [List.setIfInBounds_toArray]); (try simp only [List.set_cons_succ, List.set_cons_zero])
            have rB : RowAt w4 w3.heap.size 27 [.int .u64 (p.1 : Int), .int .u64 (p.2 : Int)] := RowAt.grown (RowAt.new w3.drew 27 #[.int .u64 (p.1 : Int), .int .u64 (p.2 : Int)]) grow1 (by simp [Value.ownBlock])
            refine E_one (i := 6) (by kernel_rfl) (by simp only [List.getElem?_toArray, List.getElem?_cons_succ, List.getElem?_cons_zero]; rfl) (fun K hK => ?_)
            refine step_append_any rfl _ _ 22 rfl w3.heap.size 27 i0 (.agg #[.int .u64 0, .int .u64 0]) 2 16 Try.underlying22 hi hz0 hz1 hz2 rfl (by decide) (.slice S1 n cap1) n _ rfl (own1) _ 1 1 [.int .u64 (p.1 : Int), .int .u64 (p.2 : Int)] rfl rfl (fun _ => ⟨_, rfl, news_pair (rB)⟩) (by intro u hu0; simp at hu0; rcases hu0 with rfl | rfl <;> rfl) (by unfold maxLen; omega) (by omega) ((hB1).size) ?_
            intro S2 cap2 w5 own2 grow2
            have hB2 : Below w3.heap.size w3 w5 := Below.grown (hB1) grow2 (hB1).size (fun k h => (own1.lt k h).1)
            refine hK _ _ (fun _ => (r1.on (hB2)).two) ?_
            clear hK K
            (try simp only [Act.put]); (try simp only [List.setIfInBounds_toArray]); (try simp only [List.set_cons_succ, List.set_cons_zero])
            refine E_one (i := 10) (by kernel_rfl) (by simp only [List.getElem?_toArray, List.getElem?_cons_succ, List.getElem?_cons_zero]; rfl) (fun K hK => ?_)
            refine step_append_any rfl _ _ 22 rfl w3.heap.size 27 i0 (.agg #[.int .u64 0, .int .u64 0]) 2 16 Try.underlying22 hi hz0 hz1 hz2 rfl (by decide) (.slice S2 (n + 1) cap2) (n + 1) _ rfl own2 (some (od.add (n * 2))) (l.length - n) (c - n) ((l.drop n).flatMap pairCells) rfl (by rw [flat_pairs_length, List.length_drop]) (news_rest hv1 hB2) (pairs_one _) (by unfold maxLen; omega) (by omega) hB2.size ?_
            intro S3 cap3 w6 own3 grow3
            have hB3 : Below w3.heap.size w3 w6 := Below.grown hB2 grow3 hB2.size (fun k h => (own2.lt k h).1)
            refine hK _ _ (fun _ => (r1.on (hB3)).two) ?_
            clear hK K
            (try simp only [Act.put]); (try simp only [List.setIfInBounds_toArray]); (try simp only [List.set_cons_succ, List.set_cons_zero])
            refine E_one (i := 11) (by kernel_rfl) (by simp only [List.getElem?_toArray, List.getElem?_cons_succ, List.getElem?_cons_zero]; rfl) (fun K hK => ?_)
            go_simp
            refine hK _ _ (fun h => absurd rfl h) ?_
            clear hK K
            refine E_done (by kernel_rfl) ?_ _
            obtain ⟨e1, e2⟩ := with_end (by omega) own3 HIN.out
            have e3 : n + 1 + (l.length - n) = (ins p l).length := by rw [ins_length]; omega
            rw [e3] at e1 e2
            clear own1 own2 own3 grow1 grow2 grow3
            go_simp
            go_wp2_with fail
            go_ret
            exact ⟨S3, cap3, by first | rfl | (rw [← e3]; rfl), e1, e2.less (Nat.le_trans b0.size hz1'), (b0.trans (hb3.mono b0.size)).trans (hB3.mono (Nat.le_trans b0.size hz1'))⟩
    · obtain ⟨k, hk⟩ : ∃ k, n = k + 1 := ⟨n - 1, by omega⟩
      have hkl : k < l.length := by omega
      obtain ⟨ad, hA, hc1, hc2⟩ := hv0.cells hb hkl
      have ej : (n : Int) - 1 = (k : Int) := by omega
      have hd : ((0 : Int) < (n : Int)) = True := eq_true (by omega)
      have hd2 : (0 < n) = True := eq_true hpos
      have HS := Lib.hid (show aheadB l[k] p = false → ∀ i (hi : i < l.length), k ≤ i → aheadB l[i] p = false from fun h0 i hi h => by
        by_cases e : i = k
        · subst e; exact h0
        · exact HB.out i hi (by omega))
      have HN := Lib.hid (show aheadB l[k] p = true → l.take n ++ p :: l.drop n = ins p l from fun h0 => ins_where hs n hn HB.out (fun i hi h => by
        obtain rfl : i = k := by omega
        exact h0))
      have cA := fun W => rAhead_at l[k] p W
      have HK := Lib.hid hk
      clear hk HB hpos
      generalize aheadB l[k] p = bb at *
      subst hA
      go_wp2_with fail
      refine wp_region_later (by kernel_rfl) (by kernel_rfl) ?_
      repeat (go_big_quiet_step (first | (go_at_call 37; exact later_of (cA _))))
      refine wpQuiet_nil ?_
      intro _ hw'
      obtain ⟨pq, rfl⟩ := hw'
      have hb3 : Below w0.heap.size w0 pq.W := hb.trans (pq.h.mono hz)
      clear x0 x1 hb hc1 hc2 cA
      generalize pq.W = w3 at *
      cases bb
      · have hs2 := HS.out rfl
        clear HN HS
        go_wp2_with fail
        go_roundw
        case rel => exact ⟨k, by omega, by go_num, hs2, hb3⟩
        case measure => have := HK.out; simp [intOf]; omega
      · have HIN := Lib.hid (HN.out rfl)
        clear HN HS HK ej
        have hz1' : w0.heap.size ≤ w3.heap.size := hb3.size
        have r1 := r0.on hb3
        have hv1 := hv0.on hb3
        obtain ⟨x0, x1⟩ := r1.two
        have n1 : (n : Int) ≤ (l.length : Int) := by omega
        have n2 : (0 : Int) ≤ (n : Int) := by omega
        have n3 : (n : Int) ≤ (c : Int) := by omega
        go_wp2_with fail
        by_cases hcn : c = n
        · obtain rfl : n = c := hcn.symm
          refine wp_region_E (fun W => W.cell? ⟨w.heap.size, 0, none⟩ = some (.int .u64 (p.1 : Int)) ∧ W.cell? ⟨w.heap.size, 1, none⟩ = some (.int .u64 (p.2 : Int))) 11 (by kernel_rfl) ?_
          have hSd : w3.drew.cell? ⟨w.heap.size, 0, none⟩ = some (.int .u64 (p.1 : Int)) ∧ w3.drew.cell? ⟨w.heap.size, 1, none⟩ = some (.int .u64 (p.2 : Int)) := ⟨x0, x1⟩
          refine E_take (i := 0) (.slice (some ad) l.length n) (by simp only [List.getElem?_toArray, List.getElem?_cons_zero]; rfl) (by kernel_rfl) (by kernel_rfl) (by kernel_rfl) (by kernel_rfl) (by kernel_rfl) (by exact fun _ _ _ h => h) (by rfl) (by intro W hW; obtain ⟨h1, h2⟩ := hW; go_simp) hSd ?_
          (try simp only [Act.put]); (try simp only [List.setIfInBounds_toArray]); (try simp only [List.set_cons_succ, List.set_cons_zero])
          refine E_take (i := 1) (.int .i64 (n : Int)) (by simp only [List.getElem?_toArray, List.getElem?_cons_succ, List.getElem?_cons_zero]; rfl) (by kernel_rfl) (by kernel_rfl) (by kernel_rfl) (by kernel_rfl) (by kernel_rfl) (by exact fun _ _ _ h => h) (by rfl) (by intro W hW; obtain ⟨h1, h2⟩ := hW; go_simp) hSd ?_
          (try simp only [Act.put]); (try simp only [List.setIfInBounds_toArray]); (try simp only [List.set_cons_succ, List.set_cons_zero])
          refine E_take (i := 2) (.slice (some ad) n n) (by simp only [List.getElem?_toArray, List.getElem?_cons_succ, List.getElem?_cons_zero]; rfl) (by kernel_rfl) (by kernel_rfl) (by kernel_rfl) (by kernel_rfl) (by kernel_rfl) (by exact fun _ _ _ h => h) (by rfl) (by intro W hW; obtain ⟨h1, h2⟩ := hW; go_simp) hSd ?_
          (try simp only [Act.put]); (try simp only [List.setIfInBounds_toArray]); (try simp only [List.set_cons_succ, List.set_cons_zero])
          refine E_take (i := 4) (.agg #[.int .u64 (p.1 : Int), .int .u64 (p.2 : Int)]) (by simp only [List.getElem?_toArray, List.getElem?_cons_succ, List.getElem?_cons_zero]; rfl) (by kernel_rfl) (by kernel_rfl) (by kernel_rfl) (by kernel_rfl) (by kernel_rfl) (by exact fun _ _ _ h => h) (by rfl) (by intro W hW; obtain ⟨h1, h2⟩ := hW; go_simp) hSd ?_
          (try simp only [Act.put]); (try simp only [List.setIfInBounds_toArray]); (try simp only [List.set_cons_succ, List.set_cons_zero])
          refine E_take (i := 7) (.slice (some ad) l.length n) (by simp only [List.getElem?_toArray, List.getElem?_cons_succ, List.getElem?_cons_zero]; rfl) (by kernel_rfl) (by kernel_rfl) (by kernel_rfl) (by kernel_rfl) (by kernel_rfl) (by exact fun _ _ _ h => h) (by rfl) (by intro W hW; obtain ⟨h1, h2⟩ := hW; go_simp) hSd ?_
          (try simp only [Act.put]); (try simp only [List.setIfInBounds_toArray]); (try simp only [List.set_cons_succ, List.set_cons_zero])
          refine E_take (i := 8) (.int .i64 (n : Int)) (by simp only [List.getElem?_toArray, List.getElem?_cons_succ, List.getElem?_cons_zero]; rfl) (by kernel_rfl) (by kernel_rfl) (by kernel_rfl) (by kernel_rfl) (by kernel_rfl) (by exact fun _ _ _ h => h) (by rfl) (by intro W hW; obtain ⟨h1, h2⟩ := hW; go_simp) hSd ?_
          (try simp only [Act.put]); (try simp only [List.setIfInBounds_toArray]); (try simp only [List.set_cons_succ, List.set_cons_zero])
          refine E_take (i := 9) (.slice (some ad) 0 0) (by simp only [List.getElem?_toArray, List.getElem?_cons_succ, List.getElem?_cons_zero]; rfl) (by kernel_rfl) (by kernel_rfl) (by kernel_rfl) (by kernel_rfl) (by kernel_rfl) (by exact fun _ _ _ h => h) (by rfl) (by intro W hW; obtain ⟨h1, h2⟩ := hW; go_simp) hSd ?_
          (try simp only [Act.put]); (try simp only [List.setIfInBounds_toArray]); (try simp only [List.set_cons_succ, List.set_cons_zero])
          refine E_two (i := 3) (k := 5) (by kernel_rfl) (by simp only [List.getElem?_toArray, List.getElem?_cons_succ, List.getElem?_cons_zero]; rfl) (by simp only [List.getElem?_toArray, List.getElem?_cons_succ, List.getElem?_cons_zero]; rfl) (fun K hK => ?_) (fun K hK => ?_)
          · have hBd : Below w3.heap.size w3 w3.drew := (Below.refl _ _).drew
            refine step_append_any rfl _ _ 22 rfl w3.heap.size 27 i0 (.agg #[.int .u64 0, .int .u64 0]) 2 16 Try.underlying22 hi hz0 hz1 hz2 rfl (by decide) (.slice none 0 0) 0 [] rfl (World.ownsRow_nil _ _ _ _) (some ad) n n ((l.take n).flatMap pairCells) rfl (by rw [flat_pairs_length, List.length_take]; omega) (news_first hv1 (hBd) hn) (pairs_one _) (by unfold maxLen; omega) (by omega) ((hBd).size) ?_
            intro S1 cap1 w4 own1 grow1
            simp only [Nat.zero_add, List.nil_append] at own1 ⊢
            have hB1 : Below w3.heap.size w3 w4 := Below.grown (hBd) grow1 (hBd).size (fun k h => by cases h)
            refine hK _ _ (fun _ => (r1.on (hB1)).two) ?_
            clear hK K
            (try simp only [Act.put]); (try simp only [List.setIfInBounds_toArray]); (try simp only [List.set_cons_succ, List.set_cons_zero])
            refine E_one (i := 5) (by kernel_rfl) (by simp only [List.getElem?_toArray, List.getElem?_cons_succ, List.getElem?_cons_zero]; rfl) (fun K hK => ?_)
            go_simp
            refine hK _ _ (fun _ => (r1.on (hB1.alloc hB1.size (.cells #[.int .u64 (p.1 : Int), .int .u64 (p.2 : Int)] 27))).two) ?_
            clear hK K
            (try simp only [Act.put]); (try simp only [List.setIfInBounds_toArray]); (try simp only [List.set_cons_succ, List.set_cons_zero])
            refine E_one (i := 6) (by kernel_rfl) (by simp only [List.getElem?_toArray, List.getElem?_cons_succ, List.getElem?_cons_zero]; rfl) (fun K hK => ?_)
            refine step_append_any rfl _ _ 22 rfl w3.heap.size 27 i0 (.agg #[.int .u64 0, .int .u64 0]) 2 16 Try.underlying22 hi hz0 hz1 hz2 rfl (by decide) (.slice S1 n cap1) n _ rfl (own1.alloc _) _ 1 1 [.int .u64 (p.1 : Int), .int .u64 (p.2 : Int)] rfl rfl (fun _ => ⟨_, rfl, news_pair (RowAt.new w4 27 #[.int .u64 (p.1 : Int), .int .u64 (p.2 : Int)])⟩) (by intro u hu0; simp at hu0; rcases hu0 with rfl | rfl <;> rfl) (by unfold maxLen; omega) (by omega) ((hB1.alloc hB1.size (.cells #[.int .u64 (p.1 : Int), .int .u64 (p.2 : Int)] 27)).size) ?_
            intro S2 cap2 w5 own2 grow2
            have hB2 : Below w3.heap.size w3 w5 := Below.grown (hB1.alloc hB1.size (.cells #[.int .u64 (p.1 : Int), .int .u64 (p.2 : Int)] 27)) grow2 (hB1.alloc hB1.size (.cells #[.int .u64 (p.1 : Int), .int .u64 (p.2 : Int)] 27)).size (fun k h => (own1.lt k h).1)
            refine hK _ _ (fun _ => (r1.on (hB2)).two) ?_
            clear hK K
            (try simp only [Act.put]); (try simp only [List.setIfInBounds_toArray]); (try simp only [List.set_cons_succ, List.set_cons_zero])
            refine E_one (i := 10) (by kernel_rfl) (by simp only [List.getElem?_toArray, List.getElem?_cons_succ, List.getElem?_cons_zero]; rfl) (fun K hK => ?_)
            refine step_append_any rfl _ _ 22 rfl w3.heap.size 27 i0 (.agg #[.int .u64 0, .int .u64 0]) 2 16 Try.underlying22 hi hz0 hz1 hz2 rfl (by decide) (.slice S2 (n + 1) cap2) (n + 1) _ rfl own2 (some ad) 0 0 ((l.drop n).flatMap pairCells) rfl (by rw [flat_pairs_length, List.length_drop]; omega) (fun h => absurd h (by omega)) (pairs_one _) (by unfold maxLen; omega) (by omega) hB2.size ?_
            intro S3 cap3 w6 own3 grow3
            have hB3 : Below w3.heap.size w3 w6 := Below.grown hB2 grow3 hB2.size (fun k h => (own2.lt k h).1)
            refine hK _ _ (fun _ => (r1.on (hB3)).two) ?_
            clear hK K
            (try simp only [Act.put]); (try simp only [List.setIfInBounds_toArray]); (try simp only [List.set_cons_succ, List.set_cons_zero])
            refine E_one (i := 11) (by kernel_rfl) (by simp only [List.getElem?_toArray, List.getElem?_cons_succ, List.getElem?_cons_zero]; rfl) (fun K hK => ?_)
            go_simp
            refine hK _ _ (fun h => absurd rfl h) ?_
            clear hK K
            refine E_done (by kernel_rfl) ?_ _
            obtain ⟨e1, e2⟩ := with_end (by omega) own3 HIN.out
            have e3 : n + 1 + 0 = (ins p l).length := by rw [ins_length]; omega
            rw [e3] at e1 e2
            clear own1 own2 own3 grow1 grow2 grow3
            go_simp
            go_wp2_with fail
            go_ret
            exact ⟨S3, cap3, by first | rfl | (rw [← e3]; rfl), e1, e2.less (Nat.le_trans b0.size hz1'), (b0.trans (hb3.mono b0.size)).trans (hB3.mono (Nat.le_trans b0.size hz1'))⟩
          · have hBd : Below w3.heap.size w3 (w3.drew.alloc (.cells #[.int .u64 (p.1 : Int), .int .u64 (p.2 : Int)] 27)) := ((Below.refl _ _).drew).alloc (Nat.le_refl _) _
            go_simp
            refine hK _ _ (fun _ => (r1.on (hBd)).two) ?_
            clear hK K
            (try simp only [Act.put]); (try simp only [List.setIfInBounds_toArray]); (try simp only [List.set_cons_succ, List.set_cons_zero])
            refine E_one (i := 3) (by kernel_rfl) (by simp only [List.getElem?_toArray, List.getElem?_cons_succ, List.getElem?_cons_zero]; rfl) (fun K hK => ?_)
            refine step_append_any rfl _ _ 22 rfl w3.heap.size 27 i0 (.agg #[.int .u64 0, .int .u64 0]) 2 16 Try.underlying22 hi hz0 hz1 hz2 rfl (by decide) (.slice none 0 0) 0 [] rfl (World.ownsRow_nil _ _ _ _) (some ad) n n ((l.take n).flatMap pairCells) rfl (by rw [flat_pairs_length, List.length_take]; omega) (news_first hv1 (hBd) hn) (pairs_one _) (by unfold maxLen; omega) (by omega) ((hBd).size) ?_
            intro S1 cap1 w4 own1 grow1
            simp only [Nat.zero_add, List.nil_append] at own1 ⊢
            have hB1 : Below w3.heap.size w3 w4 := Below.grown (hBd) grow1 (hBd).size (fun k h => by cases h)
            refine hK _ _ (fun _ => (r1.on (hB1)).two) ?_
            clear hK K
            (try simp only [Act.put]); (try simp only [List.setIfInBounds_toArray]); (try simp only [List.set_cons_succ, List.set_cons_zero])
            have rB : RowAt w4 w3.heap.size 27 [.int .u64 (p.1 : Int), .int .u64 (p.2 : Int)] := RowAt.grown (RowAt.new w3.drew 27 #[.int .u64 (p.1 : Int), .int .u64 (p.2 : Int)]) grow1 (by simp [Value.ownBlock])
            refine E_one (i := 6) (by kernel_rfl) (by simp only [List.getElem?_toArray, List.getElem?_cons_succ, List.getElem?_cons_zero]; rfl) (fun K hK => ?_)
            refine step_append_any rfl _ _ 22 rfl w3.heap.size 27 i0 (.agg #[.int .u64 0, .int .u64 0]) 2 16 Try.underlying22 hi hz0 hz1 hz2 rfl (by decide) (.slice S1 n cap1) n _ rfl (own1) _ 1 1 [.int .u64 (p.1 : Int), .int .u64 (p.2 : Int)] rfl rfl (fun _ => ⟨_, rfl, news_pair (rB)⟩) (by intro u hu0; simp at hu0; rcases hu0 with rfl | rfl <;> rfl) (by unfold maxLen; omega) (by omega) ((hB1).size) ?_
            intro S2 cap2 w5 own2 grow2
            have hB2 : Below w3.heap.size w3 w5 := Below.grown (hB1) grow2 (hB1).size (fun k h => (own1.lt k h).1)
            refine hK _ _ (fun _ => (r1.on (hB2)).two) ?_
            clear hK K
            (try simp only [Act.put]); (try simp only [List.setIfInBounds_toArray]); (try simp only [List.set_cons_succ, List.set_cons_zero])
            refine E_one (i := 10) (by kernel_rfl) (by simp only [List.getElem?_toArray, List.getElem?_cons_succ, List.getElem?_cons_zero]; rfl) (fun K hK => ?_)
            refine step_append_any rfl _ _ 22 rfl w3.heap.size 27 i0 (.agg #[.int .u64 0, .int .u64 0]) 2 16 Try.underlying22 hi hz0 hz1 hz2 rfl (by decide) (.slice S2 (n + 1) cap2) (n + 1) _ rfl own2 (some ad) 0 0 ((l.drop n).flatMap pairCells) rfl (by rw [flat_pairs_length, List.length_drop]; omega) (fun h => absurd h (by omega)) (pairs_one _) (by unfold maxLen; omega) (by omega) hB2.size ?_
            intro S3 cap3 w6 own3 grow3
            have hB3 : Below w3.heap.size w3 w6 := Below.grown hB2 grow3 hB2.size (fun k h => (own2.lt k h).1)
            refine hK _ _ (fun _ => (r1.on (hB3)).two) ?_
            clear hK K
            (try simp only [Act.put]); (try simp only [List.setIfInBounds_toArray]); (try simp only [List.set_cons_succ, List.set_cons_zero])
            refine E_one (i := 11) (by kernel_rfl) (by simp only [List.getElem?_toArray, List.getElem?_cons_succ, List.getElem?_cons_zero]; rfl) (fun K hK => ?_)
            go_simp
            refine hK _ _ (fun h => absurd rfl h) ?_
            clear hK K
            refine E_done (by kernel_rfl) ?_ _
            obtain ⟨e1, e2⟩ := with_end (by omega) own3 HIN.out
            have e3 : n + 1 + 0 = (ins p l).length := by rw [ins_length]; omega
            rw [e3] at e1 e2
            clear own1 own2 own3 grow1 grow2 grow3
            go_simp
            go_wp2_with fail
            go_ret
            exact ⟨S3, cap3, by first | rfl | (rw [← e3]; rfl), e1, e2.less (Nat.le_trans b0.size hz1'), (b0.trans (hb3.mono b0.size)).trans (hB3.mono (Nat.le_trans b0.size hz1'))⟩
        · have hcn1 : (c = n) = False := eq_false hcn
          have hcn2 : (c - n = 0) = False := eq_false (by omega)
          refine wp_region_E (fun W => W.cell? ⟨w.heap.size, 0, none⟩ = some (.int .u64 (p.1 : Int)) ∧ W.cell? ⟨w.heap.size, 1, none⟩ = some (.int .u64 (p.2 : Int))) 11 (by kernel_rfl) ?_
          have hSd : w3.drew.cell? ⟨w.heap.size, 0, none⟩ = some (.int .u64 (p.1 : Int)) ∧ w3.drew.cell? ⟨w.heap.size, 1, none⟩ = some (.int .u64 (p.2 : Int)) := ⟨x0, x1⟩
          refine E_take (i := 0) (.slice (some ad) l.length c) (by simp only [List.getElem?_toArray, List.getElem?_cons_zero]; rfl) (by kernel_rfl) (by kernel_rfl) (by kernel_rfl) (by kernel_rfl) (by kernel_rfl) (by exact fun _ _ _ h => h) (by rfl) (by intro W hW; obtain ⟨h1, h2⟩ := hW; go_simp) hSd ?_
          (try simp only [Act.put]); (try simp only [List.setIfInBounds_toArray]); (try simp only [List.set_cons_succ, List.set_cons_zero])
          refine E_take (i := 1) (.int .i64 (n : Int)) (by simp only [List.getElem?_toArray, List.getElem?_cons_succ, List.getElem?_cons_zero]; rfl) (by kernel_rfl) (by kernel_rfl) (by kernel_rfl) (by kernel_rfl) (by kernel_rfl) (by exact fun _ _ _ h => h) (by rfl) (by intro W hW; obtain ⟨h1, h2⟩ := hW; go_simp) hSd ?_
          (try simp only [Act.put]); (try simp only [List.setIfInBounds_toArray]); (try simp only [List.set_cons_succ, List.set_cons_zero])
          refine E_take (i := 2) (.slice (some ad) n c) (by simp only [List.getElem?_toArray, List.getElem?_cons_succ, List.getElem?_cons_zero]; rfl) (by kernel_rfl) (by kernel_rfl) (by kernel_rfl) (by kernel_rfl) (by kernel_rfl) (by exact fun _ _ _ h => h) (by rfl) (by intro W hW; obtain ⟨h1, h2⟩ := hW; go_simp) hSd ?_
          (try simp only [Act.put]); (try simp only [List.setIfInBounds_toArray]); (try simp only [List.set_cons_succ, List.set_cons_zero])
          refine E_take (i := 4) (.agg #[.int .u64 (p.1 : Int), .int .u64 (p.2 : Int)]) (by simp only [List.getElem?_toArray, List.getElem?_cons_succ, List.getElem?_cons_zero]; rfl) (by kernel_rfl) (by kernel_rfl) (by kernel_rfl) (by kernel_rfl) (by kernel_rfl) (by exact fun _ _ _ h => h) (by rfl) (by intro W hW; obtain ⟨h1, h2⟩ := hW; go_simp) hSd ?_
          (try simp only [Act.put]); (try simp only [List.setIfInBounds_toArray]); (try simp only [List.set_cons_succ, List.set_cons_zero])
          refine E_take (i := 7) (.slice (some ad) l.length c) (by simp only [List.getElem?_toArray, List.getElem?_cons_succ, List.getElem?_cons_zero]; rfl) (by kernel_rfl) (by kernel_rfl) (by kernel_rfl) (by kernel_rfl) (by kernel_rfl) (by exact fun _ _ _ h => h) (by rfl) (by intro W hW; obtain ⟨h1, h2⟩ := hW; go_simp) hSd ?_
          (try simp only [Act.put]); (try simp only [List.setIfInBounds_toArray]); (try simp only [List.set_cons_succ, List.set_cons_zero])
          refine E_take (i := 8) (.int .i64 (n : Int)) (by simp only [List.getElem?_toArray, List.getElem?_cons_succ, List.getElem?_cons_zero]; rfl) (by kernel_rfl) (by kernel_rfl) (by kernel_rfl) (by kernel_rfl) (by kernel_rfl) (by exact fun _ _ _ h => h) (by rfl) (by intro W hW; obtain ⟨h1, h2⟩ := hW; go_simp) hSd ?_
          (try simp only [Act.put]); (try simp only [List.setIfInBounds_toArray]); (try simp only [List.set_cons_succ, List.set_cons_zero])
          refine E_take (i := 9) (.slice (some (ad.add (n * 2))) (l.length - n) (c - n)) (by simp only [List.getElem?_toArray, List.getElem?_cons_succ, List.getElem?_cons_zero]; rfl) (by kernel_rfl) (by kernel_rfl) (by kernel_rfl) (by kernel_rfl) (by kernel_rfl) (by exact fun _ _ _ h => h) (by rfl) (by intro W hW; obtain ⟨h1, h2⟩ := hW; go_simp) hSd ?_
          (try simp only [Act.put]); (try simp only [List.setIfInBounds_toArray]); (try simp only [List.set_cons_succ, List.set_cons_zero])
          refine E_two (i := 3) (k := 5) (by kernel_rfl) (by simp only [List.getElem?_toArray, List.getElem?_cons_succ, List.getElem?_cons_zero]; rfl) (by simp only [List.getElem?_toArray, List.getElem?_cons_succ, List.getElem?_cons_zero]; rfl) (fun K hK => ?_) (fun K hK => ?_)
          · have hBd : Below w3.heap.size w3 w3.drew := (Below.refl _ _).drew
            refine step_append_any rfl _ _ 22 rfl w3.heap.size 27 i0 (.agg #[.int .u64 0, .int .u64 0]) 2 16 Try.underlying22 hi hz0 hz1 hz2 rfl (by decide) (.slice none 0 0) 0 [] rfl (World.ownsRow_nil _ _ _ _) (some ad) n c ((l.take n).flatMap pairCells) rfl (by rw [flat_pairs_length, List.length_take]; omega) (news_first hv1 (hBd) hn) (pairs_one _) (by unfold maxLen; omega) (by omega) ((hBd).size) ?_
            intro S1 cap1 w4 own1 grow1
            simp only [Nat.zero_add, List.nil_append] at own1 ⊢
            have hB1 : Below w3.heap.size w3 w4 := Below.grown (hBd) grow1 (hBd).size (fun k h => by cases h)
            refine hK _ _ (fun _ => (r1.on (hB1)).two) ?_
            clear hK K
            (try simp only [Act.put]); (try simp only [List.setIfInBounds_toArray]); (try simp only [List.set_cons_succ, List.set_cons_zero])
            refine E_one (i := 5) (by kernel_rfl) (by simp only [List.getElem?_toArray, List.getElem?_cons_succ, List.getElem?_cons_zero]; rfl) (fun K hK => ?_)
            go_simp
            refine hK _ _ (fun _ => (r1.on (hB1.alloc hB1.size (.cells #[.int .u64 (p.1 : Int), .int .u64 (p.2 : Int)] 27))).two) ?_
            clear hK K
            (try simp only [Act.put]); (try simp only [List.setIfInBounds_toArray]); (try simp only [List.set_cons_succ, List.set_cons_zero])
            refine E_one (i := 6) (by kernel_rfl) (by simp only [List.getElem?_toArray, List.getElem?_cons_succ, List.getElem?_cons_zero]; rfl) (fun K hK => ?_)
            refine step_append_any rfl _ _ 22 rfl w3.heap.size 27 i0 (.agg #[.int .u64 0, .int .u64 0]) 2 16 Try.underlying22 hi hz0 hz1 hz2 rfl (by decide) (.slice S1 n cap1) n _ rfl (own1.alloc _) _ 1 1 [.int .u64 (p.1 : Int), .int .u64 (p.2 : Int)] rfl rfl (fun _ => ⟨_, rfl, news_pair (RowAt.new w4 27 #[.int .u64 (p.1 : Int), .int .u64 (p.2 : Int)])⟩) (by intro u hu0; simp at hu0; rcases hu0 with rfl | rfl <;> rfl) (by unfold maxLen; omega) (by omega) ((hB1.alloc hB1.size (.cells #[.int .u64 (p.1 : Int), .int .u64 (p.2 : Int)] 27)).size) ?_
            intro S2 cap2 w5 own2 grow2
            have hB2 : Below w3.heap.size w3 w5 := Below.grown (hB1.alloc hB1.size (.cells #[.int .u64 (p.1 : Int), .int .u64 (p.2 : Int)] 27)) grow2 (hB1.alloc hB1.size (.cells #[.int .u64 (p.1 : Int), .int .u64 (p.2 : Int)] 27)).size (fun k h => (own1.lt k h).1)
            refine hK _ _ (fun _ => (r1.on (hB2)).two) ?_
            clear hK K
            (try simp only [Act.put]); (try simp only [List.setIfInBounds_toArray]); (try simp only [List.set_cons_succ, List.set_cons_zero])
            refine E_one (i := 10) (by kernel_rfl) (by simp only [List.getElem?_toArray, List.getElem?_cons_succ, List.getElem?_cons_zero]; rfl) (fun K hK => ?_)
            refine step_append_any rfl _ _ 22 rfl w3.heap.size 27 i0 (.agg #[.int .u64 0, .int .u64 0]) 2 16 Try.underlying22 hi hz0 hz1 hz2 rfl (by decide) (.slice S2 (n + 1) cap2) (n + 1) _ rfl own2 (some (ad.add (n * 2))) (l.length - n) (c - n) ((l.drop n).flatMap pairCells) rfl (by rw [flat_pairs_length, List.length_drop]) (news_rest hv1 hB2) (pairs_one _) (by unfold maxLen; omega) (by omega) hB2.size ?_
            intro S3 cap3 w6 own3 grow3
            have hB3 : Below w3.heap.size w3 w6 := Below.grown hB2 grow3 hB2.size (fun k h => (own2.lt k h).1)
            refine hK _ _ (fun _ => (r1.on (hB3)).two) ?_
            clear hK K
            (try simp only [Act.put]); (try simp only [List.setIfInBounds_toArray]); (try simp only [List.set_cons_succ, List.set_cons_zero])
            refine E_one (i := 11) (by kernel_rfl) (by simp only [List.getElem?_toArray, List.getElem?_cons_succ, List.getElem?_cons_zero]; rfl) (fun K hK => ?_)
            go_simp
            refine hK _ _ (fun h => absurd rfl h) ?_
            clear hK K
            refine E_done (by kernel_rfl) ?_ _
            obtain ⟨e1, e2⟩ := with_end (by omega) own3 HIN.out
            have e3 : n + 1 + (l.length - n) = (ins p l).length := by rw [ins_length]; omega
            rw [e3] at e1 e2
            clear own1 own2 own3 grow1 grow2 grow3
            go_simp
            go_wp2_with fail
            go_ret
            exact ⟨S3, cap3, by first | rfl | (rw [← e3]; rfl), e1, e2.less (Nat.le_trans b0.size hz1'), (b0.trans (hb3.mono b0.size)).trans (hB3.mono (Nat.le_trans b0.size hz1'))⟩
          · have hBd : Below w3.heap.size w3 (w3.drew.alloc (.cells #[.int .u64 (p.1 : Int), .int .u64 (p.2 : Int)] 27)) := ((Below.refl _ _).drew).alloc (Nat.le_refl _) _
            go_simp
            refine hK _ _ (fun _ => (r1.on (hBd)).two) ?_
            clear hK K
            (try simp only [Act.put]); (try simp only [List.setIfInBounds_toArray]); (try simp only [List.set_cons_succ, List.set_cons_zero])
            refine E_one (i := 3) (by kernel_rfl) (by simp only [List.getElem?_toArray, List.getElem?_cons_succ, List.getElem?_cons_zero]; rfl) (fun K hK => ?_)
            refine step_append_any rfl _ _ 22 rfl w3.heap.size 27 i0 (.agg #[.int .u64 0, .int .u64 0]) 2 16 Try.underlying22 hi hz0 hz1 hz2 rfl (by decide) (.slice none 0 0) 0 [] rfl (World.ownsRow_nil _ _ _ _) (some ad) n c ((l.take n).flatMap pairCells) rfl (by rw [flat_pairs_length, List.length_take]; omega) (news_first hv1 (hBd) hn) (pairs_one _) (by unfold maxLen; omega) (by omega) ((hBd).size) ?_
            intro S1 cap1 w4 own1 grow1
            simp only [Nat.zero_add, List.nil_append] at own1 ⊢
            have hB1 : Below w3.heap.size w3 w4 := Below.grown (hBd) grow1 (hBd).size (fun k h => by cases h)
            refine hK _ _ (fun _ => (r1.on (hB1)).two) ?_
            clear hK K
            (try simp only [Act.put]); (try simp only [List.setIfInBounds_toArray]); (try simp only [List.set_cons_succ, List.set_cons_zero])
            have rB : RowAt w4 w3.heap.size 27 [.int .u64 (p.1 : Int), .int .u64 (p.2 : Int)] := RowAt.grown (RowAt.new w3.drew 27 #[.int .u64 (p.1 : Int), .int .u64 (p.2 : Int)]) grow1 (by simp [Value.ownBlock])
            refine E_one (i := 6) (by kernel_rfl) (by simp only [List.getElem?_toArray, List.getElem?_cons_succ, List.getElem?_cons_zero]; rfl) (fun K hK => ?_)
            refine step_append_any rfl _ _ 22 rfl w3.heap.size 27 i0 (.agg #[.int .u64 0, .int .u64 0]) 2 16 Try.underlying22 hi hz0 hz1 hz2 rfl (by decide) (.slice S1 n cap1) n _ rfl (own1) _ 1 1 [.int .u64 (p.1 : Int), .int .u64 (p.2 : Int)] rfl rfl (fun _ => ⟨_, rfl, news_pair (rB)⟩) (by intro u hu0; simp at hu0; rcases hu0 with rfl | rfl <;> rfl) (by unfold maxLen; omega) (by omega) ((hB1).size) ?_
            intro S2 cap2 w5 own2 grow2
            have hB2 : Below w3.heap.size w3 w5 := Below.grown (hB1) grow2 (hB1).size (fun k h => (own1.lt k h).1)
            refine hK _ _ (fun _ => (r1.on (hB2)).two) ?_
            clear hK K
            (try simp only [Act.put]); (try simp only [List.setIfInBounds_toArray]); (try simp only [List.set_cons_succ, List.set_cons_zero])
            refine E_one (i := 10) (by kernel_rfl) (by simp only [List.getElem?_toArray, List.getElem?_cons_succ, List.getElem?_cons_zero]; rfl) (fun K hK => ?_)
            refine step_append_any rfl _ _ 22 rfl w3.heap.size 27 i0 (.agg #[.int .u64 0, .int .u64 0]) 2 16 Try.underlying22 hi hz0 hz1 hz2 rfl (by decide) (.slice S2 (n + 1) cap2) (n + 1) _ rfl own2 (some (ad.add (n * 2))) (l.length - n) (c - n) ((l.drop n).flatMap pairCells) rfl (by rw [flat_pairs_length, List.length_drop]) (news_rest hv1 hB2) (pairs_one _) (by unfold maxLen; omega) (by omega) hB2.size ?_
            intro S3 cap3 w6 own3 grow3
            have hB3 : Below w3.heap.size w3 w6 := Below.grown hB2 grow3 hB2.size (fun k h => (own2.lt k h).1)
            refine hK _ _ (fun _ => (r1.on (hB3)).two) ?_
            clear hK K
            (try simp only [Act.put]); (try simp only [List.setIfInBounds_toArray]); (try simp only [List.set_cons_succ, List.set_cons_zero])
            refine E_one (i := 11) (by kernel_rfl) (by simp only [List.getElem?_toArray, List.getElem?_cons_succ, List.getElem?_cons_zero]; rfl) (fun K hK => ?_)
            go_simp
            refine hK _ _ (fun h => absurd rfl h) ?_
            clear hK K
            refine E_done (by kernel_rfl) ?_ _
            obtain ⟨e1, e2⟩ := with_end (by omega) own3 HIN.out
            have e3 : n + 1 + (l.length - n) = (ins p l).length := by rw [ins_length]; omega
            rw [e3] at e1 e2
            clear own1 own2 own3 grow1 grow2 grow3
            go_simp
            go_wp2_with fail
            go_ret
            exact ⟨S3, cap3, by first | rfl | (rw [← e3]; rfl), e1, e2.less (Nat.le_trans b0.size hz1'), (b0.trans (hb3.mono b0.size)).trans (hB3.mono (Nat.le_trans b0.size hz1'))⟩
end Go.Proofs.Ytjjccoliknngcaa
