/- oracle's Right and has. -/
import Derived.Test.YtjjccoliknngcaaOrcG
import Derived.ScopeJumps
import Derived.WalkMore
namespace Go.Proofs.Ytjjccoliknngcaa
open Go.RowKit

theorem oahead_below (a b : Pr) (w : World) :
    Calls Try.prog 36 #[.agg #[.int .u64 (a.1 : Int), .int .u64 (a.2 : Int)], .agg #[.int .u64 (b.1 : Int), .int .u64 (b.2 : Int)]] w fun e w' => e = .returned (.bool (aheadB a b)) ∧ Below w.heap.size w w' :=
  (oahead_any a.1 a.2 b.1 b.2 w).mono fun e w' ⟨h1, h2⟩ => ⟨h1, by rw [h2]; exact ((Below.refl _ w).alloc (Nat.le_refl _) _).alloc (by simp) _⟩
/-- Where a pair lies, if it is there: behind lo, ahead of hi. -/
structure Lies (l : List Pr) (p : Pr) (lo hi : Nat) : Prop where
  le : lo ≤ hi
  len : hi ≤ l.length
  low_ : ∀ i (h : i < l.length), i < lo → aheadB l[i] p = true
  high_ : ∀ i (h : i < l.length), hi ≤ i → aheadB p l[i] = true
theorem Lies.not_mem {l : List Pr} {p : Pr} {n : Nat} (h : Lies l p n n) : p ∉ l := by
  intro hp
  obtain ⟨i, hi, rfl⟩ := List.mem_iff_getElem.1 hp
  rcases Nat.lt_or_ge i n with k | k
  · have := h.low_ i hi k; rw [ahead_irr] at this; cases this
  · have := h.high_ i hi k; rw [ahead_irr] at this; cases this
theorem Lies.low {l : List Pr} {p : Pr} {lo hi m : Nat} (h : Lies l p lo hi) (hr : Rise l) (h1 : lo ≤ m) (h2 : m < hi) (hm : m < l.length) (ha : aheadB l[m] p = false) (hn : l[m] ≠ p) : Lies l p lo m := by
  have hp : aheadB p l[m] = true := (ahead_tri ha).resolve_left hn
  refine ⟨h1, by omega, h.low_, fun i hi hmi => ?_⟩
  rcases Nat.lt_or_ge m i with k | k
  · exact ahead_trans hp (rise_lt hr k hi)
  · obtain rfl : i = m := by omega
    exact hp
theorem Lies.high {l : List Pr} {p : Pr} {lo hi m : Nat} (h : Lies l p lo hi) (hr : Rise l) (h1 : lo ≤ m) (h2 : m < hi) (hm : m < l.length) (ha : aheadB l[m] p = true) : Lies l p (m + 1) hi := by
  refine ⟨by omega, h.len, fun i hi hmi => ?_, h.high_⟩
  rcases Nat.lt_or_ge i m with k | k
  · exact ahead_trans (rise_lt hr k hm) ha
  · obtain rfl : i = m := by omega
    exact ha
theorem Lies.all (l : List Pr) (p : Pr) : Lies l p 0 l.length := ⟨Nat.zero_le _, Nat.le_refl _, fun i _ h => by omega, fun i h k => by omega⟩

set_option maxHeartbeats 1000000 in
theorem oRight_any (v : Value) (l : List Pr) (w : World) (hv : Prs w w.heap.size v l) (h9 : l.length ≤ 1000000) :
    Calls Try.prog 14 #[v] w fun e w' => e = .returned (.bool (rightO l)) ∧ Below w.heap.size w w' := by
  obtain ⟨A, c, rfl, hc⟩ := hv.form
  by_cases hl : 4096 < l.length
  · have hd : ((4096 : Int) < (l.length : Int)) = True := eq_true (by omega)
    have hR : rightO l = false := by
      have : ¬ l.length ≤ 4096 := by omega
      simp [rightO, this]
    rw [hR]
    clear hl hR
    go_enter Try.func14, Try.ntmps14
    go_wp2_with fail
    go_ret
    exact ⟨rfl, Below.refl _ _⟩
  have hd : ((4096 : Int) < (l.length : Int)) = False := eq_false (by omega)
  have hl2 : l.length ≤ 4096 := by omega
  clear hl
  go_enter Try.func14, Try.ntmps14
  go_wp2_with fail
  go_loopw [3] (fun i wr => ∃ k : Nat, 1 ≤ k ∧ (k ≤ l.length ∨ k = 1) ∧ i = .int .i64 k ∧ stcTo l k ∧ Below w.heap.size w wr) (fun i _ => l.length - (intOf i).toNat)
  case atStart => exact ⟨1, Nat.le_refl _, .inr rfl, rfl, fun i _ h => by omega, Below.refl _ _⟩
  case round =>
    obtain ⟨k, hk1, hk, rfl, hs, hb⟩ := hrel
    by_cases hlt : k < l.length
    · obtain ⟨j, rfl⟩ : ∃ j, k = j + 1 := ⟨k - 1, by omega⟩
      obtain ⟨ad, rfl, hc1, hc2⟩ := hv.cells hb hlt
      obtain ⟨_, e, hd1, hd2⟩ := hv.cells hb (show j < l.length by omega)
      cases e
      have hz := hb.size
      have ej : ((j + 1 : Nat) : Int) - 1 = (j : Int) := by omega
      have HS := Lib.hid (show aheadB l[j] l[j + 1] = true → stcTo l (j + 1 + 1) from fun h0 i hi hi2 => by
        rcases Nat.lt_or_ge (i + 1) (j + 1) with h1 | h1
        · exact hs i hi h1
        · obtain rfl : i = j := by omega
          exact h0)
      have HN := Lib.hid (show aheadB l[j] l[j + 1] = false → rightO l = false from fun h0 => by
        cases hq : stc l
        · unfold rightO; rw [hq, Bool.and_false]
        · rw [(stc_at l).1 hq j hlt] at h0; cases h0)
      have cA := fun W => oahead_below l[j] l[j + 1] W
      clear hs
      generalize aheadB l[j] l[j + 1] = bb at *
      go_wp2_with fail
      refine wp_region_later (by kernel_rfl) (by kernel_rfl) ?_
      repeat (go_big_quiet_step (first | (go_at_call 36; exact later_of (cA _))))
      refine wpQuiet_nil ?_
      intro _ hw'
      obtain ⟨pq, rfl⟩ := hw'
      have hbn : Below w.heap.size w pq.W := hb.trans (pq.h.mono hz)
      clear hc1 hc2 hd1 hd2
      generalize pq.W = w2 at *
      cases bb
      · have HN2 := Lib.hid (HN.out rfl)
        clear HN HS
        go_wp2_with fail
        go_ret
        refine ⟨?_, hbn⟩
        rw [HN2.out]
        rfl
      · have hs2 := HS.out rfl
        go_wp2_with fail
        go_roundw
        case rel => exact ⟨j + 1 + 1, by omega, .inl (by omega), by go_num, hs2, hbn⟩
        case measure => simp [intOf]; omega
    · have HR := Lib.hid (show rightO l = true from (rightO_iff l).2 ⟨hl2, (stc_iff l).1 ((stc_at l).2 fun i hi => hs i hi (by omega))⟩)
      clear hs
      go_wp2_with fail
      go_ret
      refine ⟨?_, hb⟩
      rw [HR.out]
      rfl

set_option maxHeartbeats 4000000 in
set_option maxRecDepth 100000 in
theorem ohas_any (v : Value) (l : List Pr) (p : Pr) (w : World) (hv : Prs w w.heap.size v l) (hr : Rise l) (h9 : l.length ≤ 1000000) :
    Calls Try.prog 38 #[v, .agg #[.int .u64 (p.1 : Int), .int .u64 (p.2 : Int)]] w fun e w' => e = .returned (.bool (decide (p ∈ l))) ∧ Below w.heap.size w w' := by
  obtain ⟨A, c, rfl, hc⟩ := hv.form
  obtain ⟨p1, p2⟩ := p
  have r0 := RowAt.new w 27 #[.int .u64 (p1 : Int), .int .u64 (p2 : Int)]
  have b0 := (Below.refl w.heap.size w).alloc (Nat.le_refl _) (.cells #[.int .u64 (p1 : Int), .int .u64 (p2 : Int)] 27)
  have hV := hv.alloc (.cells #[.int .u64 (p1 : Int), .int .u64 (p2 : Int)] 27)
  clear hv
  go_enter Try.func38, Try.ntmps38
  go_wp2
  generalize w.alloc (.cells #[.int .u64 (p1 : Int), .int .u64 (p2 : Int)] 27) = w0 at *
  refine wp_scope_jumps 0 (fun a' w' => ∃ (lo hi : Nat) (u7 u8 u9 u10 u11 u12 u13 u14 u15 u16 u17 u18 u19 u20 u21 u22 u23 u24 u25 u26 u27 u28 u29 u30 u31 u32 u33 u34 u35 : Value), a' = { tmps := #[.slice A l.length c, .agg #[.int .u64 (p1 : Int), .int .u64 (p2 : Int)], undef, .pointer (some ⟨w.heap.size, 0, none⟩), .bool false, .int .i64 (lo : Int), .int .i64 (hi : Int), u7, u8, u9, u10, u11, u12, u13, u14, u15, u16, u17, u18, u19, u20, u21, u22, u23, u24, u25, u26, u27, u28, u29, u30, u31, u32, u33, u34, u35], defers := [] } ∧ Lies l (p1, p2) lo hi ∧ Below w0.heap.size w0 w') (fun a _ => (intOf (a.tmps.getD 6 undef) - intOf (a.tmps.getD 5 undef)).toNat) rfl ?_ ?_
  · go_wp2
    go_step3
    obtain ⟨lo, hlo⟩ : ∃ lo : Nat, lo = 0 := ⟨0, rfl⟩
    have elo : Value.int .i64 0 = Value.int .i64 (lo : Int) := by rw [hlo]; rfl
    have hL : Lies l (p1, p2) lo l.length := by rw [hlo]; exact Lies.all l (p1, p2)
    rw [elo]
    clear hlo elo
    obtain ⟨wr, hwr⟩ : ∃ z, z = w0 := ⟨_, rfl⟩
    rw [← hwr]
    have hb : Below w0.heap.size w0 wr := by rw [hwr]; exact Below.refl _ _
    clear hwr
    have hB := b0.trans (hb.mono b0.size)
    obtain ⟨x0, x1⟩ := (r0.on hb).two
    obtain ⟨X0, X1⟩ := (r0.on hb.drew).laters
    by_cases hlh : lo = l.length
    · subst hlh
      have HF := Lib.hid (decide_eq_false (hL.not_mem))
      clear hL
      go_wp2_with fail
      simp only [Exit.jump]
      go_ret
      refine ⟨?_, hB⟩
      rw [HF.out]; rfl
    · have hlt : lo < l.length := Nat.lt_of_le_of_ne hL.le hlh
      have hle := hL.le
      have hhi := hL.len
      obtain ⟨m, hm⟩ : ∃ m, m = lo + (l.length - lo) / 2 := ⟨_, rfl⟩
      have hml : m < l.length := by omega
      have hm1 : lo ≤ m := by omega
      have hm2 : m < l.length := by omega
      have ed : ((l.length : Int) - (lo : Int)).tdiv 2 = (((l.length - lo) / 2 : Nat) : Int) := by
        rw [Int.tdiv_eq_ediv_of_nonneg (by omega)]; omega
      have em : (lo : Int) + (((l.length - lo) / 2 : Nat) : Int) = (m : Int) := by omega
      have hne : ((lo : Int) == (l.length : Int)) = false := by rw [beq_eq_false_iff_ne]; omega
      obtain ⟨ad, rfl, e1, e2⟩ := (hV.on hb).read hml
      obtain ⟨_, e, E1, E2⟩ := hV.cells hb.drew hml
      cases e
      have HY := Lib.hid (show l[m] = (p1, p2) → decide ((p1, p2) ∈ l) = true from fun e => decide_eq_true (by rw [← e]; exact List.getElem_mem _))
      have HLO := Lib.hid (show aheadB l[m] (p1, p2) = false → l[m] ≠ (p1, p2) → Lies l (p1, p2) lo m from fun h1 h2 => hL.low hr hm1 hm2 hml h1 h2)
      have HHI := Lib.hid (show aheadB l[m] (p1, p2) = true → Lies l (p1, p2) (m + 1) l.length from fun h1 => hL.high hr hm1 hm2 hml h1)
      have cA := fun W => oahead_below l[m] (p1, p2) W
      clear hL hm hlh
      generalize l[m] = a at *
      generalize (l.length - lo) / 2 = dd at *
      obtain ⟨a1, a2⟩ := a
      by_cases h1 : p1 = a1
      · subst h1
        by_cases h2 : p2 = a2
        · subst h2
          have HY2 := Lib.hid (HY.out rfl)
          clear HY HLO HHI cA E1 E2 X0 X1
          go_wp2_with fail
          go_region
          all_goals go_wp2_with fail
          simp only [Exit.jump]
          go_ret
          refine ⟨?_, hB.drew⟩
          rw [HY2.out]; rfl
        · have hn2 : ((a2 : Int) == (p2 : Int)) = false := by rw [beq_eq_false_iff_ne]; omega
          clear HY
          generalize aheadB (p1, a2) (p1, p2) = bb at *
          go_wp2_with fail
          go_region
          all_goals go_wp2_with fail
          refine wp_region_later (by kernel_rfl) (by kernel_rfl) ?_
          repeat (go_big_quiet_step (first | (go_at_call 36; exact later_of (cA _))))
          refine wpQuiet_nil ?_
          intro _ hw'
          obtain ⟨pq, rfl⟩ := hw'
          have hb3 : Below w0.heap.size w0 pq.W := hb.drew.trans (pq.h.mono hb.drew.size)
          clear x0 x1 cA e1 e2 X0 X1 E1 E2
          generalize pq.W = w3 at *
          cases bb
          · have HL := Lib.hid (HLO.out rfl (fun e => h2 (congrArg Prod.snd e).symm))
            clear HLO HHI
            go_wp2_with fail
            go_step3
            exact ⟨rfl, lo, m, _, _, _, _, _, _, _, _, _, _, _, _, _, _, _, _, _, _, _, _, _, _, _, _, _, _, _, _, _, rfl, HL.out, hb3⟩
          · have HL := Lib.hid (HHI.out rfl)
            clear HLO HHI
            go_wp2_with fail
            go_step3
            exact ⟨rfl, (m + 1), l.length, _, _, _, _, _, _, _, _, _, _, _, _, _, _, _, _, _, _, _, _, _, _, _, _, _, _, _, _, _, rfl, HL.out, hb3⟩
      · have hn1 : ((a1 : Int) == (p1 : Int)) = false := by rw [beq_eq_false_iff_ne]; omega
        clear HY
        generalize aheadB (a1, a2) (p1, p2) = bb at *
        go_wp2_with fail
        go_region
        all_goals go_wp2_with fail
        refine wp_region_later (by kernel_rfl) (by kernel_rfl) ?_
        repeat (go_big_quiet_step (first | (go_at_call 36; exact later_of (cA _))))
        refine wpQuiet_nil ?_
        intro _ hw'
        obtain ⟨pq, rfl⟩ := hw'
        have hb3 : Below w0.heap.size w0 pq.W := hb.drew.trans (pq.h.mono hb.drew.size)
        clear x0 x1 cA e1 e2 X0 X1 E1 E2
        generalize pq.W = w3 at *
        cases bb
        · have HL := Lib.hid (HLO.out rfl (fun e => h1 (congrArg Prod.fst e).symm))
          clear HLO HHI
          go_wp2_with fail
          go_step3
          exact ⟨rfl, lo, m, _, _, _, _, _, _, _, _, _, _, _, _, _, _, _, _, _, _, _, _, _, _, _, _, _, _, _, _, _, rfl, HL.out, hb3⟩
        · have HL := Lib.hid (HHI.out rfl)
          clear HLO HHI
          go_wp2_with fail
          go_step3
          exact ⟨rfl, (m + 1), l.length, _, _, _, _, _, _, _, _, _, _, _, _, _, _, _, _, _, _, _, _, _, _, _, _, _, _, _, _, _, rfl, HL.out, hb3⟩
  · rintro a' w' ⟨lo, hi, u7, u8, u9, u10, u11, u12, u13, u14, u15, u16, u17, u18, u19, u20, u21, u22, u23, u24, u25, u26, u27, u28, u29, u30, u31, u32, u33, u34, u35, rfl, hL, hb⟩
    obtain ⟨wr, hwr⟩ : ∃ z, z = w' := ⟨_, rfl⟩
    subst hwr
    have hB := b0.trans (hb.mono b0.size)
    obtain ⟨x0, x1⟩ := (r0.on hb).two
    obtain ⟨X0, X1⟩ := (r0.on hb.drew).laters
    by_cases hlh : lo = hi
    · subst hlh
      have HF := Lib.hid (decide_eq_false (hL.not_mem))
      clear hL
      go_wp2_with fail
      simp only [Exit.jump]
      go_ret
      refine ⟨?_, hB⟩
      rw [HF.out]; rfl
    · have hlt : lo < hi := Nat.lt_of_le_of_ne hL.le hlh
      have hle := hL.le
      have hhi := hL.len
      obtain ⟨m, hm⟩ : ∃ m, m = lo + (hi - lo) / 2 := ⟨_, rfl⟩
      have hml : m < l.length := by omega
      have hm1 : lo ≤ m := by omega
      have hm2 : m < hi := by omega
      have ed : ((hi : Int) - (lo : Int)).tdiv 2 = (((hi - lo) / 2 : Nat) : Int) := by
        rw [Int.tdiv_eq_ediv_of_nonneg (by omega)]; omega
      have em : (lo : Int) + (((hi - lo) / 2 : Nat) : Int) = (m : Int) := by omega
      have hne : ((lo : Int) == (hi : Int)) = false := by rw [beq_eq_false_iff_ne]; omega
      obtain ⟨ad, rfl, e1, e2⟩ := (hV.on hb).read hml
      obtain ⟨_, e, E1, E2⟩ := hV.cells hb.drew hml
      cases e
      have HY := Lib.hid (show l[m] = (p1, p2) → decide ((p1, p2) ∈ l) = true from fun e => decide_eq_true (by rw [← e]; exact List.getElem_mem _))
      have HLO := Lib.hid (show aheadB l[m] (p1, p2) = false → l[m] ≠ (p1, p2) → Lies l (p1, p2) lo m from fun h1 h2 => hL.low hr hm1 hm2 hml h1 h2)
      have HHI := Lib.hid (show aheadB l[m] (p1, p2) = true → Lies l (p1, p2) (m + 1) hi from fun h1 => hL.high hr hm1 hm2 hml h1)
      have cA := fun W => oahead_below l[m] (p1, p2) W
      clear hL hm hlh
      generalize l[m] = a at *
      generalize (hi - lo) / 2 = dd at *
      obtain ⟨a1, a2⟩ := a
      by_cases h1 : p1 = a1
      · subst h1
        by_cases h2 : p2 = a2
        · subst h2
          have HY2 := Lib.hid (HY.out rfl)
          clear HY HLO HHI cA E1 E2 X0 X1
          go_wp2_with fail
          go_region
          all_goals go_wp2_with fail
          simp only [Exit.jump]
          go_ret
          refine ⟨?_, hB.drew⟩
          rw [HY2.out]; rfl
        · have hn2 : ((a2 : Int) == (p2 : Int)) = false := by rw [beq_eq_false_iff_ne]; omega
          clear HY
          generalize aheadB (p1, a2) (p1, p2) = bb at *
          go_wp2_with fail
          go_region
          all_goals go_wp2_with fail
          refine wp_region_later (by kernel_rfl) (by kernel_rfl) ?_
          repeat (go_big_quiet_step (first | (go_at_call 36; exact later_of (cA _))))
          refine wpQuiet_nil ?_
          intro _ hw'
          obtain ⟨pq, rfl⟩ := hw'
          have hb3 : Below w0.heap.size w0 pq.W := hb.drew.trans (pq.h.mono hb.drew.size)
          clear x0 x1 cA e1 e2 X0 X1 E1 E2
          generalize pq.W = w3 at *
          cases bb
          · have HL := Lib.hid (HLO.out rfl (fun e => h2 (congrArg Prod.snd e).symm))
            clear HLO HHI
            go_wp2_with fail
            go_step3
            refine ⟨rfl, ⟨lo, m, _, _, _, _, _, _, _, _, _, _, _, _, _, _, _, _, _, _, _, _, _, _, _, _, _, _, _, _, _, rfl, HL.out, hb3⟩, ?_⟩
            simp [intOf]
            omega
          · have HL := Lib.hid (HHI.out rfl)
            clear HLO HHI
            go_wp2_with fail
            go_step3
            refine ⟨rfl, ⟨(m + 1), hi, _, _, _, _, _, _, _, _, _, _, _, _, _, _, _, _, _, _, _, _, _, _, _, _, _, _, _, _, _, rfl, HL.out, hb3⟩, ?_⟩
            simp [intOf]
            omega
      · have hn1 : ((a1 : Int) == (p1 : Int)) = false := by rw [beq_eq_false_iff_ne]; omega
        clear HY
        generalize aheadB (a1, a2) (p1, p2) = bb at *
        go_wp2_with fail
        go_region
        all_goals go_wp2_with fail
        refine wp_region_later (by kernel_rfl) (by kernel_rfl) ?_
        repeat (go_big_quiet_step (first | (go_at_call 36; exact later_of (cA _))))
        refine wpQuiet_nil ?_
        intro _ hw'
        obtain ⟨pq, rfl⟩ := hw'
        have hb3 : Below w0.heap.size w0 pq.W := hb.drew.trans (pq.h.mono hb.drew.size)
        clear x0 x1 cA e1 e2 X0 X1 E1 E2
        generalize pq.W = w3 at *
        cases bb
        · have HL := Lib.hid (HLO.out rfl (fun e => h1 (congrArg Prod.fst e).symm))
          clear HLO HHI
          go_wp2_with fail
          go_step3
          refine ⟨rfl, ⟨lo, m, _, _, _, _, _, _, _, _, _, _, _, _, _, _, _, _, _, _, _, _, _, _, _, _, _, _, _, _, _, rfl, HL.out, hb3⟩, ?_⟩
          simp [intOf]
          omega
        · have HL := Lib.hid (HHI.out rfl)
          clear HLO HHI
          go_wp2_with fail
          go_step3
          refine ⟨rfl, ⟨(m + 1), hi, _, _, _, _, _, _, _, _, _, _, _, _, _, _, _, _, _, _, _, _, _, _, _, _, _, _, _, _, _, rfl, HL.out, hb3⟩, ?_⟩
          simp [intOf]
          omega
end Go.Proofs.Ytjjccoliknngcaa
