/- The statements' own small functions of layer 5: pick, Words, count. -/
import Derived.Test.YtgkihgcclkkbeaaTokE
namespace Go.Proofs.Ytgkihgcclkkbeaa
open Go.RowKit

/-- pick: which of n things a raw number speaks of. -/
def pickOf (c n : Int) : Int := (if c < 0 then -(c + 1) else c) % n
theorem pickOf_bd (c n : Int) (hn : 0 < n) : 0 ≤ pickOf c n ∧ pickOf c n < n := by
  unfold pickOf
  exact ⟨Int.emod_nonneg _ (by omega), Int.emod_lt_of_pos _ hn⟩
def pickN (c n : Int) : Nat := (pickOf c n).toNat
theorem pickN_lt (c n : Int) (hn : 0 < n) : (pickN c n : Int) < n := by
  have := pickOf_bd c n hn
  unfold pickN
  omega
theorem pickN_eq (c n : Int) (hn : 0 < n) : pickOf c n = (pickN c n : Int) := by
  have := pickOf_bd c n hn
  unfold pickN
  omega
def I64 (c : Int) : Prop := -9223372036854775808 ≤ c ∧ c ≤ 9223372036854775807

theorem pick5_any (c n : Int) (w : World) (hc : I64 c) (hn : 0 < n) (hn2 : n ≤ 1000000000) :
    Calls Try.prog 21 #[.int .i64 c, .int .i64 n] w fun e w' => e = .returned (.int .i64 (pickN c n : Int)) ∧ w = w' := by
  unfold I64 at hc
  rw [← pickN_eq c n hn]
  by_cases h : c < 0
  · have he : pickOf c n = -((c + 1).tmod n) := by
      unfold pickOf
      rw [if_pos h, ← Int.neg_tmod, Int.tmod_eq_emod_of_nonneg (by omega)]
    rw [he]
    clear he
    go_enter Try.func21, Try.ntmps21
    go_wp2
    go_ret
    exact ⟨rfl, rfl⟩
  · have he : pickOf c n = c % n := by unfold pickOf; rw [if_neg h]
    rw [he]
    clear he
    go_enter Try.func21, Try.ntmps21
    go_wp2
    go_ret
    exact ⟨rfl, rfl⟩

theorem take_step {α : Type} (a b : List α) (k : Nat) (h1 : k < a.length) (h2 : k < b.length) (h : a.take k = b.take k) (he : a[k] = b[k]) : a.take (k + 1) = b.take (k + 1) := by
  rw [List.take_succ_eq_append_getElem h1, List.take_succ_eq_append_getElem h2, h, he]

set_option maxHeartbeats 1000000 in
theorem Words_any (va vb : Value) (a b : List Nat) (w : World) (ha : Wds w w.heap.size va a) (hb : Wds w w.heap.size vb b) (h9 : a.length ≤ 1000000) (h9b : b.length ≤ 1000000) :
    Calls Try.prog 17 #[va, vb] w fun e w' => e = .returned (.bool (decide (a = b))) ∧ Below w.heap.size w w' := by
  obtain ⟨A, c, rfl, hc⟩ := ha.form
  obtain ⟨A', c', rfl, hc'⟩ := hb.form
  by_cases hl : a.length = b.length
  · have hd : ((a.length : Int) != (b.length : Int)) = false := by rw [bne, beq_int]; simp [hl]
    have HL := Lib.hid hl
    clear hl
    go_enter Try.func17, Try.ntmps17
    go_wp2_with fail
    go_loopw [5] (fun i wr => ∃ k : Nat, k ≤ a.length ∧ i = .int .i64 k ∧ a.take k = b.take k ∧ Below w.heap.size w wr) (fun i _ => a.length - (intOf i).toNat)
    case atStart => exact ⟨0, Nat.zero_le _, rfl, by simp, Below.refl _ _⟩
    case round =>
      obtain ⟨k, hk, rfl, hte, hbw⟩ := hrel
      have HT := Lib.hid hte
      clear hte
      by_cases hlt : k < a.length
      · have hltb : k < b.length := by have := HL.out; omega
        obtain ⟨ad, rfl, _, hc1⟩ := (ha.below hbw (Nat.le_refl _)).at_ hlt
        obtain ⟨bd, rfl, _, hc2⟩ := (hb.below hbw (Nat.le_refl _)).at_ hltb
        have HN := Lib.hid (show a[k] ≠ b[k] → decide (a = b) = false from fun h0 => decide_eq_false fun e => h0 (by subst e; rfl))
        have HS := Lib.hid (show a[k] = b[k] → a.take (k + 1) = b.take (k + 1) from fun h0 => take_step a b k hlt hltb HT.out h0)
        generalize a[k] = p at *
        generalize b[k] = q at *
        by_cases hpq : p = q
        · have hne : ((p : Int) != (q : Int)) = false := by rw [bne, beq_int]; simp [hpq]
          have hs2 := HS.out hpq
          clear hpq
          go_wp2_with fail
          go_region
          go_wp2_with fail
          go_roundw
          case rel => exact ⟨k + 1, by omega, by go_num, hs2, hbw.drew⟩
          case measure => simp [intOf]; omega
        · have hne : ((p : Int) != (q : Int)) = true := by rw [bne, beq_int]; simp [hpq]
          have HN2 := Lib.hid (HN.out hpq)
          clear hpq HN HS
          go_wp2_with fail
          go_region
          go_wp2_with fail
          go_ret
          refine ⟨?_, hbw.drew⟩
          rw [HN2.out]
          rfl
      · go_wp2_with fail
        go_ret
        refine ⟨?_, hbw⟩
        have hab : a = b := by
          have h1 := HT.out
          have h2 := HL.out
          rw [List.take_of_length_le (by omega), List.take_of_length_le (by omega)] at h1
          exact h1
        rw [decide_eq_true hab]
        rfl
  · have hd : ((a.length : Int) != (b.length : Int)) = true := by rw [bne, beq_int]; simp [hl]
    rw [show decide (a = b) = false from decide_eq_false fun e => hl (by rw [e])]
    clear hl
    go_enter Try.func17, Try.ntmps17
    go_wp2_with fail
    go_ret
    exact ⟨rfl, Below.refl _ _⟩

theorem count_step (l : List Pr) (p : Pr) (k : Nat) (h : k < l.length) : (l.take (k + 1)).count p = (l.take k).count p + if l[k] = p then 1 else 0 := by
  rw [List.take_succ_eq_append_getElem h, List.count_append, List.count_singleton]
  congr 1
  by_cases e : l[k] = p
  · simp [e]
  · simp [e]

set_option maxHeartbeats 1000000 in
theorem count_any (x : Value) (f : Bool) (l : List Pr) (p1 p2 : Nat) (w : World) (hx : Tk w x f l) (h9 : l.length ≤ 1000000) :
    Calls Try.prog 26 #[x, .agg #[.int .u64 (p1 : Int), .int .u64 (p2 : Int)]] w fun e w' => e = .returned (.int .i64 (l.count (p1, p2) : Int)) ∧ Below w.heap.size w w' := by
  obtain ⟨A, c, rfl, hc, hv⟩ := hx.form
  obtain ⟨w2, hw2⟩ : ∃ w2, w2 = (w.alloc (.cells #[.bool f, .slice A l.length c] 24)).alloc (.cells #[.int .u64 (p1 : Int), .int .u64 (p2 : Int)] 50) := ⟨_, rfl⟩
  have r0 := (RowAt.new w 24 #[.bool f, .slice A l.length c]).alloc (.cells #[.int .u64 (p1 : Int), .int .u64 (p2 : Int)] 50)
  have r1 := RowAt.new (w.alloc (.cells #[.bool f, .slice A l.length c] 24)) 50 #[.int .u64 (p1 : Int), .int .u64 (p2 : Int)]
  rw [World.size_alloc] at r1
  have hb0 := (boxed w f (.slice A l.length c)).alloc (by simp) (.cells #[.int .u64 (p1 : Int), .int .u64 (p2 : Int)] 50)
  have hv2 := hv.on hb0
  rw [← hw2] at r0 r1 hb0 hv2
  have HW := Lib.hid hw2
  clear hw2 hv hx
  go_enter Try.func26, Try.ntmps26
  go_wp2_with fail
  rw [← HW.out]
  go_loopw [5, 6] (fun n i wr => ∃ k : Nat, k ≤ l.length ∧ i = .int .i64 k ∧ n = .int .i64 ((l.take k).count (p1, p2) : Int) ∧ Below w2.heap.size w2 wr) (fun _ i _ => l.length - (intOf i).toNat)
  case atStart => exact ⟨0, Nat.zero_le _, rfl, rfl, Below.refl _ _⟩
  case round =>
    obtain ⟨k, hk, rfl, rfl, hb⟩ := hrel
    obtain ⟨x0, x1⟩ := (r0.on hb).two
    obtain ⟨y0, y1⟩ := (r1.on hb).two
    have hbw := bstep hb0 hb hb0.size
    have hcl : (l.take k).count (p1, p2) ≤ k := Nat.le_trans List.count_le_length (by rw [List.length_take]; omega)
    by_cases hlt : k < l.length
    · obtain ⟨ad, rfl, _, e1, e2⟩ := (hv2.below hb (Nat.le_refl _)).at_ hlt
      have HC := Lib.hid (count_step l (p1, p2) k hlt)
      generalize l[k] = q at *
      obtain ⟨q1, q2⟩ := q
      generalize (l.take k).count (p1, p2) = m at *
      by_cases h1 : q1 = p1
      · subst h1
        by_cases h2 : q2 = p2
        · subst h2
          have HC2 := Lib.hid (show (l.take (k + 1)).count (q1, q2) = m + 1 by rw [HC.out, if_pos rfl])
          clear HC
          go_wp2_with fail
          go_region
          go_wp2_with fail
          go_roundw
          case rel => exact ⟨k + 1, by omega, by go_num, by rw [HC2.out]; go_num, hb.drew⟩
          case measure => simp [intOf]; omega
        · have h2a : ((q2 : Int) = (p2 : Int)) = False := eq_false (by omega)
          have HC2 := Lib.hid (show (l.take (k + 1)).count (q1, p2) = m by rw [HC.out, if_neg (by simp [h2])]; rfl)
          clear h2 HC
          go_wp2_with fail
          go_region
          go_wp2_with fail
          go_roundw
          case rel => exact ⟨k + 1, by omega, by go_num, by rw [HC2.out], hb.drew⟩
          case measure => simp [intOf]; omega
      · have h1a : ((q1 : Int) = (p1 : Int)) = False := eq_false (by omega)
        have HC2 := Lib.hid (show (l.take (k + 1)).count (p1, p2) = m by rw [HC.out, if_neg (by simp [h1])]; rfl)
        clear h1 HC
        go_wp2_with fail
        go_region
        go_wp2_with fail
        go_roundw
        case rel => exact ⟨k + 1, by omega, by go_num, by rw [HC2.out], hb.drew⟩
        case measure => simp [intOf]; omega
    · obtain rfl : l.length = k := by omega
      rw [List.take_length] at *
      clear hcl hk hlt
      go_wp2_with fail
      go_ret
      exact ⟨rfl, hbw⟩
end Go.Proofs.Ytgkihgcclkkbeaa
