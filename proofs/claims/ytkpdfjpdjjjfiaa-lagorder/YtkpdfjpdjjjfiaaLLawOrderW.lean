/- The walk of LagOrder. -/
import Derived.Test.YtkpdfjpdjjjfiaaLagF
import Derived.OpenShut
namespace Go.Proofs.Ytkpdfjpdjjjfiaa
open Go.RowKit Ieee

theorem rankW_max (a : Nat) (ha : a < 18446744073709551616) : rankW a ≤ 18444492273895866369 := by
  unfold rankW plainW
  split <;> split <;> (try split) <;> omega
theorem rankW_min (a : Nat) (ha : a < 18446744073709551616) : 4503599627370495 ≤ rankW a := by
  unfold rankW plainW
  by_cases h : 9218868437227405312 < a % 9223372036854775808
  · rw [if_pos h]; decide
  · rw [if_neg h]
    split <;> split <;> omega
theorem less_self (a : Nat) : lessW a a = false := by simp [lessW]
theorem nan_less (a : Nat) (ha : a < 18446744073709551616) : lessW 9221120237041090561 a = false := by
  have r : rankW 9221120237041090561 = 18444492273895866369 := rfl
  have := rankW_max a ha
  unfold lessW
  rw [r, decide_eq_false (by omega)]
theorem less_low (a : Nat) (ha : a < 18446744073709551616) : lessW a 18442240474082181120 = false := by
  have r : rankW 18442240474082181120 = 4503599627370495 := rfl
  have := rankW_min a ha
  unfold lessW
  rw [r, decide_eq_false (by omega)]
theorem less_plain (a : Nat) : lessW a (plainW a) = false := by simp [lessW, rankW_plain]
theorem plain_less (a : Nat) : lessW (plainW a) a = false := by simp [lessW, rankW_plain]

set_option maxHeartbeats 2000000 in
theorem lorder_walk (a b c : Nat) (w : World) (ha : a < 18446744073709551616) (hb : b < 18446744073709551616) (hc : c < 18446744073709551616) :
    Calls Try.prog 5 #[.int .u64 (a : Int), .int .u64 (b : Int), .int .u64 (c : Int)] w fun e w' => e = .returned (.bool true) ∧ Below w.heap.size w w' := by
  have hab := fun W => Less_any a b W ha hb
  have hba := fun W => Less_any b a W hb ha
  have hbc := fun W => Less_any b c W hb hc
  have hac := fun W => Less_any a c W ha hc
  have haa := fun W => Less_any a a W ha ha
  have hna : ∀ W, Calls Try.prog 15 #[.int .u64 9221120237041090561, .int .u64 (a : Int)] W fun e w' => e = .returned (.bool (lessW 9221120237041090561 a)) ∧ W = w' := fun W => Less_any 9221120237041090561 a W (by decide) ha
  have hal : ∀ W, Calls Try.prog 15 #[.int .u64 (a : Int), .int .u64 18442240474082181120] W fun e w' => e = .returned (.bool (lessW a 18442240474082181120)) ∧ W = w' := fun W => Less_any a 18442240474082181120 W ha (by decide)
  have pa := fun W => Plain_any a W ha
  have pb := fun W => Plain_any b W hb
  have ppa := fun W => Plain_any (plainW a) W (plainW_lt ha)
  have hap := fun W => Less_any a (plainW a) W ha (plainW_lt ha)
  have hpa := fun W => Less_any (plainW a) a W (plainW_lt ha) ha
  rw [less_self] at haa
  rw [nan_less a ha] at hna
  rw [less_low a ha] at hal
  rw [less_plain] at hap
  rw [plain_less] at hpa
  rw [plainW_idem] at ppa
  have e1 : lessW a b = decide (rankW a < rankW b) := rfl
  have e2 : lessW b a = decide (rankW b < rankW a) := rfl
  have e3 : lessW b c = decide (rankW b < rankW c) := rfl
  have e4 : lessW a c = decide (rankW a < rankW c) := rfl
  have hpe := rankW_eq_iff ha hb
  rw [e1] at hab
  rw [e2] at hba
  rw [e3] at hbc
  rw [e4] at hac
  clear e1 e2 e3 e4
  generalize rankW a = ra at *
  generalize rankW b = rb at *
  generalize rankW c = rc at *
  generalize plainW a = Pa at *
  generalize plainW b = Pb at *
  by_cases c1 : ra < rb
  · have c2 : ¬ rb < ra := by omega
    have c3 : ((Pa : Int) == (Pb : Int)) = false := by simp; intro h; have := hpe.2 (by omega); omega
    rw [decide_eq_true c1] at hab
    rw [decide_eq_false c2] at hba
    by_cases c4 : rb < rc
    · rw [decide_eq_true c4] at hbc
      rw [decide_eq_true (by omega)] at hac
      clear hpe c1 c2 c4
      go_enter Try.func5, Try.ntmps5
      go_wp2_with fail
      with_reducible refine (awake_any _).mono ?_
      rintro e w1 ⟨rfl, hB⟩
      go_wp2_with (first
        | (with_reducible refine (hab _).mono ?_; rintro e w2 ⟨rfl, rfl⟩)
        | (with_reducible refine (hba _).mono ?_; rintro e w2 ⟨rfl, rfl⟩)
        | (with_reducible refine (hbc _).mono ?_; rintro e w2 ⟨rfl, rfl⟩)
        | (with_reducible refine (hac _).mono ?_; rintro e w2 ⟨rfl, rfl⟩)
        | (with_reducible refine (haa _).mono ?_; rintro e w2 ⟨rfl, rfl⟩)
        | (with_reducible refine (hna _).mono ?_; rintro e w2 ⟨rfl, rfl⟩)
        | (with_reducible refine (hal _).mono ?_; rintro e w2 ⟨rfl, rfl⟩)
        | (with_reducible refine (pa _).mono ?_; rintro e w2 ⟨rfl, rfl⟩)
        | (with_reducible refine (pb _).mono ?_; rintro e w2 ⟨rfl, rfl⟩)
        | (with_reducible refine (ppa _).mono ?_; rintro e w2 ⟨rfl, rfl⟩)
        | (with_reducible refine (hap _).mono ?_; rintro e w2 ⟨rfl, rfl⟩)
        | (with_reducible refine (hpa _).mono ?_; rintro e w2 ⟨rfl, rfl⟩))
      go_ret
      exact ⟨rfl, hB⟩
    · rw [decide_eq_false c4] at hbc
      clear hpe c1 c2 c4 hac
      go_enter Try.func5, Try.ntmps5
      go_wp2_with fail
      with_reducible refine (awake_any _).mono ?_
      rintro e w1 ⟨rfl, hB⟩
      go_wp2_with (first
        | (with_reducible refine (hab _).mono ?_; rintro e w2 ⟨rfl, rfl⟩)
        | (with_reducible refine (hba _).mono ?_; rintro e w2 ⟨rfl, rfl⟩)
        | (with_reducible refine (hbc _).mono ?_; rintro e w2 ⟨rfl, rfl⟩)
        | (with_reducible refine (hac _).mono ?_; rintro e w2 ⟨rfl, rfl⟩)
        | (with_reducible refine (haa _).mono ?_; rintro e w2 ⟨rfl, rfl⟩)
        | (with_reducible refine (hna _).mono ?_; rintro e w2 ⟨rfl, rfl⟩)
        | (with_reducible refine (hal _).mono ?_; rintro e w2 ⟨rfl, rfl⟩)
        | (with_reducible refine (pa _).mono ?_; rintro e w2 ⟨rfl, rfl⟩)
        | (with_reducible refine (pb _).mono ?_; rintro e w2 ⟨rfl, rfl⟩)
        | (with_reducible refine (ppa _).mono ?_; rintro e w2 ⟨rfl, rfl⟩)
        | (with_reducible refine (hap _).mono ?_; rintro e w2 ⟨rfl, rfl⟩)
        | (with_reducible refine (hpa _).mono ?_; rintro e w2 ⟨rfl, rfl⟩))
      go_ret
      exact ⟨rfl, hB⟩
  · rw [decide_eq_false c1] at hab
    by_cases c2 : rb < ra
    · have c3 : ((Pa : Int) == (Pb : Int)) = false := by simp; intro h; have := hpe.2 (by omega); omega
      rw [decide_eq_true c2] at hba
      clear hpe c1 c2 hbc hac
      go_enter Try.func5, Try.ntmps5
      go_wp2_with fail
      with_reducible refine (awake_any _).mono ?_
      rintro e w1 ⟨rfl, hB⟩
      go_wp2_with (first
        | (with_reducible refine (hab _).mono ?_; rintro e w2 ⟨rfl, rfl⟩)
        | (with_reducible refine (hba _).mono ?_; rintro e w2 ⟨rfl, rfl⟩)
        | (with_reducible refine (hbc _).mono ?_; rintro e w2 ⟨rfl, rfl⟩)
        | (with_reducible refine (hac _).mono ?_; rintro e w2 ⟨rfl, rfl⟩)
        | (with_reducible refine (haa _).mono ?_; rintro e w2 ⟨rfl, rfl⟩)
        | (with_reducible refine (hna _).mono ?_; rintro e w2 ⟨rfl, rfl⟩)
        | (with_reducible refine (hal _).mono ?_; rintro e w2 ⟨rfl, rfl⟩)
        | (with_reducible refine (pa _).mono ?_; rintro e w2 ⟨rfl, rfl⟩)
        | (with_reducible refine (pb _).mono ?_; rintro e w2 ⟨rfl, rfl⟩)
        | (with_reducible refine (ppa _).mono ?_; rintro e w2 ⟨rfl, rfl⟩)
        | (with_reducible refine (hap _).mono ?_; rintro e w2 ⟨rfl, rfl⟩)
        | (with_reducible refine (hpa _).mono ?_; rintro e w2 ⟨rfl, rfl⟩))
      go_ret
      exact ⟨rfl, hB⟩
    · rw [decide_eq_false c2] at hba
      obtain rfl : Pa = Pb := hpe.1 (by omega)
      clear hpe c1 c2 hbc hac
      go_enter Try.func5, Try.ntmps5
      go_wp2_with fail
      with_reducible refine (awake_any _).mono ?_
      rintro e w1 ⟨rfl, hB⟩
      go_wp2_with (first
        | (with_reducible refine (hab _).mono ?_; rintro e w2 ⟨rfl, rfl⟩)
        | (with_reducible refine (hba _).mono ?_; rintro e w2 ⟨rfl, rfl⟩)
        | (with_reducible refine (hbc _).mono ?_; rintro e w2 ⟨rfl, rfl⟩)
        | (with_reducible refine (hac _).mono ?_; rintro e w2 ⟨rfl, rfl⟩)
        | (with_reducible refine (haa _).mono ?_; rintro e w2 ⟨rfl, rfl⟩)
        | (with_reducible refine (hna _).mono ?_; rintro e w2 ⟨rfl, rfl⟩)
        | (with_reducible refine (hal _).mono ?_; rintro e w2 ⟨rfl, rfl⟩)
        | (with_reducible refine (pa _).mono ?_; rintro e w2 ⟨rfl, rfl⟩)
        | (with_reducible refine (pb _).mono ?_; rintro e w2 ⟨rfl, rfl⟩)
        | (with_reducible refine (ppa _).mono ?_; rintro e w2 ⟨rfl, rfl⟩)
        | (with_reducible refine (hap _).mono ?_; rintro e w2 ⟨rfl, rfl⟩)
        | (with_reducible refine (hpa _).mono ?_; rintro e w2 ⟨rfl, rfl⟩))
      go_ret
      exact ⟨rfl, hB⟩

theorem lorder_calls (a : Int) (hfa : (Lit.int .u64 a).wf = true) (b : Int) (hfb : (Lit.int .u64 b).wf = true) (c : Int) (hfc : (Lit.int .u64 c).wf = true) (w : World) :
    Calls Try.prog 5 #[.int .u64 a, .int .u64 b, .int .u64 c] w fun e w' => e = .returned (.bool true) ∧ Below w.heap.size w w' := by
  obtain ⟨A, rfl, hA⟩ := u64_of_wf hfa
  obtain ⟨B, rfl, hB⟩ := u64_of_wf hfb
  obtain ⟨C, rfl, hC⟩ := u64_of_wf hfc
  exact lorder_walk A B C w hA hB hC
end Go.Proofs.Ytkpdfjpdjjjfiaa
