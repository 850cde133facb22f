/- mootbelllaw03.awake. -/
import Derived.Test.YtkpdfjpdjjjfiaaLagE
namespace Go.Proofs.Ytkpdfjpdjjjfiaa
open Go.RowKit Ieee

theorem u64_of_wf {a : Int} (h : (Lit.int .u64 a).wf = true) : ∃ n : Nat, a = n ∧ n < 18446744073709551616 := by
  have e1 : IntKind.u64.min = 0 := by rfl
  have e2 : IntKind.u64.max = 18446744073709551615 := by rfl
  simp [Lit.wf, e1, e2] at h
  exact ⟨a.toNat, by omega, by omega⟩
theorem i64_of_wf {a : Int} (h : (Lit.int .i64 a).wf = true) : -9223372036854775808 ≤ a ∧ a ≤ 9223372036854775807 := by
  have e1 : IntKind.i64.min = -9223372036854775808 := by rfl
  have e2 : IntKind.i64.max = 9223372036854775807 := by rfl
  simp [Lit.wf, e1, e2] at h
  exact h
theorem aw0 (W : World) : Calls Try.prog 11 #[.int .u64 4609434218613702656] W fun e w' => e = .returned (.tuple #[.int .i64 2, .int .i64 0]) ∧ W = w' := by
  have h := Ticks_any 4609434218613702656 W (by decide)
  have e1 : ticksW 4609434218613702656 = 2 := by kernel_rfl
  have e2 : ticksE 4609434218613702656 = 0 := by kernel_rfl
  rw [e1, e2] at h
  exact h
theorem aw1 (W : World) : Calls Try.prog 11 #[.int .u64 9218868437227405312] W fun e w' => e = .returned (.tuple #[.int .i64 1099511627776, .int .i64 0]) ∧ W = w' := by
  have h := Ticks_any 9218868437227405312 W (by decide)
  have e1 : ticksW 9218868437227405312 = 1099511627776 := by kernel_rfl
  have e2 : ticksE 9218868437227405312 = 0 := by kernel_rfl
  rw [e1, e2] at h
  exact h
theorem aw2 (W : World) : Calls Try.prog 11 #[.int .u64 9221120237041090565] W fun e w' => e = .returned (.tuple #[.int .i64 0, .int .i64 1]) ∧ W = w' := by
  have h := Ticks_any 9221120237041090565 W (by decide)
  have e1 : ticksW 9221120237041090565 = 0 := by kernel_rfl
  have e2 : ticksE 9221120237041090565 = 1 := by kernel_rfl
  rw [e1, e2] at h
  exact h
theorem aw3 (W : World) : Calls Try.prog 11 #[.int .u64 9223372036854775808] W fun e w' => e = .returned (.tuple #[.int .i64 0, .int .i64 0]) ∧ W = w' := by
  have h := Ticks_any 9223372036854775808 W (by decide)
  have e1 : ticksW 9223372036854775808 = 0 := by kernel_rfl
  have e2 : ticksE 9223372036854775808 = 0 := by kernel_rfl
  rw [e1, e2] at h
  exact h
theorem aw4 (W : World) : Calls Try.prog 20 #[.int .u64 9221120237041090561, .int .u64 4607182418800017408, .int .u64 9218868437227405312] W fun e w' => e = .returned (.int .u64 9218868437227405312) ∧ Below W.heap.size W w' := by
  have h := Median_any 9221120237041090561 4607182418800017408 9218868437227405312 W (by decide) (by decide) (by decide)
  have e1 : medW 9221120237041090561 4607182418800017408 9218868437227405312 = 9218868437227405312 := by kernel_rfl
  rw [e1] at h
  exact h
theorem aw5 (W : World) : Calls Try.prog 18 #[.int .u64 4607182418800017408, .int .i64 (-1075)] W fun e w' => e = .returned (.int .u64 0) ∧ W = w' := by
  have h := Scale_any 4607182418800017408 (-1075) W (by decide)
  have e1 : scaleW 4607182418800017408 (-1075) = 0 := by kernel_rfl
  rw [e1] at h
  exact h
theorem aw6 (W : World) : Calls Try.prog 18 #[.int .u64 4607182418800017408, .int .i64 (-1074)] W fun e w' => e = .returned (.int .u64 1) ∧ W = w' := by
  have h := Scale_any 4607182418800017408 (-1074) W (by decide)
  have e1 : scaleW 4607182418800017408 (-1074) = 1 := by kernel_rfl
  rw [e1] at h
  exact h
theorem aw7 (W : World) : Calls Try.prog 18 #[.int .u64 4607182418800017408, .int .i64 1024] W fun e w' => e = .returned (.int .u64 9218868437227405312) ∧ W = w' := by
  have h := Scale_any 4607182418800017408 1024 W (by decide)
  have e1 : scaleW 4607182418800017408 1024 = 9218868437227405312 := by kernel_rfl
  rw [e1] at h
  exact h
theorem aw8 (W : World) : Calls Try.prog 22 #[.int .i64 1] W fun e w' => e = .returned (.int .u64 4607182418800017408) ∧ W = w' := by
  have h := Of_any 1 W
  have e1 : ofW 1 = 4607182418800017408 := by kernel_rfl
  rw [e1] at h
  exact h
theorem aw9 (W : World) : Calls Try.prog 13 #[.int .u64 9223372036854775808] W fun e w' => e = .returned (.int .u64 0) ∧ W = w' := by
  have h := Plain_any 9223372036854775808 W (by decide)
  have e1 : plainW 9223372036854775808 = 0 := by kernel_rfl
  rw [e1] at h
  exact h
theorem aw10 (W : World) : Calls Try.prog 13 #[.int .u64 9221120237041090570] W fun e w' => e = .returned (.int .u64 9221120237041090561) ∧ W = w' := by
  have h := Plain_any 9221120237041090570 W (by decide)
  have e1 : plainW 9221120237041090570 = 9221120237041090561 := by kernel_rfl
  rw [e1] at h
  exact h
theorem aw11 (W : World) : Calls Try.prog 15 #[.int .u64 18442240474082181120, .int .u64 0] W fun e w' => e = .returned (.bool true) ∧ W = w' := by
  have h := Less_any 18442240474082181120 0 W (by decide) (by decide)
  have e1 : lessW 18442240474082181120 0 = true := by kernel_rfl
  rw [e1] at h
  exact h
theorem aw12 (W : World) : Calls Try.prog 15 #[.int .u64 9218868437227405312, .int .u64 9221120237041090561] W fun e w' => e = .returned (.bool true) ∧ W = w' := by
  have h := Less_any 9218868437227405312 9221120237041090561 W (by decide) (by decide)
  have e1 : lessW 9218868437227405312 9221120237041090561 = true := by kernel_rfl
  rw [e1] at h
  exact h
theorem aw13 (W : World) : Calls Try.prog 15 #[.int .u64 9223372036854775808, .int .u64 0] W fun e w' => e = .returned (.bool false) ∧ W = w' := by
  have h := Less_any 9223372036854775808 0 W (by decide) (by decide)
  have e1 : lessW 9223372036854775808 0 = false := by kernel_rfl
  rw [e1] at h
  exact h

set_option maxHeartbeats 1000000 in
theorem awake_any (w : World) : Calls Try.prog 10 #[] w fun e w' => e = .returned (.bool true) ∧ Below w.heap.size w w' := by
  go_enter Try.func10, Try.ntmps10
  go_wp2_with fail
  with_reducible refine (aw0 _).mono ?_
  rintro e w2 ⟨rfl, rfl⟩
  go_wp2_with fail
  with_reducible refine (aw1 _).mono ?_
  rintro e w2 ⟨rfl, rfl⟩
  go_wp2_with fail
  with_reducible refine (aw2 _).mono ?_
  rintro e w2 ⟨rfl, rfl⟩
  go_wp2_with fail
  with_reducible refine (aw3 _).mono ?_
  rintro e w2 ⟨rfl, rfl⟩
  go_wp2_with fail
  with_reducible refine (aw4 _).mono ?_
  rintro e w1 ⟨rfl, hB⟩
  go_wp2_with fail
  with_reducible refine (aw5 _).mono ?_
  rintro e w2 ⟨rfl, rfl⟩
  go_wp2_with fail
  with_reducible refine (aw6 _).mono ?_
  rintro e w2 ⟨rfl, rfl⟩
  go_wp2_with fail
  with_reducible refine (aw7 _).mono ?_
  rintro e w2 ⟨rfl, rfl⟩
  go_wp2_with fail
  with_reducible refine (aw8 _).mono ?_
  rintro e w2 ⟨rfl, rfl⟩
  go_wp2_with fail
  with_reducible refine (aw9 _).mono ?_
  rintro e w2 ⟨rfl, rfl⟩
  go_wp2_with fail
  with_reducible refine (aw10 _).mono ?_
  rintro e w2 ⟨rfl, rfl⟩
  go_wp2_with fail
  with_reducible refine (aw11 _).mono ?_
  rintro e w2 ⟨rfl, rfl⟩
  go_wp2_with fail
  with_reducible refine (aw12 _).mono ?_
  rintro e w2 ⟨rfl, rfl⟩
  go_wp2_with fail
  with_reducible refine (aw13 _).mono ?_
  rintro e w2 ⟨rfl, rfl⟩
  go_wp2_with fail
  go_ret
  exact ⟨rfl, hB⟩
end Go.Proofs.Ytkpdfjpdjjjfiaa
