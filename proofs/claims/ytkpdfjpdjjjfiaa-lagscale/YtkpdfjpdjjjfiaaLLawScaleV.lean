/- The walk of LagScale, way by way. -/
import Derived.Test.YtkpdfjpdjjjfiaaLagI
import Derived.Test.YtkpdfjpdjjjfiaaLagJ
import Derived.Test.YtkpdfjpdjjjfiaaLagL
import Derived.OpenShut
namespace Go.Proofs.Ytkpdfjpdjjjfiaa
open Go.RowKit Ieee

set_option maxHeartbeats 4000000 in
set_option maxRecDepth 100000 in
theorem lscale_Anan0 (x P E A B M S V OM R : Nat) (j k n : Int) (w : World) (_hA : A < 1001) (_hB : B < 1001) (_hM : M < 1073741824) (_hS : S < 30) (_hP : P < 18446744073709551616) (_hE : E ≤ 2047) (_he : (P : Int) / 4503599627370496 % 2048 = (E : Int)) (_hsh : wrap64 ((M : Int) * 2 ^ S) = (V : Int)) (_hsh2 : IntKind.i64.wrap ((M : Int) * 2 ^ S) = (V : Int))
    (pA : ∀ w, Calls Try.prog 17 #[.int .i64 j, .int .i64 1001] w fun e w' => e = .returned (.int .i64 (A : Int)) ∧ w = w')
    (pB : ∀ w, Calls Try.prog 17 #[.int .i64 k, .int .i64 1001] w fun e w' => e = .returned (.int .i64 (B : Int)) ∧ w = w')
    (pM : ∀ w, Calls Try.prog 17 #[.int .i64 n, .int .i64 1073741824] w fun e w' => e = .returned (.int .i64 (M : Int)) ∧ w = w')
    (pS : ∀ w, Calls Try.prog 17 #[.int .i64 k, .int .i64 30] w fun e w' => e = .returned (.int .i64 (S : Int)) ∧ w = w')
    (pl : ∀ w, Calls Try.prog 13 #[.int .u64 (x : Int)] w fun e w' => e = .returned (.int .u64 (P : Int)) ∧ w = w')
    (s0 : ∀ w, Calls Try.prog 18 #[.int .u64 (x : Int), .int .i64 0] w fun e w' => e = .returned (.int .u64 (P : Int)) ∧ w = w')
    (s1 : ∀ w, Calls Try.prog 18 #[.int .u64 (x : Int), .int .i64 ((A : Int) - 500)] w fun e w' => e = .returned (.int .u64 (P : Int)) ∧ w = w')
    (s2 : ∀ w, Calls Try.prog 18 #[.int .u64 (P : Int), .int .i64 ((A : Int) - 500)] w fun e w' => e = .returned (.int .u64 (P : Int)) ∧ w = w')
    (om : ∀ w, Calls Try.prog 22 #[.int .i64 (M : Int)] w fun e w' => e = .returned (.int .u64 (OM : Int)) ∧ w = w')
    (sm : ∀ w, Calls Try.prog 18 #[.int .u64 (OM : Int), .int .i64 (S : Int)] w fun e w' => e = .returned (.int .u64 (R : Int)) ∧ w = w')
    (os : ∀ w, Calls Try.prog 22 #[.int .i64 (V : Int)] w fun e w' => e = .returned (.int .u64 (R : Int)) ∧ w = w')
    (_f0 : ((E : Int) == 2047) = true)
    (_f1 : ((E : Int) < 2047) = False)
    (_f2 : (E < 2047) = False)
    (_f3 : (E = 2047) = True)
    (_f4 : (1 ≤ (E : Int)) = True)
    (_f5 : (1 ≤ E) = True)
    (_f6 : (0 < E) = True)
    (_f7 : (0 < (E : Int)) = True)
    (_f8 : ((E : Int) ≤ 2046) = False)
    (_f9 : (E ≤ 2046) = False)
    (_f10 : ((P : Int) == 9221120237041090561) = true)
    (_f11 : (P = 9221120237041090561) = True)
    (_f12 : (1 ≤ (E : Int) + ((A : Int) - 500)) = True)
    (_f13 : ((E : Int) + ((A : Int) - 500) ≤ 2046) = False) :
    Calls Try.prog 9 #[.int .u64 (x : Int), .int .i64 j, .int .i64 k, .int .i64 n] w fun e w' => e = .returned (.bool true) ∧ Below w.heap.size w w' := by
  go_enter Try.func9, Try.ntmps9
  go_wp2_with fail
  with_reducible refine (awake_any _).mono ?_
  rintro e w1 ⟨rfl, hB1⟩
  go_wp2_with (first
    | (with_reducible refine (pA _).mono ?_; rintro e w2 ⟨rfl, rfl⟩)
    | (with_reducible refine (pB _).mono ?_; rintro e w2 ⟨rfl, rfl⟩)
    | (with_reducible refine (pM _).mono ?_; rintro e w2 ⟨rfl, rfl⟩)
    | (with_reducible refine (pS _).mono ?_; rintro e w2 ⟨rfl, rfl⟩)
    | (with_reducible refine (pl _).mono ?_; rintro e w2 ⟨rfl, rfl⟩)
    | (with_reducible refine (s0 _).mono ?_; rintro e w2 ⟨rfl, rfl⟩)
    | (with_reducible refine (s1 _).mono ?_; rintro e w2 ⟨rfl, rfl⟩)
    | (with_reducible refine (s2 _).mono ?_; rintro e w2 ⟨rfl, rfl⟩))
  refine wp_region_later (by kernel_rfl) (by kernel_rfl) ?_
  repeat (go_big_quiet_step (first
    | with_reducible exact later_same (om _)
    | with_reducible exact later_same (os _)
    | with_reducible exact later_same (sm _)
    | with_reducible exact later_same (s1 _)))
  refine wpQuiet_nil ?_
  intro _ hw'
  obtain ⟨pq, rfl⟩ := hw'
  go_wp2_with fail
  go_ret
  exact ⟨rfl, hB1.trans (pq.h.mono hB1.size)⟩

set_option maxHeartbeats 4000000 in
set_option maxRecDepth 100000 in
theorem lscale_Anan1 (x P E A B M S V OM R : Nat) (j k n : Int) (w : World) (_hA : A < 1001) (_hB : B < 1001) (_hM : M < 1073741824) (_hS : S < 30) (_hP : P < 18446744073709551616) (_hE : E ≤ 2047) (_he : (P : Int) / 4503599627370496 % 2048 = (E : Int)) (_hsh : wrap64 ((M : Int) * 2 ^ S) = (V : Int)) (_hsh2 : IntKind.i64.wrap ((M : Int) * 2 ^ S) = (V : Int))
    (pA : ∀ w, Calls Try.prog 17 #[.int .i64 j, .int .i64 1001] w fun e w' => e = .returned (.int .i64 (A : Int)) ∧ w = w')
    (pB : ∀ w, Calls Try.prog 17 #[.int .i64 k, .int .i64 1001] w fun e w' => e = .returned (.int .i64 (B : Int)) ∧ w = w')
    (pM : ∀ w, Calls Try.prog 17 #[.int .i64 n, .int .i64 1073741824] w fun e w' => e = .returned (.int .i64 (M : Int)) ∧ w = w')
    (pS : ∀ w, Calls Try.prog 17 #[.int .i64 k, .int .i64 30] w fun e w' => e = .returned (.int .i64 (S : Int)) ∧ w = w')
    (pl : ∀ w, Calls Try.prog 13 #[.int .u64 (x : Int)] w fun e w' => e = .returned (.int .u64 (P : Int)) ∧ w = w')
    (s0 : ∀ w, Calls Try.prog 18 #[.int .u64 (x : Int), .int .i64 0] w fun e w' => e = .returned (.int .u64 (P : Int)) ∧ w = w')
    (s1 : ∀ w, Calls Try.prog 18 #[.int .u64 (x : Int), .int .i64 ((A : Int) - 500)] w fun e w' => e = .returned (.int .u64 (P : Int)) ∧ w = w')
    (s2 : ∀ w, Calls Try.prog 18 #[.int .u64 (P : Int), .int .i64 ((A : Int) - 500)] w fun e w' => e = .returned (.int .u64 (P : Int)) ∧ w = w')
    (om : ∀ w, Calls Try.prog 22 #[.int .i64 (M : Int)] w fun e w' => e = .returned (.int .u64 (OM : Int)) ∧ w = w')
    (sm : ∀ w, Calls Try.prog 18 #[.int .u64 (OM : Int), .int .i64 (S : Int)] w fun e w' => e = .returned (.int .u64 (R : Int)) ∧ w = w')
    (os : ∀ w, Calls Try.prog 22 #[.int .i64 (V : Int)] w fun e w' => e = .returned (.int .u64 (R : Int)) ∧ w = w')
    (_f0 : ((E : Int) == 2047) = true)
    (_f1 : ((E : Int) < 2047) = False)
    (_f2 : (E < 2047) = False)
    (_f3 : (E = 2047) = True)
    (_f4 : (1 ≤ (E : Int)) = True)
    (_f5 : (1 ≤ E) = True)
    (_f6 : (0 < E) = True)
    (_f7 : (0 < (E : Int)) = True)
    (_f8 : ((E : Int) ≤ 2046) = False)
    (_f9 : (E ≤ 2046) = False)
    (_f10 : ((P : Int) == 9221120237041090561) = true)
    (_f11 : (P = 9221120237041090561) = True)
    (_f12 : (1 ≤ (E : Int) + ((A : Int) - 500)) = True)
    (_f13 : ((E : Int) + ((A : Int) - 500) ≤ 2046) = True) :
    Calls Try.prog 9 #[.int .u64 (x : Int), .int .i64 j, .int .i64 k, .int .i64 n] w fun e w' => e = .returned (.bool true) ∧ Below w.heap.size w w' := by
  go_enter Try.func9, Try.ntmps9
  go_wp2_with fail
  with_reducible refine (awake_any _).mono ?_
  rintro e w1 ⟨rfl, hB1⟩
  go_wp2_with (first
    | (with_reducible refine (pA _).mono ?_; rintro e w2 ⟨rfl, rfl⟩)
    | (with_reducible refine (pB _).mono ?_; rintro e w2 ⟨rfl, rfl⟩)
    | (with_reducible refine (pM _).mono ?_; rintro e w2 ⟨rfl, rfl⟩)
    | (with_reducible refine (pS _).mono ?_; rintro e w2 ⟨rfl, rfl⟩)
    | (with_reducible refine (pl _).mono ?_; rintro e w2 ⟨rfl, rfl⟩)
    | (with_reducible refine (s0 _).mono ?_; rintro e w2 ⟨rfl, rfl⟩)
    | (with_reducible refine (s1 _).mono ?_; rintro e w2 ⟨rfl, rfl⟩)
    | (with_reducible refine (s2 _).mono ?_; rintro e w2 ⟨rfl, rfl⟩))
  refine wp_region_later (by kernel_rfl) (by kernel_rfl) ?_
  repeat (go_big_quiet_step (first
    | with_reducible exact later_same (om _)
    | with_reducible exact later_same (os _)
    | with_reducible exact later_same (sm _)
    | with_reducible exact later_same (s1 _)))
  refine wpQuiet_nil ?_
  intro _ hw'
  obtain ⟨pq, rfl⟩ := hw'
  go_wp2_with fail
  go_ret
  exact ⟨rfl, hB1.trans (pq.h.mono hB1.size)⟩

set_option maxHeartbeats 4000000 in
set_option maxRecDepth 100000 in
theorem lscale_Ainf0 (x P E A B M S V OM R : Nat) (j k n : Int) (w : World) (_hA : A < 1001) (_hB : B < 1001) (_hM : M < 1073741824) (_hS : S < 30) (_hP : P < 18446744073709551616) (_hE : E ≤ 2047) (_he : (P : Int) / 4503599627370496 % 2048 = (E : Int)) (_hsh : wrap64 ((M : Int) * 2 ^ S) = (V : Int)) (_hsh2 : IntKind.i64.wrap ((M : Int) * 2 ^ S) = (V : Int))
    (pA : ∀ w, Calls Try.prog 17 #[.int .i64 j, .int .i64 1001] w fun e w' => e = .returned (.int .i64 (A : Int)) ∧ w = w')
    (pB : ∀ w, Calls Try.prog 17 #[.int .i64 k, .int .i64 1001] w fun e w' => e = .returned (.int .i64 (B : Int)) ∧ w = w')
    (pM : ∀ w, Calls Try.prog 17 #[.int .i64 n, .int .i64 1073741824] w fun e w' => e = .returned (.int .i64 (M : Int)) ∧ w = w')
    (pS : ∀ w, Calls Try.prog 17 #[.int .i64 k, .int .i64 30] w fun e w' => e = .returned (.int .i64 (S : Int)) ∧ w = w')
    (pl : ∀ w, Calls Try.prog 13 #[.int .u64 (x : Int)] w fun e w' => e = .returned (.int .u64 (P : Int)) ∧ w = w')
    (s0 : ∀ w, Calls Try.prog 18 #[.int .u64 (x : Int), .int .i64 0] w fun e w' => e = .returned (.int .u64 (P : Int)) ∧ w = w')
    (s1 : ∀ w, Calls Try.prog 18 #[.int .u64 (x : Int), .int .i64 ((A : Int) - 500)] w fun e w' => e = .returned (.int .u64 (P : Int)) ∧ w = w')
    (s2 : ∀ w, Calls Try.prog 18 #[.int .u64 (P : Int), .int .i64 ((A : Int) - 500)] w fun e w' => e = .returned (.int .u64 (P : Int)) ∧ w = w')
    (om : ∀ w, Calls Try.prog 22 #[.int .i64 (M : Int)] w fun e w' => e = .returned (.int .u64 (OM : Int)) ∧ w = w')
    (sm : ∀ w, Calls Try.prog 18 #[.int .u64 (OM : Int), .int .i64 (S : Int)] w fun e w' => e = .returned (.int .u64 (R : Int)) ∧ w = w')
    (os : ∀ w, Calls Try.prog 22 #[.int .i64 (V : Int)] w fun e w' => e = .returned (.int .u64 (R : Int)) ∧ w = w')
    (_f0 : ((E : Int) == 2047) = true)
    (_f1 : ((E : Int) < 2047) = False)
    (_f2 : (E < 2047) = False)
    (_f3 : (E = 2047) = True)
    (_f4 : (1 ≤ (E : Int)) = True)
    (_f5 : (1 ≤ E) = True)
    (_f6 : (0 < E) = True)
    (_f7 : (0 < (E : Int)) = True)
    (_f8 : ((E : Int) ≤ 2046) = False)
    (_f9 : (E ≤ 2046) = False)
    (_f10 : ((P : Int) == 9221120237041090561) = false)
    (_f11 : (P = 9221120237041090561) = False)
    (_f12 : ((P : Int) == 9218868437227405312) = true)
    (_f13 : (P = 9218868437227405312) = True)
    (_f14 : (1 ≤ (E : Int) + ((A : Int) - 500)) = True)
    (_f15 : ((E : Int) + ((A : Int) - 500) ≤ 2046) = False) :
    Calls Try.prog 9 #[.int .u64 (x : Int), .int .i64 j, .int .i64 k, .int .i64 n] w fun e w' => e = .returned (.bool true) ∧ Below w.heap.size w w' := by
  go_enter Try.func9, Try.ntmps9
  go_wp2_with fail
  with_reducible refine (awake_any _).mono ?_
  rintro e w1 ⟨rfl, hB1⟩
  go_wp2_with (first
    | (with_reducible refine (pA _).mono ?_; rintro e w2 ⟨rfl, rfl⟩)
    | (with_reducible refine (pB _).mono ?_; rintro e w2 ⟨rfl, rfl⟩)
    | (with_reducible refine (pM _).mono ?_; rintro e w2 ⟨rfl, rfl⟩)
    | (with_reducible refine (pS _).mono ?_; rintro e w2 ⟨rfl, rfl⟩)
    | (with_reducible refine (pl _).mono ?_; rintro e w2 ⟨rfl, rfl⟩)
    | (with_reducible refine (s0 _).mono ?_; rintro e w2 ⟨rfl, rfl⟩)
    | (with_reducible refine (s1 _).mono ?_; rintro e w2 ⟨rfl, rfl⟩)
    | (with_reducible refine (s2 _).mono ?_; rintro e w2 ⟨rfl, rfl⟩))
  refine wp_region_later (by kernel_rfl) (by kernel_rfl) ?_
  repeat (go_big_quiet_step (first
    | with_reducible exact later_same (om _)
    | with_reducible exact later_same (os _)
    | with_reducible exact later_same (sm _)
    | with_reducible exact later_same (s1 _)))
  refine wpQuiet_nil ?_
  intro _ hw'
  obtain ⟨pq, rfl⟩ := hw'
  go_wp2_with fail
  go_ret
  exact ⟨rfl, hB1.trans (pq.h.mono hB1.size)⟩

set_option maxHeartbeats 4000000 in
set_option maxRecDepth 100000 in
theorem lscale_Ainf1 (x P E A B M S V OM R : Nat) (j k n : Int) (w : World) (_hA : A < 1001) (_hB : B < 1001) (_hM : M < 1073741824) (_hS : S < 30) (_hP : P < 18446744073709551616) (_hE : E ≤ 2047) (_he : (P : Int) / 4503599627370496 % 2048 = (E : Int)) (_hsh : wrap64 ((M : Int) * 2 ^ S) = (V : Int)) (_hsh2 : IntKind.i64.wrap ((M : Int) * 2 ^ S) = (V : Int))
    (pA : ∀ w, Calls Try.prog 17 #[.int .i64 j, .int .i64 1001] w fun e w' => e = .returned (.int .i64 (A : Int)) ∧ w = w')
    (pB : ∀ w, Calls Try.prog 17 #[.int .i64 k, .int .i64 1001] w fun e w' => e = .returned (.int .i64 (B : Int)) ∧ w = w')
    (pM : ∀ w, Calls Try.prog 17 #[.int .i64 n, .int .i64 1073741824] w fun e w' => e = .returned (.int .i64 (M : Int)) ∧ w = w')
    (pS : ∀ w, Calls Try.prog 17 #[.int .i64 k, .int .i64 30] w fun e w' => e = .returned (.int .i64 (S : Int)) ∧ w = w')
    (pl : ∀ w, Calls Try.prog 13 #[.int .u64 (x : Int)] w fun e w' => e = .returned (.int .u64 (P : Int)) ∧ w = w')
    (s0 : ∀ w, Calls Try.prog 18 #[.int .u64 (x : Int), .int .i64 0] w fun e w' => e = .returned (.int .u64 (P : Int)) ∧ w = w')
    (s1 : ∀ w, Calls Try.prog 18 #[.int .u64 (x : Int), .int .i64 ((A : Int) - 500)] w fun e w' => e = .returned (.int .u64 (P : Int)) ∧ w = w')
    (s2 : ∀ w, Calls Try.prog 18 #[.int .u64 (P : Int), .int .i64 ((A : Int) - 500)] w fun e w' => e = .returned (.int .u64 (P : Int)) ∧ w = w')
    (om : ∀ w, Calls Try.prog 22 #[.int .i64 (M : Int)] w fun e w' => e = .returned (.int .u64 (OM : Int)) ∧ w = w')
    (sm : ∀ w, Calls Try.prog 18 #[.int .u64 (OM : Int), .int .i64 (S : Int)] w fun e w' => e = .returned (.int .u64 (R : Int)) ∧ w = w')
    (os : ∀ w, Calls Try.prog 22 #[.int .i64 (V : Int)] w fun e w' => e = .returned (.int .u64 (R : Int)) ∧ w = w')
    (_f0 : ((E : Int) == 2047) = true)
    (_f1 : ((E : Int) < 2047) = False)
    (_f2 : (E < 2047) = False)
    (_f3 : (E = 2047) = True)
    (_f4 : (1 ≤ (E : Int)) = True)
    (_f5 : (1 ≤ E) = True)
    (_f6 : (0 < E) = True)
    (_f7 : (0 < (E : Int)) = True)
    (_f8 : ((E : Int) ≤ 2046) = False)
    (_f9 : (E ≤ 2046) = False)
    (_f10 : ((P : Int) == 9221120237041090561) = false)
    (_f11 : (P = 9221120237041090561) = False)
    (_f12 : ((P : Int) == 9218868437227405312) = true)
    (_f13 : (P = 9218868437227405312) = True)
    (_f14 : (1 ≤ (E : Int) + ((A : Int) - 500)) = True)
    (_f15 : ((E : Int) + ((A : Int) - 500) ≤ 2046) = True) :
    Calls Try.prog 9 #[.int .u64 (x : Int), .int .i64 j, .int .i64 k, .int .i64 n] w fun e w' => e = .returned (.bool true) ∧ Below w.heap.size w w' := by
  go_enter Try.func9, Try.ntmps9
  go_wp2_with fail
  with_reducible refine (awake_any _).mono ?_
  rintro e w1 ⟨rfl, hB1⟩
  go_wp2_with (first
    | (with_reducible refine (pA _).mono ?_; rintro e w2 ⟨rfl, rfl⟩)
    | (with_reducible refine (pB _).mono ?_; rintro e w2 ⟨rfl, rfl⟩)
    | (with_reducible refine (pM _).mono ?_; rintro e w2 ⟨rfl, rfl⟩)
    | (with_reducible refine (pS _).mono ?_; rintro e w2 ⟨rfl, rfl⟩)
    | (with_reducible refine (pl _).mono ?_; rintro e w2 ⟨rfl, rfl⟩)
    | (with_reducible refine (s0 _).mono ?_; rintro e w2 ⟨rfl, rfl⟩)
    | (with_reducible refine (s1 _).mono ?_; rintro e w2 ⟨rfl, rfl⟩)
    | (with_reducible refine (s2 _).mono ?_; rintro e w2 ⟨rfl, rfl⟩))
  refine wp_region_later (by kernel_rfl) (by kernel_rfl) ?_
  repeat (go_big_quiet_step (first
    | with_reducible exact later_same (om _)
    | with_reducible exact later_same (os _)
    | with_reducible exact later_same (sm _)
    | with_reducible exact later_same (s1 _)))
  refine wpQuiet_nil ?_
  intro _ hw'
  obtain ⟨pq, rfl⟩ := hw'
  go_wp2_with fail
  go_ret
  exact ⟨rfl, hB1.trans (pq.h.mono hB1.size)⟩

set_option maxHeartbeats 4000000 in
set_option maxRecDepth 100000 in
theorem lscale_Alow0 (x P E A B M S V OM R : Nat) (j k n : Int) (w : World) (_hA : A < 1001) (_hB : B < 1001) (_hM : M < 1073741824) (_hS : S < 30) (_hP : P < 18446744073709551616) (_hE : E ≤ 2047) (_he : (P : Int) / 4503599627370496 % 2048 = (E : Int)) (_hsh : wrap64 ((M : Int) * 2 ^ S) = (V : Int)) (_hsh2 : IntKind.i64.wrap ((M : Int) * 2 ^ S) = (V : Int))
    (pA : ∀ w, Calls Try.prog 17 #[.int .i64 j, .int .i64 1001] w fun e w' => e = .returned (.int .i64 (A : Int)) ∧ w = w')
    (pB : ∀ w, Calls Try.prog 17 #[.int .i64 k, .int .i64 1001] w fun e w' => e = .returned (.int .i64 (B : Int)) ∧ w = w')
    (pM : ∀ w, Calls Try.prog 17 #[.int .i64 n, .int .i64 1073741824] w fun e w' => e = .returned (.int .i64 (M : Int)) ∧ w = w')
    (pS : ∀ w, Calls Try.prog 17 #[.int .i64 k, .int .i64 30] w fun e w' => e = .returned (.int .i64 (S : Int)) ∧ w = w')
    (pl : ∀ w, Calls Try.prog 13 #[.int .u64 (x : Int)] w fun e w' => e = .returned (.int .u64 (P : Int)) ∧ w = w')
    (s0 : ∀ w, Calls Try.prog 18 #[.int .u64 (x : Int), .int .i64 0] w fun e w' => e = .returned (.int .u64 (P : Int)) ∧ w = w')
    (s1 : ∀ w, Calls Try.prog 18 #[.int .u64 (x : Int), .int .i64 ((A : Int) - 500)] w fun e w' => e = .returned (.int .u64 (P : Int)) ∧ w = w')
    (s2 : ∀ w, Calls Try.prog 18 #[.int .u64 (P : Int), .int .i64 ((A : Int) - 500)] w fun e w' => e = .returned (.int .u64 (P : Int)) ∧ w = w')
    (om : ∀ w, Calls Try.prog 22 #[.int .i64 (M : Int)] w fun e w' => e = .returned (.int .u64 (OM : Int)) ∧ w = w')
    (sm : ∀ w, Calls Try.prog 18 #[.int .u64 (OM : Int), .int .i64 (S : Int)] w fun e w' => e = .returned (.int .u64 (R : Int)) ∧ w = w')
    (os : ∀ w, Calls Try.prog 22 #[.int .i64 (V : Int)] w fun e w' => e = .returned (.int .u64 (R : Int)) ∧ w = w')
    (_f0 : ((E : Int) == 2047) = true)
    (_f1 : ((E : Int) < 2047) = False)
    (_f2 : (E < 2047) = False)
    (_f3 : (E = 2047) = True)
    (_f4 : (1 ≤ (E : Int)) = True)
    (_f5 : (1 ≤ E) = True)
    (_f6 : (0 < E) = True)
    (_f7 : (0 < (E : Int)) = True)
    (_f8 : ((E : Int) ≤ 2046) = False)
    (_f9 : (E ≤ 2046) = False)
    (_f10 : ((P : Int) == 9221120237041090561) = false)
    (_f11 : (P = 9221120237041090561) = False)
    (_f12 : ((P : Int) == 9218868437227405312) = false)
    (_f13 : (P = 9218868437227405312) = False)
    (_f14 : ((P : Int) == 18442240474082181120) = true)
    (_f15 : (P = 18442240474082181120) = True)
    (_f16 : (1 ≤ (E : Int) + ((A : Int) - 500)) = True)
    (_f17 : ((E : Int) + ((A : Int) - 500) ≤ 2046) = False) :
    Calls Try.prog 9 #[.int .u64 (x : Int), .int .i64 j, .int .i64 k, .int .i64 n] w fun e w' => e = .returned (.bool true) ∧ Below w.heap.size w w' := by
  go_enter Try.func9, Try.ntmps9
  go_wp2_with fail
  with_reducible refine (awake_any _).mono ?_
  rintro e w1 ⟨rfl, hB1⟩
  go_wp2_with (first
    | (with_reducible refine (pA _).mono ?_; rintro e w2 ⟨rfl, rfl⟩)
    | (with_reducible refine (pB _).mono ?_; rintro e w2 ⟨rfl, rfl⟩)
    | (with_reducible refine (pM _).mono ?_; rintro e w2 ⟨rfl, rfl⟩)
    | (with_reducible refine (pS _).mono ?_; rintro e w2 ⟨rfl, rfl⟩)
    | (with_reducible refine (pl _).mono ?_; rintro e w2 ⟨rfl, rfl⟩)
    | (with_reducible refine (s0 _).mono ?_; rintro e w2 ⟨rfl, rfl⟩)
    | (with_reducible refine (s1 _).mono ?_; rintro e w2 ⟨rfl, rfl⟩)
    | (with_reducible refine (s2 _).mono ?_; rintro e w2 ⟨rfl, rfl⟩))
  refine wp_region_later (by kernel_rfl) (by kernel_rfl) ?_
  repeat (go_big_quiet_step (first
    | with_reducible exact later_same (om _)
    | with_reducible exact later_same (os _)
    | with_reducible exact later_same (sm _)
    | with_reducible exact later_same (s1 _)))
  refine wpQuiet_nil ?_
  intro _ hw'
  obtain ⟨pq, rfl⟩ := hw'
  go_wp2_with fail
  go_ret
  exact ⟨rfl, hB1.trans (pq.h.mono hB1.size)⟩

set_option maxHeartbeats 4000000 in
set_option maxRecDepth 100000 in
theorem lscale_Alow1 (x P E A B M S V OM R : Nat) (j k n : Int) (w : World) (_hA : A < 1001) (_hB : B < 1001) (_hM : M < 1073741824) (_hS : S < 30) (_hP : P < 18446744073709551616) (_hE : E ≤ 2047) (_he : (P : Int) / 4503599627370496 % 2048 = (E : Int)) (_hsh : wrap64 ((M : Int) * 2 ^ S) = (V : Int)) (_hsh2 : IntKind.i64.wrap ((M : Int) * 2 ^ S) = (V : Int))
    (pA : ∀ w, Calls Try.prog 17 #[.int .i64 j, .int .i64 1001] w fun e w' => e = .returned (.int .i64 (A : Int)) ∧ w = w')
    (pB : ∀ w, Calls Try.prog 17 #[.int .i64 k, .int .i64 1001] w fun e w' => e = .returned (.int .i64 (B : Int)) ∧ w = w')
    (pM : ∀ w, Calls Try.prog 17 #[.int .i64 n, .int .i64 1073741824] w fun e w' => e = .returned (.int .i64 (M : Int)) ∧ w = w')
    (pS : ∀ w, Calls Try.prog 17 #[.int .i64 k, .int .i64 30] w fun e w' => e = .returned (.int .i64 (S : Int)) ∧ w = w')
    (pl : ∀ w, Calls Try.prog 13 #[.int .u64 (x : Int)] w fun e w' => e = .returned (.int .u64 (P : Int)) ∧ w = w')
    (s0 : ∀ w, Calls Try.prog 18 #[.int .u64 (x : Int), .int .i64 0] w fun e w' => e = .returned (.int .u64 (P : Int)) ∧ w = w')
    (s1 : ∀ w, Calls Try.prog 18 #[.int .u64 (x : Int), .int .i64 ((A : Int) - 500)] w fun e w' => e = .returned (.int .u64 (P : Int)) ∧ w = w')
    (s2 : ∀ w, Calls Try.prog 18 #[.int .u64 (P : Int), .int .i64 ((A : Int) - 500)] w fun e w' => e = .returned (.int .u64 (P : Int)) ∧ w = w')
    (om : ∀ w, Calls Try.prog 22 #[.int .i64 (M : Int)] w fun e w' => e = .returned (.int .u64 (OM : Int)) ∧ w = w')
    (sm : ∀ w, Calls Try.prog 18 #[.int .u64 (OM : Int), .int .i64 (S : Int)] w fun e w' => e = .returned (.int .u64 (R : Int)) ∧ w = w')
    (os : ∀ w, Calls Try.prog 22 #[.int .i64 (V : Int)] w fun e w' => e = .returned (.int .u64 (R : Int)) ∧ w = w')
    (_f0 : ((E : Int) == 2047) = true)
    (_f1 : ((E : Int) < 2047) = False)
    (_f2 : (E < 2047) = False)
    (_f3 : (E = 2047) = True)
    (_f4 : (1 ≤ (E : Int)) = True)
    (_f5 : (1 ≤ E) = True)
    (_f6 : (0 < E) = True)
    (_f7 : (0 < (E : Int)) = True)
    (_f8 : ((E : Int) ≤ 2046) = False)
    (_f9 : (E ≤ 2046) = False)
    (_f10 : ((P : Int) == 9221120237041090561) = false)
    (_f11 : (P = 9221120237041090561) = False)
    (_f12 : ((P : Int) == 9218868437227405312) = false)
    (_f13 : (P = 9218868437227405312) = False)
    (_f14 : ((P : Int) == 18442240474082181120) = true)
    (_f15 : (P = 18442240474082181120) = True)
    (_f16 : (1 ≤ (E : Int) + ((A : Int) - 500)) = True)
    (_f17 : ((E : Int) + ((A : Int) - 500) ≤ 2046) = True) :
    Calls Try.prog 9 #[.int .u64 (x : Int), .int .i64 j, .int .i64 k, .int .i64 n] w fun e w' => e = .returned (.bool true) ∧ Below w.heap.size w w' := by
  go_enter Try.func9, Try.ntmps9
  go_wp2_with fail
  with_reducible refine (awake_any _).mono ?_
  rintro e w1 ⟨rfl, hB1⟩
  go_wp2_with (first
    | (with_reducible refine (pA _).mono ?_; rintro e w2 ⟨rfl, rfl⟩)
    | (with_reducible refine (pB _).mono ?_; rintro e w2 ⟨rfl, rfl⟩)
    | (with_reducible refine (pM _).mono ?_; rintro e w2 ⟨rfl, rfl⟩)
    | (with_reducible refine (pS _).mono ?_; rintro e w2 ⟨rfl, rfl⟩)
    | (with_reducible refine (pl _).mono ?_; rintro e w2 ⟨rfl, rfl⟩)
    | (with_reducible refine (s0 _).mono ?_; rintro e w2 ⟨rfl, rfl⟩)
    | (with_reducible refine (s1 _).mono ?_; rintro e w2 ⟨rfl, rfl⟩)
    | (with_reducible refine (s2 _).mono ?_; rintro e w2 ⟨rfl, rfl⟩))
  refine wp_region_later (by kernel_rfl) (by kernel_rfl) ?_
  repeat (go_big_quiet_step (first
    | with_reducible exact later_same (om _)
    | with_reducible exact later_same (os _)
    | with_reducible exact later_same (sm _)
    | with_reducible exact later_same (s1 _)))
  refine wpQuiet_nil ?_
  intro _ hw'
  obtain ⟨pq, rfl⟩ := hw'
  go_wp2_with fail
  go_ret
  exact ⟨rfl, hB1.trans (pq.h.mono hB1.size)⟩

set_option maxHeartbeats 4000000 in
set_option maxRecDepth 100000 in
theorem lscale_B0 (x P E A B M S V Y OM R : Nat) (j k n : Int) (w : World) (_hA : A < 1001) (_hB : B < 1001) (_hM : M < 1073741824) (_hS : S < 30) (_hP : P < 18446744073709551616) (_hE : E ≤ 2047) (_he : (P : Int) / 4503599627370496 % 2048 = (E : Int)) (_hsh : wrap64 ((M : Int) * 2 ^ S) = (V : Int)) (_hsh2 : IntKind.i64.wrap ((M : Int) * 2 ^ S) = (V : Int))
    (pA : ∀ w, Calls Try.prog 17 #[.int .i64 j, .int .i64 1001] w fun e w' => e = .returned (.int .i64 (A : Int)) ∧ w = w')
    (pB : ∀ w, Calls Try.prog 17 #[.int .i64 k, .int .i64 1001] w fun e w' => e = .returned (.int .i64 (B : Int)) ∧ w = w')
    (pM : ∀ w, Calls Try.prog 17 #[.int .i64 n, .int .i64 1073741824] w fun e w' => e = .returned (.int .i64 (M : Int)) ∧ w = w')
    (pS : ∀ w, Calls Try.prog 17 #[.int .i64 k, .int .i64 30] w fun e w' => e = .returned (.int .i64 (S : Int)) ∧ w = w')
    (pl : ∀ w, Calls Try.prog 13 #[.int .u64 (x : Int)] w fun e w' => e = .returned (.int .u64 (P : Int)) ∧ w = w')
    (s0 : ∀ w, Calls Try.prog 18 #[.int .u64 (x : Int), .int .i64 0] w fun e w' => e = .returned (.int .u64 (P : Int)) ∧ w = w')
    (s1 : ∀ w, Calls Try.prog 18 #[.int .u64 (x : Int), .int .i64 ((A : Int) - 500)] w fun e w' => e = .returned (.int .u64 (Y : Int)) ∧ w = w')
    (s2 : ∀ w, Calls Try.prog 18 #[.int .u64 (P : Int), .int .i64 ((A : Int) - 500)] w fun e w' => e = .returned (.int .u64 (Y : Int)) ∧ w = w')
    (om : ∀ w, Calls Try.prog 22 #[.int .i64 (M : Int)] w fun e w' => e = .returned (.int .u64 (OM : Int)) ∧ w = w')
    (sm : ∀ w, Calls Try.prog 18 #[.int .u64 (OM : Int), .int .i64 (S : Int)] w fun e w' => e = .returned (.int .u64 (R : Int)) ∧ w = w')
    (os : ∀ w, Calls Try.prog 22 #[.int .i64 (V : Int)] w fun e w' => e = .returned (.int .u64 (R : Int)) ∧ w = w')
    (_f0 : ((E : Int) == 2047) = false)
    (_f1 : ((E : Int) < 2047) = True)
    (_f2 : (E < 2047) = True)
    (_f3 : (E = 2047) = False)
    (_f4 : (1 ≤ (E : Int)) = False)
    (_f5 : (1 ≤ E) = False)
    (_f6 : (0 < E) = False)
    (_f7 : (0 < (E : Int)) = False)
    (_f8 : ((E : Int) ≤ 2046) = True)
    (_f9 : (E ≤ 2046) = True)
    (_f10 : ((P : Int) == 9221120237041090561) = false)
    (_f11 : (P = 9221120237041090561) = False)
    (_f12 : ((P : Int) == 9218868437227405312) = false)
    (_f13 : (P = 9218868437227405312) = False)
    (_f14 : ((P : Int) == 18442240474082181120) = false)
    (_f15 : (P = 18442240474082181120) = False)
    (_f16 : (1 ≤ (E : Int) + ((A : Int) - 500)) = False) :
    Calls Try.prog 9 #[.int .u64 (x : Int), .int .i64 j, .int .i64 k, .int .i64 n] w fun e w' => e = .returned (.bool true) ∧ Below w.heap.size w w' := by
  go_enter Try.func9, Try.ntmps9
  go_wp2_with fail
  with_reducible refine (awake_any _).mono ?_
  rintro e w1 ⟨rfl, hB1⟩
  go_wp2_with (first
    | (with_reducible refine (pA _).mono ?_; rintro e w2 ⟨rfl, rfl⟩)
    | (with_reducible refine (pB _).mono ?_; rintro e w2 ⟨rfl, rfl⟩)
    | (with_reducible refine (pM _).mono ?_; rintro e w2 ⟨rfl, rfl⟩)
    | (with_reducible refine (pS _).mono ?_; rintro e w2 ⟨rfl, rfl⟩)
    | (with_reducible refine (pl _).mono ?_; rintro e w2 ⟨rfl, rfl⟩)
    | (with_reducible refine (s0 _).mono ?_; rintro e w2 ⟨rfl, rfl⟩)
    | (with_reducible refine (s1 _).mono ?_; rintro e w2 ⟨rfl, rfl⟩)
    | (with_reducible refine (s2 _).mono ?_; rintro e w2 ⟨rfl, rfl⟩))
  refine wp_region_later (by kernel_rfl) (by kernel_rfl) ?_
  repeat (go_big_quiet_step (first
    | with_reducible exact later_same (om _)
    | with_reducible exact later_same (os _)
    | with_reducible exact later_same (sm _)
    | with_reducible exact later_same (s1 _)))
  refine wpQuiet_nil ?_
  intro _ hw'
  obtain ⟨pq, rfl⟩ := hw'
  go_wp2_with fail
  go_ret
  exact ⟨rfl, hB1.trans (pq.h.mono hB1.size)⟩

set_option maxHeartbeats 4000000 in
set_option maxRecDepth 100000 in
theorem lscale_B1 (x P E A B M S V Y OM R : Nat) (j k n : Int) (w : World) (_hA : A < 1001) (_hB : B < 1001) (_hM : M < 1073741824) (_hS : S < 30) (_hP : P < 18446744073709551616) (_hE : E ≤ 2047) (_he : (P : Int) / 4503599627370496 % 2048 = (E : Int)) (_hsh : wrap64 ((M : Int) * 2 ^ S) = (V : Int)) (_hsh2 : IntKind.i64.wrap ((M : Int) * 2 ^ S) = (V : Int))
    (pA : ∀ w, Calls Try.prog 17 #[.int .i64 j, .int .i64 1001] w fun e w' => e = .returned (.int .i64 (A : Int)) ∧ w = w')
    (pB : ∀ w, Calls Try.prog 17 #[.int .i64 k, .int .i64 1001] w fun e w' => e = .returned (.int .i64 (B : Int)) ∧ w = w')
    (pM : ∀ w, Calls Try.prog 17 #[.int .i64 n, .int .i64 1073741824] w fun e w' => e = .returned (.int .i64 (M : Int)) ∧ w = w')
    (pS : ∀ w, Calls Try.prog 17 #[.int .i64 k, .int .i64 30] w fun e w' => e = .returned (.int .i64 (S : Int)) ∧ w = w')
    (pl : ∀ w, Calls Try.prog 13 #[.int .u64 (x : Int)] w fun e w' => e = .returned (.int .u64 (P : Int)) ∧ w = w')
    (s0 : ∀ w, Calls Try.prog 18 #[.int .u64 (x : Int), .int .i64 0] w fun e w' => e = .returned (.int .u64 (P : Int)) ∧ w = w')
    (s1 : ∀ w, Calls Try.prog 18 #[.int .u64 (x : Int), .int .i64 ((A : Int) - 500)] w fun e w' => e = .returned (.int .u64 (Y : Int)) ∧ w = w')
    (s2 : ∀ w, Calls Try.prog 18 #[.int .u64 (P : Int), .int .i64 ((A : Int) - 500)] w fun e w' => e = .returned (.int .u64 (Y : Int)) ∧ w = w')
    (om : ∀ w, Calls Try.prog 22 #[.int .i64 (M : Int)] w fun e w' => e = .returned (.int .u64 (OM : Int)) ∧ w = w')
    (sm : ∀ w, Calls Try.prog 18 #[.int .u64 (OM : Int), .int .i64 (S : Int)] w fun e w' => e = .returned (.int .u64 (R : Int)) ∧ w = w')
    (os : ∀ w, Calls Try.prog 22 #[.int .i64 (V : Int)] w fun e w' => e = .returned (.int .u64 (R : Int)) ∧ w = w')
    (_f0 : ((E : Int) == 2047) = false)
    (_f1 : ((E : Int) < 2047) = True)
    (_f2 : (E < 2047) = True)
    (_f3 : (E = 2047) = False)
    (_f4 : (1 ≤ (E : Int)) = False)
    (_f5 : (1 ≤ E) = False)
    (_f6 : (0 < E) = False)
    (_f7 : (0 < (E : Int)) = False)
    (_f8 : ((E : Int) ≤ 2046) = True)
    (_f9 : (E ≤ 2046) = True)
    (_f10 : ((P : Int) == 9221120237041090561) = false)
    (_f11 : (P = 9221120237041090561) = False)
    (_f12 : ((P : Int) == 9218868437227405312) = false)
    (_f13 : (P = 9218868437227405312) = False)
    (_f14 : ((P : Int) == 18442240474082181120) = false)
    (_f15 : (P = 18442240474082181120) = False)
    (_f16 : (1 ≤ (E : Int) + ((A : Int) - 500)) = True)
    (_f17 : ((E : Int) + ((A : Int) - 500) ≤ 2046) = True) :
    Calls Try.prog 9 #[.int .u64 (x : Int), .int .i64 j, .int .i64 k, .int .i64 n] w fun e w' => e = .returned (.bool true) ∧ Below w.heap.size w w' := by
  go_enter Try.func9, Try.ntmps9
  go_wp2_with fail
  with_reducible refine (awake_any _).mono ?_
  rintro e w1 ⟨rfl, hB1⟩
  go_wp2_with (first
    | (with_reducible refine (pA _).mono ?_; rintro e w2 ⟨rfl, rfl⟩)
    | (with_reducible refine (pB _).mono ?_; rintro e w2 ⟨rfl, rfl⟩)
    | (with_reducible refine (pM _).mono ?_; rintro e w2 ⟨rfl, rfl⟩)
    | (with_reducible refine (pS _).mono ?_; rintro e w2 ⟨rfl, rfl⟩)
    | (with_reducible refine (pl _).mono ?_; rintro e w2 ⟨rfl, rfl⟩)
    | (with_reducible refine (s0 _).mono ?_; rintro e w2 ⟨rfl, rfl⟩)
    | (with_reducible refine (s1 _).mono ?_; rintro e w2 ⟨rfl, rfl⟩)
    | (with_reducible refine (s2 _).mono ?_; rintro e w2 ⟨rfl, rfl⟩))
  refine wp_region_later (by kernel_rfl) (by kernel_rfl) ?_
  repeat (go_big_quiet_step (first
    | with_reducible exact later_same (om _)
    | with_reducible exact later_same (os _)
    | with_reducible exact later_same (sm _)
    | with_reducible exact later_same (s1 _)))
  refine wpQuiet_nil ?_
  intro _ hw'
  obtain ⟨pq, rfl⟩ := hw'
  go_wp2_with fail
  go_ret
  exact ⟨rfl, hB1.trans (pq.h.mono hB1.size)⟩

set_option maxHeartbeats 4000000 in
set_option maxRecDepth 100000 in
theorem lscale_C1 (x P E A B M S V Y OM R : Nat) (j k n : Int) (w : World) (_hA : A < 1001) (_hB : B < 1001) (_hM : M < 1073741824) (_hS : S < 30) (_hP : P < 18446744073709551616) (_hE : E ≤ 2047) (_he : (P : Int) / 4503599627370496 % 2048 = (E : Int)) (_hsh : wrap64 ((M : Int) * 2 ^ S) = (V : Int)) (_hsh2 : IntKind.i64.wrap ((M : Int) * 2 ^ S) = (V : Int))
    (pA : ∀ w, Calls Try.prog 17 #[.int .i64 j, .int .i64 1001] w fun e w' => e = .returned (.int .i64 (A : Int)) ∧ w = w')
    (pB : ∀ w, Calls Try.prog 17 #[.int .i64 k, .int .i64 1001] w fun e w' => e = .returned (.int .i64 (B : Int)) ∧ w = w')
    (pM : ∀ w, Calls Try.prog 17 #[.int .i64 n, .int .i64 1073741824] w fun e w' => e = .returned (.int .i64 (M : Int)) ∧ w = w')
    (pS : ∀ w, Calls Try.prog 17 #[.int .i64 k, .int .i64 30] w fun e w' => e = .returned (.int .i64 (S : Int)) ∧ w = w')
    (pl : ∀ w, Calls Try.prog 13 #[.int .u64 (x : Int)] w fun e w' => e = .returned (.int .u64 (P : Int)) ∧ w = w')
    (s0 : ∀ w, Calls Try.prog 18 #[.int .u64 (x : Int), .int .i64 0] w fun e w' => e = .returned (.int .u64 (P : Int)) ∧ w = w')
    (s1 : ∀ w, Calls Try.prog 18 #[.int .u64 (x : Int), .int .i64 ((A : Int) - 500)] w fun e w' => e = .returned (.int .u64 (Y : Int)) ∧ w = w')
    (s2 : ∀ w, Calls Try.prog 18 #[.int .u64 (P : Int), .int .i64 ((A : Int) - 500)] w fun e w' => e = .returned (.int .u64 (Y : Int)) ∧ w = w')
    (om : ∀ w, Calls Try.prog 22 #[.int .i64 (M : Int)] w fun e w' => e = .returned (.int .u64 (OM : Int)) ∧ w = w')
    (sm : ∀ w, Calls Try.prog 18 #[.int .u64 (OM : Int), .int .i64 (S : Int)] w fun e w' => e = .returned (.int .u64 (R : Int)) ∧ w = w')
    (os : ∀ w, Calls Try.prog 22 #[.int .i64 (V : Int)] w fun e w' => e = .returned (.int .u64 (R : Int)) ∧ w = w')
    (_f0 : ((E : Int) == 2047) = false)
    (_f1 : ((E : Int) < 2047) = True)
    (_f2 : (E < 2047) = True)
    (_f3 : (E = 2047) = False)
    (_f4 : (1 ≤ (E : Int)) = True)
    (_f5 : (1 ≤ E) = True)
    (_f6 : (0 < E) = True)
    (_f7 : (0 < (E : Int)) = True)
    (_f8 : ((E : Int) ≤ 2046) = True)
    (_f9 : (E ≤ 2046) = True)
    (_f10 : ((P : Int) == 9221120237041090561) = false)
    (_f11 : (P = 9221120237041090561) = False)
    (_f12 : ((P : Int) == 9218868437227405312) = false)
    (_f13 : (P = 9218868437227405312) = False)
    (_f14 : ((P : Int) == 18442240474082181120) = false)
    (_f15 : (P = 18442240474082181120) = False)
    (_f16 : (1 ≤ (E : Int) + ((A : Int) - 500)) = False) :
    Calls Try.prog 9 #[.int .u64 (x : Int), .int .i64 j, .int .i64 k, .int .i64 n] w fun e w' => e = .returned (.bool true) ∧ Below w.heap.size w w' := by
  go_enter Try.func9, Try.ntmps9
  go_wp2_with fail
  with_reducible refine (awake_any _).mono ?_
  rintro e w1 ⟨rfl, hB1⟩
  go_wp2_with (first
    | (with_reducible refine (pA _).mono ?_; rintro e w2 ⟨rfl, rfl⟩)
    | (with_reducible refine (pB _).mono ?_; rintro e w2 ⟨rfl, rfl⟩)
    | (with_reducible refine (pM _).mono ?_; rintro e w2 ⟨rfl, rfl⟩)
    | (with_reducible refine (pS _).mono ?_; rintro e w2 ⟨rfl, rfl⟩)
    | (with_reducible refine (pl _).mono ?_; rintro e w2 ⟨rfl, rfl⟩)
    | (with_reducible refine (s0 _).mono ?_; rintro e w2 ⟨rfl, rfl⟩)
    | (with_reducible refine (s1 _).mono ?_; rintro e w2 ⟨rfl, rfl⟩)
    | (with_reducible refine (s2 _).mono ?_; rintro e w2 ⟨rfl, rfl⟩))
  refine wp_region_later (by kernel_rfl) (by kernel_rfl) ?_
  repeat (go_big_quiet_step (first
    | with_reducible exact later_same (om _)
    | with_reducible exact later_same (os _)
    | with_reducible exact later_same (sm _)
    | with_reducible exact later_same (s1 _)))
  refine wpQuiet_nil ?_
  intro _ hw'
  obtain ⟨pq, rfl⟩ := hw'
  go_wp2_with fail
  go_ret
  exact ⟨rfl, hB1.trans (pq.h.mono hB1.size)⟩

set_option maxHeartbeats 4000000 in
set_option maxRecDepth 100000 in
theorem lscale_C2 (x P E A B M S V Y OM R : Nat) (j k n : Int) (w : World) (_hA : A < 1001) (_hB : B < 1001) (_hM : M < 1073741824) (_hS : S < 30) (_hP : P < 18446744073709551616) (_hE : E ≤ 2047) (_he : (P : Int) / 4503599627370496 % 2048 = (E : Int)) (_hsh : wrap64 ((M : Int) * 2 ^ S) = (V : Int)) (_hsh2 : IntKind.i64.wrap ((M : Int) * 2 ^ S) = (V : Int))
    (pA : ∀ w, Calls Try.prog 17 #[.int .i64 j, .int .i64 1001] w fun e w' => e = .returned (.int .i64 (A : Int)) ∧ w = w')
    (pB : ∀ w, Calls Try.prog 17 #[.int .i64 k, .int .i64 1001] w fun e w' => e = .returned (.int .i64 (B : Int)) ∧ w = w')
    (pM : ∀ w, Calls Try.prog 17 #[.int .i64 n, .int .i64 1073741824] w fun e w' => e = .returned (.int .i64 (M : Int)) ∧ w = w')
    (pS : ∀ w, Calls Try.prog 17 #[.int .i64 k, .int .i64 30] w fun e w' => e = .returned (.int .i64 (S : Int)) ∧ w = w')
    (pl : ∀ w, Calls Try.prog 13 #[.int .u64 (x : Int)] w fun e w' => e = .returned (.int .u64 (P : Int)) ∧ w = w')
    (s0 : ∀ w, Calls Try.prog 18 #[.int .u64 (x : Int), .int .i64 0] w fun e w' => e = .returned (.int .u64 (P : Int)) ∧ w = w')
    (s1 : ∀ w, Calls Try.prog 18 #[.int .u64 (x : Int), .int .i64 ((A : Int) - 500)] w fun e w' => e = .returned (.int .u64 (Y : Int)) ∧ w = w')
    (s2 : ∀ w, Calls Try.prog 18 #[.int .u64 (P : Int), .int .i64 ((A : Int) - 500)] w fun e w' => e = .returned (.int .u64 (Y : Int)) ∧ w = w')
    (om : ∀ w, Calls Try.prog 22 #[.int .i64 (M : Int)] w fun e w' => e = .returned (.int .u64 (OM : Int)) ∧ w = w')
    (sm : ∀ w, Calls Try.prog 18 #[.int .u64 (OM : Int), .int .i64 (S : Int)] w fun e w' => e = .returned (.int .u64 (R : Int)) ∧ w = w')
    (os : ∀ w, Calls Try.prog 22 #[.int .i64 (V : Int)] w fun e w' => e = .returned (.int .u64 (R : Int)) ∧ w = w')
    (_f0 : ((E : Int) == 2047) = false)
    (_f1 : ((E : Int) < 2047) = True)
    (_f2 : (E < 2047) = True)
    (_f3 : (E = 2047) = False)
    (_f4 : (1 ≤ (E : Int)) = True)
    (_f5 : (1 ≤ E) = True)
    (_f6 : (0 < E) = True)
    (_f7 : (0 < (E : Int)) = True)
    (_f8 : ((E : Int) ≤ 2046) = True)
    (_f9 : (E ≤ 2046) = True)
    (_f10 : ((P : Int) == 9221120237041090561) = false)
    (_f11 : (P = 9221120237041090561) = False)
    (_f12 : ((P : Int) == 9218868437227405312) = false)
    (_f13 : (P = 9218868437227405312) = False)
    (_f14 : ((P : Int) == 18442240474082181120) = false)
    (_f15 : (P = 18442240474082181120) = False)
    (_f16 : (1 ≤ (E : Int) + ((A : Int) - 500)) = True)
    (_f17 : ((E : Int) + ((A : Int) - 500) ≤ 2046) = False) :
    Calls Try.prog 9 #[.int .u64 (x : Int), .int .i64 j, .int .i64 k, .int .i64 n] w fun e w' => e = .returned (.bool true) ∧ Below w.heap.size w w' := by
  go_enter Try.func9, Try.ntmps9
  go_wp2_with fail
  with_reducible refine (awake_any _).mono ?_
  rintro e w1 ⟨rfl, hB1⟩
  go_wp2_with (first
    | (with_reducible refine (pA _).mono ?_; rintro e w2 ⟨rfl, rfl⟩)
    | (with_reducible refine (pB _).mono ?_; rintro e w2 ⟨rfl, rfl⟩)
    | (with_reducible refine (pM _).mono ?_; rintro e w2 ⟨rfl, rfl⟩)
    | (with_reducible refine (pS _).mono ?_; rintro e w2 ⟨rfl, rfl⟩)
    | (with_reducible refine (pl _).mono ?_; rintro e w2 ⟨rfl, rfl⟩)
    | (with_reducible refine (s0 _).mono ?_; rintro e w2 ⟨rfl, rfl⟩)
    | (with_reducible refine (s1 _).mono ?_; rintro e w2 ⟨rfl, rfl⟩)
    | (with_reducible refine (s2 _).mono ?_; rintro e w2 ⟨rfl, rfl⟩))
  refine wp_region_later (by kernel_rfl) (by kernel_rfl) ?_
  repeat (go_big_quiet_step (first
    | with_reducible exact later_same (om _)
    | with_reducible exact later_same (os _)
    | with_reducible exact later_same (sm _)
    | with_reducible exact later_same (s1 _)))
  refine wpQuiet_nil ?_
  intro _ hw'
  obtain ⟨pq, rfl⟩ := hw'
  go_wp2_with fail
  go_ret
  exact ⟨rfl, hB1.trans (pq.h.mono hB1.size)⟩

set_option maxHeartbeats 4000000 in
set_option maxRecDepth 100000 in
theorem lscale_C3a (x P E A B M S V Y OM R : Nat) (j k n : Int) (w : World) (_hA : A < 1001) (_hB : B < 1001) (_hM : M < 1073741824) (_hS : S < 30) (_hP : P < 18446744073709551616) (_hE : E ≤ 2047) (_he : (P : Int) / 4503599627370496 % 2048 = (E : Int)) (_hsh : wrap64 ((M : Int) * 2 ^ S) = (V : Int)) (_hsh2 : IntKind.i64.wrap ((M : Int) * 2 ^ S) = (V : Int))
    (pA : ∀ w, Calls Try.prog 17 #[.int .i64 j, .int .i64 1001] w fun e w' => e = .returned (.int .i64 (A : Int)) ∧ w = w')
    (pB : ∀ w, Calls Try.prog 17 #[.int .i64 k, .int .i64 1001] w fun e w' => e = .returned (.int .i64 (B : Int)) ∧ w = w')
    (pM : ∀ w, Calls Try.prog 17 #[.int .i64 n, .int .i64 1073741824] w fun e w' => e = .returned (.int .i64 (M : Int)) ∧ w = w')
    (pS : ∀ w, Calls Try.prog 17 #[.int .i64 k, .int .i64 30] w fun e w' => e = .returned (.int .i64 (S : Int)) ∧ w = w')
    (pl : ∀ w, Calls Try.prog 13 #[.int .u64 (x : Int)] w fun e w' => e = .returned (.int .u64 (P : Int)) ∧ w = w')
    (s0 : ∀ w, Calls Try.prog 18 #[.int .u64 (x : Int), .int .i64 0] w fun e w' => e = .returned (.int .u64 (P : Int)) ∧ w = w')
    (s1 : ∀ w, Calls Try.prog 18 #[.int .u64 (x : Int), .int .i64 ((A : Int) - 500)] w fun e w' => e = .returned (.int .u64 (Y : Int)) ∧ w = w')
    (s2 : ∀ w, Calls Try.prog 18 #[.int .u64 (P : Int), .int .i64 ((A : Int) - 500)] w fun e w' => e = .returned (.int .u64 (Y : Int)) ∧ w = w')
    (om : ∀ w, Calls Try.prog 22 #[.int .i64 (M : Int)] w fun e w' => e = .returned (.int .u64 (OM : Int)) ∧ w = w')
    (sm : ∀ w, Calls Try.prog 18 #[.int .u64 (OM : Int), .int .i64 (S : Int)] w fun e w' => e = .returned (.int .u64 (R : Int)) ∧ w = w')
    (os : ∀ w, Calls Try.prog 22 #[.int .i64 (V : Int)] w fun e w' => e = .returned (.int .u64 (R : Int)) ∧ w = w')
    (s3 : ∀ w, Calls Try.prog 18 #[.int .u64 (Y : Int), .int .i64 (-((A : Int) - 500))] w fun e w' => e = .returned (.int .u64 (P : Int)) ∧ w = w')
    (_f0 : ((E : Int) == 2047) = false)
    (_f1 : ((E : Int) < 2047) = True)
    (_f2 : (E < 2047) = True)
    (_f3 : (E = 2047) = False)
    (_f4 : (1 ≤ (E : Int)) = True)
    (_f5 : (1 ≤ E) = True)
    (_f6 : (0 < E) = True)
    (_f7 : (0 < (E : Int)) = True)
    (_f8 : ((E : Int) ≤ 2046) = True)
    (_f9 : (E ≤ 2046) = True)
    (_f10 : ((P : Int) == 9221120237041090561) = false)
    (_f11 : (P = 9221120237041090561) = False)
    (_f12 : ((P : Int) == 9218868437227405312) = false)
    (_f13 : (P = 9218868437227405312) = False)
    (_f14 : ((P : Int) == 18442240474082181120) = false)
    (_f15 : (P = 18442240474082181120) = False)
    (_f16 : (1 ≤ (E : Int) + ((A : Int) - 500)) = True)
    (_f17 : ((E : Int) + ((A : Int) - 500) ≤ 2046) = True)
    (_f18 : IntKind.u64.wrap (IntKind.u64.wrap ((P : Int) + IntKind.u64.wrap (IntKind.u64.wrap ((E : Int) + ((A : Int) - 500)) * 4503599627370496)) - (E : Int) * 4503599627370496) = (Y : Int))
    (_f19 : (1 ≤ (E : Int) + ((A : Int) - 500) + ((B : Int) - 500)) = False) :
    Calls Try.prog 9 #[.int .u64 (x : Int), .int .i64 j, .int .i64 k, .int .i64 n] w fun e w' => e = .returned (.bool true) ∧ Below w.heap.size w w' := by
  go_enter Try.func9, Try.ntmps9
  go_wp2_with fail
  with_reducible refine (awake_any _).mono ?_
  rintro e w1 ⟨rfl, hB1⟩
  go_wp2_with (first
    | (with_reducible refine (pA _).mono ?_; rintro e w2 ⟨rfl, rfl⟩)
    | (with_reducible refine (pB _).mono ?_; rintro e w2 ⟨rfl, rfl⟩)
    | (with_reducible refine (pM _).mono ?_; rintro e w2 ⟨rfl, rfl⟩)
    | (with_reducible refine (pS _).mono ?_; rintro e w2 ⟨rfl, rfl⟩)
    | (with_reducible refine (pl _).mono ?_; rintro e w2 ⟨rfl, rfl⟩)
    | (with_reducible refine (s0 _).mono ?_; rintro e w2 ⟨rfl, rfl⟩)
    | (with_reducible refine (s1 _).mono ?_; rintro e w2 ⟨rfl, rfl⟩)
    | (with_reducible refine (s2 _).mono ?_; rintro e w2 ⟨rfl, rfl⟩)
    | (with_reducible refine (s3 _).mono ?_; rintro e w2 ⟨rfl, rfl⟩))
  refine wp_region_later (by kernel_rfl) (by kernel_rfl) ?_
  repeat (go_big_quiet_step (first
    | with_reducible exact later_same (om _)
    | with_reducible exact later_same (os _)
    | with_reducible exact later_same (sm _)
    | with_reducible exact later_same (s1 _)))
  refine wpQuiet_nil ?_
  intro _ hw'
  obtain ⟨pq, rfl⟩ := hw'
  go_wp2_with fail
  go_ret
  exact ⟨rfl, hB1.trans (pq.h.mono hB1.size)⟩

set_option maxHeartbeats 4000000 in
set_option maxRecDepth 100000 in
theorem lscale_C3b (x P E A B M S V Y OM R : Nat) (j k n : Int) (w : World) (_hA : A < 1001) (_hB : B < 1001) (_hM : M < 1073741824) (_hS : S < 30) (_hP : P < 18446744073709551616) (_hE : E ≤ 2047) (_he : (P : Int) / 4503599627370496 % 2048 = (E : Int)) (_hsh : wrap64 ((M : Int) * 2 ^ S) = (V : Int)) (_hsh2 : IntKind.i64.wrap ((M : Int) * 2 ^ S) = (V : Int))
    (pA : ∀ w, Calls Try.prog 17 #[.int .i64 j, .int .i64 1001] w fun e w' => e = .returned (.int .i64 (A : Int)) ∧ w = w')
    (pB : ∀ w, Calls Try.prog 17 #[.int .i64 k, .int .i64 1001] w fun e w' => e = .returned (.int .i64 (B : Int)) ∧ w = w')
    (pM : ∀ w, Calls Try.prog 17 #[.int .i64 n, .int .i64 1073741824] w fun e w' => e = .returned (.int .i64 (M : Int)) ∧ w = w')
    (pS : ∀ w, Calls Try.prog 17 #[.int .i64 k, .int .i64 30] w fun e w' => e = .returned (.int .i64 (S : Int)) ∧ w = w')
    (pl : ∀ w, Calls Try.prog 13 #[.int .u64 (x : Int)] w fun e w' => e = .returned (.int .u64 (P : Int)) ∧ w = w')
    (s0 : ∀ w, Calls Try.prog 18 #[.int .u64 (x : Int), .int .i64 0] w fun e w' => e = .returned (.int .u64 (P : Int)) ∧ w = w')
    (s1 : ∀ w, Calls Try.prog 18 #[.int .u64 (x : Int), .int .i64 ((A : Int) - 500)] w fun e w' => e = .returned (.int .u64 (Y : Int)) ∧ w = w')
    (s2 : ∀ w, Calls Try.prog 18 #[.int .u64 (P : Int), .int .i64 ((A : Int) - 500)] w fun e w' => e = .returned (.int .u64 (Y : Int)) ∧ w = w')
    (om : ∀ w, Calls Try.prog 22 #[.int .i64 (M : Int)] w fun e w' => e = .returned (.int .u64 (OM : Int)) ∧ w = w')
    (sm : ∀ w, Calls Try.prog 18 #[.int .u64 (OM : Int), .int .i64 (S : Int)] w fun e w' => e = .returned (.int .u64 (R : Int)) ∧ w = w')
    (os : ∀ w, Calls Try.prog 22 #[.int .i64 (V : Int)] w fun e w' => e = .returned (.int .u64 (R : Int)) ∧ w = w')
    (s3 : ∀ w, Calls Try.prog 18 #[.int .u64 (Y : Int), .int .i64 (-((A : Int) - 500))] w fun e w' => e = .returned (.int .u64 (P : Int)) ∧ w = w')
    (_f0 : ((E : Int) == 2047) = false)
    (_f1 : ((E : Int) < 2047) = True)
    (_f2 : (E < 2047) = True)
    (_f3 : (E = 2047) = False)
    (_f4 : (1 ≤ (E : Int)) = True)
    (_f5 : (1 ≤ E) = True)
    (_f6 : (0 < E) = True)
    (_f7 : (0 < (E : Int)) = True)
    (_f8 : ((E : Int) ≤ 2046) = True)
    (_f9 : (E ≤ 2046) = True)
    (_f10 : ((P : Int) == 9221120237041090561) = false)
    (_f11 : (P = 9221120237041090561) = False)
    (_f12 : ((P : Int) == 9218868437227405312) = false)
    (_f13 : (P = 9218868437227405312) = False)
    (_f14 : ((P : Int) == 18442240474082181120) = false)
    (_f15 : (P = 18442240474082181120) = False)
    (_f16 : (1 ≤ (E : Int) + ((A : Int) - 500)) = True)
    (_f17 : ((E : Int) + ((A : Int) - 500) ≤ 2046) = True)
    (_f18 : IntKind.u64.wrap (IntKind.u64.wrap ((P : Int) + IntKind.u64.wrap (IntKind.u64.wrap ((E : Int) + ((A : Int) - 500)) * 4503599627370496)) - (E : Int) * 4503599627370496) = (Y : Int))
    (_f19 : (1 ≤ (E : Int) + ((A : Int) - 500) + ((B : Int) - 500)) = True)
    (_f20 : ((E : Int) + ((A : Int) - 500) + ((B : Int) - 500) ≤ 2046) = False) :
    Calls Try.prog 9 #[.int .u64 (x : Int), .int .i64 j, .int .i64 k, .int .i64 n] w fun e w' => e = .returned (.bool true) ∧ Below w.heap.size w w' := by
  go_enter Try.func9, Try.ntmps9
  go_wp2_with fail
  with_reducible refine (awake_any _).mono ?_
  rintro e w1 ⟨rfl, hB1⟩
  go_wp2_with (first
    | (with_reducible refine (pA _).mono ?_; rintro e w2 ⟨rfl, rfl⟩)
    | (with_reducible refine (pB _).mono ?_; rintro e w2 ⟨rfl, rfl⟩)
    | (with_reducible refine (pM _).mono ?_; rintro e w2 ⟨rfl, rfl⟩)
    | (with_reducible refine (pS _).mono ?_; rintro e w2 ⟨rfl, rfl⟩)
    | (with_reducible refine (pl _).mono ?_; rintro e w2 ⟨rfl, rfl⟩)
    | (with_reducible refine (s0 _).mono ?_; rintro e w2 ⟨rfl, rfl⟩)
    | (with_reducible refine (s1 _).mono ?_; rintro e w2 ⟨rfl, rfl⟩)
    | (with_reducible refine (s2 _).mono ?_; rintro e w2 ⟨rfl, rfl⟩)
    | (with_reducible refine (s3 _).mono ?_; rintro e w2 ⟨rfl, rfl⟩))
  refine wp_region_later (by kernel_rfl) (by kernel_rfl) ?_
  repeat (go_big_quiet_step (first
    | with_reducible exact later_same (om _)
    | with_reducible exact later_same (os _)
    | with_reducible exact later_same (sm _)
    | with_reducible exact later_same (s1 _)))
  refine wpQuiet_nil ?_
  intro _ hw'
  obtain ⟨pq, rfl⟩ := hw'
  go_wp2_with fail
  go_ret
  exact ⟨rfl, hB1.trans (pq.h.mono hB1.size)⟩

set_option maxHeartbeats 4000000 in
set_option maxRecDepth 100000 in
theorem lscale_C3c (x P E A B M S V Y Z OM R : Nat) (j k n : Int) (w : World) (_hA : A < 1001) (_hB : B < 1001) (_hM : M < 1073741824) (_hS : S < 30) (_hP : P < 18446744073709551616) (_hE : E ≤ 2047) (_he : (P : Int) / 4503599627370496 % 2048 = (E : Int)) (_hsh : wrap64 ((M : Int) * 2 ^ S) = (V : Int)) (_hsh2 : IntKind.i64.wrap ((M : Int) * 2 ^ S) = (V : Int))
    (pA : ∀ w, Calls Try.prog 17 #[.int .i64 j, .int .i64 1001] w fun e w' => e = .returned (.int .i64 (A : Int)) ∧ w = w')
    (pB : ∀ w, Calls Try.prog 17 #[.int .i64 k, .int .i64 1001] w fun e w' => e = .returned (.int .i64 (B : Int)) ∧ w = w')
    (pM : ∀ w, Calls Try.prog 17 #[.int .i64 n, .int .i64 1073741824] w fun e w' => e = .returned (.int .i64 (M : Int)) ∧ w = w')
    (pS : ∀ w, Calls Try.prog 17 #[.int .i64 k, .int .i64 30] w fun e w' => e = .returned (.int .i64 (S : Int)) ∧ w = w')
    (pl : ∀ w, Calls Try.prog 13 #[.int .u64 (x : Int)] w fun e w' => e = .returned (.int .u64 (P : Int)) ∧ w = w')
    (s0 : ∀ w, Calls Try.prog 18 #[.int .u64 (x : Int), .int .i64 0] w fun e w' => e = .returned (.int .u64 (P : Int)) ∧ w = w')
    (s1 : ∀ w, Calls Try.prog 18 #[.int .u64 (x : Int), .int .i64 ((A : Int) - 500)] w fun e w' => e = .returned (.int .u64 (Y : Int)) ∧ w = w')
    (s2 : ∀ w, Calls Try.prog 18 #[.int .u64 (P : Int), .int .i64 ((A : Int) - 500)] w fun e w' => e = .returned (.int .u64 (Y : Int)) ∧ w = w')
    (om : ∀ w, Calls Try.prog 22 #[.int .i64 (M : Int)] w fun e w' => e = .returned (.int .u64 (OM : Int)) ∧ w = w')
    (sm : ∀ w, Calls Try.prog 18 #[.int .u64 (OM : Int), .int .i64 (S : Int)] w fun e w' => e = .returned (.int .u64 (R : Int)) ∧ w = w')
    (os : ∀ w, Calls Try.prog 22 #[.int .i64 (V : Int)] w fun e w' => e = .returned (.int .u64 (R : Int)) ∧ w = w')
    (s3 : ∀ w, Calls Try.prog 18 #[.int .u64 (Y : Int), .int .i64 (-((A : Int) - 500))] w fun e w' => e = .returned (.int .u64 (P : Int)) ∧ w = w')
    (s4 : ∀ w, Calls Try.prog 18 #[.int .u64 (Y : Int), .int .i64 ((B : Int) - 500)] w fun e w' => e = .returned (.int .u64 (Z : Int)) ∧ w = w')
    (s5 : ∀ w, Calls Try.prog 18 #[.int .u64 (x : Int), .int .i64 (((A : Int) - 500) + ((B : Int) - 500))] w fun e w' => e = .returned (.int .u64 (Z : Int)) ∧ w = w')
    (_f0 : ((E : Int) == 2047) = false)
    (_f1 : ((E : Int) < 2047) = True)
    (_f2 : (E < 2047) = True)
    (_f3 : (E = 2047) = False)
    (_f4 : (1 ≤ (E : Int)) = True)
    (_f5 : (1 ≤ E) = True)
    (_f6 : (0 < E) = True)
    (_f7 : (0 < (E : Int)) = True)
    (_f8 : ((E : Int) ≤ 2046) = True)
    (_f9 : (E ≤ 2046) = True)
    (_f10 : ((P : Int) == 9221120237041090561) = false)
    (_f11 : (P = 9221120237041090561) = False)
    (_f12 : ((P : Int) == 9218868437227405312) = false)
    (_f13 : (P = 9218868437227405312) = False)
    (_f14 : ((P : Int) == 18442240474082181120) = false)
    (_f15 : (P = 18442240474082181120) = False)
    (_f16 : (1 ≤ (E : Int) + ((A : Int) - 500)) = True)
    (_f17 : ((E : Int) + ((A : Int) - 500) ≤ 2046) = True)
    (_f18 : IntKind.u64.wrap (IntKind.u64.wrap ((P : Int) + IntKind.u64.wrap (IntKind.u64.wrap ((E : Int) + ((A : Int) - 500)) * 4503599627370496)) - (E : Int) * 4503599627370496) = (Y : Int))
    (_f19 : (1 ≤ (E : Int) + ((A : Int) - 500) + ((B : Int) - 500)) = True)
    (_f20 : ((E : Int) + ((A : Int) - 500) + ((B : Int) - 500) ≤ 2046) = True) :
    Calls Try.prog 9 #[.int .u64 (x : Int), .int .i64 j, .int .i64 k, .int .i64 n] w fun e w' => e = .returned (.bool true) ∧ Below w.heap.size w w' := by
  go_enter Try.func9, Try.ntmps9
  go_wp2_with fail
  with_reducible refine (awake_any _).mono ?_
  rintro e w1 ⟨rfl, hB1⟩
  go_wp2_with (first
    | (with_reducible refine (pA _).mono ?_; rintro e w2 ⟨rfl, rfl⟩)
    | (with_reducible refine (pB _).mono ?_; rintro e w2 ⟨rfl, rfl⟩)
    | (with_reducible refine (pM _).mono ?_; rintro e w2 ⟨rfl, rfl⟩)
    | (with_reducible refine (pS _).mono ?_; rintro e w2 ⟨rfl, rfl⟩)
    | (with_reducible refine (pl _).mono ?_; rintro e w2 ⟨rfl, rfl⟩)
    | (with_reducible refine (s0 _).mono ?_; rintro e w2 ⟨rfl, rfl⟩)
    | (with_reducible refine (s1 _).mono ?_; rintro e w2 ⟨rfl, rfl⟩)
    | (with_reducible refine (s2 _).mono ?_; rintro e w2 ⟨rfl, rfl⟩)
    | (with_reducible refine (s3 _).mono ?_; rintro e w2 ⟨rfl, rfl⟩)
    | (with_reducible refine (s4 _).mono ?_; rintro e w2 ⟨rfl, rfl⟩)
    | (with_reducible refine (s5 _).mono ?_; rintro e w2 ⟨rfl, rfl⟩))
  refine wp_region_later (by kernel_rfl) (by kernel_rfl) ?_
  repeat (go_big_quiet_step (first
    | with_reducible exact later_same (om _)
    | with_reducible exact later_same (os _)
    | with_reducible exact later_same (sm _)
    | with_reducible exact later_same (s1 _)))
  refine wpQuiet_nil ?_
  intro _ hw'
  obtain ⟨pq, rfl⟩ := hw'
  go_wp2_with fail
  go_ret
  exact ⟨rfl, hB1.trans (pq.h.mono hB1.size)⟩

end Go.Proofs.Ytkpdfjpdjjjfiaa
