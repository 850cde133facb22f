/- The document's own answer for layer 3: Median, Ticks. -/
import Derived.Test.YtkpdfjpdjjjfiaaLagS
namespace Go.Proofs.Ytkpdfjpdjjjfiaa
open Go.RowKit Ieee

theorem rmed0 (a b c x Pa Pb Pc : Nat) (w : World)
    (h1 : ∀ w, Calls Try.prog 30 #[.int .u64 (a : Int)] w fun e w' => e = .returned (.int .u64 (x : Int)) ∧ w = w')
    (h2 : ∀ w, Calls Try.prog 30 #[.int .u64 (b : Int)] w fun e w' => e = .returned (.int .u64 (x : Int)) ∧ w = w')
    (h3 : ∀ w, Calls Try.prog 30 #[.int .u64 (c : Int)] w fun e w' => e = .returned (.int .u64 (x : Int)) ∧ w = w')
    (_p1 : ∀ w, Calls Try.prog 14 #[.int .u64 (a : Int)] w fun e w' => e = .returned (.int .u64 (Pa : Int)) ∧ w = w')
    (_p2 : ∀ w, Calls Try.prog 14 #[.int .u64 (b : Int)] w fun e w' => e = .returned (.int .u64 (Pb : Int)) ∧ w = w')
    (_p3 : ∀ w, Calls Try.prog 14 #[.int .u64 (c : Int)] w fun e w' => e = .returned (.int .u64 (Pc : Int)) ∧ w = w') :
    Calls Try.prog 21 #[.int .u64 (a : Int), .int .u64 (b : Int), .int .u64 (c : Int)] w fun e w' => e = .returned (.int .u64 (Pa : Int)) ∧ w = w' := by
  go_enter Try.func21, Try.ntmps21
  go_wp2_with (first
    | (with_reducible refine (h1 _).mono ?_; rintro e w2 ⟨rfl, rfl⟩)
    | (with_reducible refine (h2 _).mono ?_; rintro e w2 ⟨rfl, rfl⟩)
    | (with_reducible refine (h3 _).mono ?_; rintro e w2 ⟨rfl, rfl⟩)
    | (with_reducible refine (_p1 _).mono ?_; rintro e w2 ⟨rfl, rfl⟩)
    | (with_reducible refine (_p2 _).mono ?_; rintro e w2 ⟨rfl, rfl⟩)
    | (with_reducible refine (_p3 _).mono ?_; rintro e w2 ⟨rfl, rfl⟩))
  go_ret
  exact ⟨rfl, rfl⟩
theorem rmed1 (a b c x z Pa Pb Pc : Nat) (w : World)
    (h1 : ∀ w, Calls Try.prog 30 #[.int .u64 (a : Int)] w fun e w' => e = .returned (.int .u64 (x : Int)) ∧ w = w')
    (h2 : ∀ w, Calls Try.prog 30 #[.int .u64 (b : Int)] w fun e w' => e = .returned (.int .u64 (x : Int)) ∧ w = w')
    (h3 : ∀ w, Calls Try.prog 30 #[.int .u64 (c : Int)] w fun e w' => e = .returned (.int .u64 (z : Int)) ∧ w = w')
    (_p1 : ∀ w, Calls Try.prog 14 #[.int .u64 (a : Int)] w fun e w' => e = .returned (.int .u64 (Pa : Int)) ∧ w = w')
    (_p2 : ∀ w, Calls Try.prog 14 #[.int .u64 (b : Int)] w fun e w' => e = .returned (.int .u64 (Pb : Int)) ∧ w = w')
    (_p3 : ∀ w, Calls Try.prog 14 #[.int .u64 (c : Int)] w fun e w' => e = .returned (.int .u64 (Pc : Int)) ∧ w = w')
    (_f0 : ((x : Int) < (z : Int)) = True)
    (_f1 : (x < z) = True)
    (_f2 : ((x : Int) ≤ (z : Int)) = True)
    (_f3 : (x ≤ z) = True)
    (_f4 : ((x : Int) == (z : Int)) = false)
    (_f5 : ((z : Int) < (x : Int)) = False)
    (_f6 : (z < x) = False)
    (_f7 : ((z : Int) ≤ (x : Int)) = False)
    (_f8 : (z ≤ x) = False)
    (_f9 : ((z : Int) == (x : Int)) = false) :
    Calls Try.prog 21 #[.int .u64 (a : Int), .int .u64 (b : Int), .int .u64 (c : Int)] w fun e w' => e = .returned (.int .u64 (Pa : Int)) ∧ w = w' := by
  go_enter Try.func21, Try.ntmps21
  go_wp2_with (first
    | (with_reducible refine (h1 _).mono ?_; rintro e w2 ⟨rfl, rfl⟩)
    | (with_reducible refine (h2 _).mono ?_; rintro e w2 ⟨rfl, rfl⟩)
    | (with_reducible refine (h3 _).mono ?_; rintro e w2 ⟨rfl, rfl⟩)
    | (with_reducible refine (_p1 _).mono ?_; rintro e w2 ⟨rfl, rfl⟩)
    | (with_reducible refine (_p2 _).mono ?_; rintro e w2 ⟨rfl, rfl⟩)
    | (with_reducible refine (_p3 _).mono ?_; rintro e w2 ⟨rfl, rfl⟩))
  go_ret
  exact ⟨rfl, rfl⟩
theorem rmed2 (a b c x y Pa Pb Pc : Nat) (w : World)
    (h1 : ∀ w, Calls Try.prog 30 #[.int .u64 (a : Int)] w fun e w' => e = .returned (.int .u64 (x : Int)) ∧ w = w')
    (h2 : ∀ w, Calls Try.prog 30 #[.int .u64 (b : Int)] w fun e w' => e = .returned (.int .u64 (y : Int)) ∧ w = w')
    (h3 : ∀ w, Calls Try.prog 30 #[.int .u64 (c : Int)] w fun e w' => e = .returned (.int .u64 (x : Int)) ∧ w = w')
    (_p1 : ∀ w, Calls Try.prog 14 #[.int .u64 (a : Int)] w fun e w' => e = .returned (.int .u64 (Pa : Int)) ∧ w = w')
    (_p2 : ∀ w, Calls Try.prog 14 #[.int .u64 (b : Int)] w fun e w' => e = .returned (.int .u64 (Pb : Int)) ∧ w = w')
    (_p3 : ∀ w, Calls Try.prog 14 #[.int .u64 (c : Int)] w fun e w' => e = .returned (.int .u64 (Pc : Int)) ∧ w = w')
    (_f0 : ((x : Int) < (y : Int)) = True)
    (_f1 : (x < y) = True)
    (_f2 : ((x : Int) ≤ (y : Int)) = True)
    (_f3 : (x ≤ y) = True)
    (_f4 : ((x : Int) == (y : Int)) = false)
    (_f5 : ((y : Int) < (x : Int)) = False)
    (_f6 : (y < x) = False)
    (_f7 : ((y : Int) ≤ (x : Int)) = False)
    (_f8 : (y ≤ x) = False)
    (_f9 : ((y : Int) == (x : Int)) = false) :
    Calls Try.prog 21 #[.int .u64 (a : Int), .int .u64 (b : Int), .int .u64 (c : Int)] w fun e w' => e = .returned (.int .u64 (Pa : Int)) ∧ w = w' := by
  go_enter Try.func21, Try.ntmps21
  go_wp2_with (first
    | (with_reducible refine (h1 _).mono ?_; rintro e w2 ⟨rfl, rfl⟩)
    | (with_reducible refine (h2 _).mono ?_; rintro e w2 ⟨rfl, rfl⟩)
    | (with_reducible refine (h3 _).mono ?_; rintro e w2 ⟨rfl, rfl⟩)
    | (with_reducible refine (_p1 _).mono ?_; rintro e w2 ⟨rfl, rfl⟩)
    | (with_reducible refine (_p2 _).mono ?_; rintro e w2 ⟨rfl, rfl⟩)
    | (with_reducible refine (_p3 _).mono ?_; rintro e w2 ⟨rfl, rfl⟩))
  go_ret
  exact ⟨rfl, rfl⟩
theorem rmed3 (a b c x y Pa Pb Pc : Nat) (w : World)
    (h1 : ∀ w, Calls Try.prog 30 #[.int .u64 (a : Int)] w fun e w' => e = .returned (.int .u64 (x : Int)) ∧ w = w')
    (h2 : ∀ w, Calls Try.prog 30 #[.int .u64 (b : Int)] w fun e w' => e = .returned (.int .u64 (y : Int)) ∧ w = w')
    (h3 : ∀ w, Calls Try.prog 30 #[.int .u64 (c : Int)] w fun e w' => e = .returned (.int .u64 (y : Int)) ∧ w = w')
    (_p1 : ∀ w, Calls Try.prog 14 #[.int .u64 (a : Int)] w fun e w' => e = .returned (.int .u64 (Pa : Int)) ∧ w = w')
    (_p2 : ∀ w, Calls Try.prog 14 #[.int .u64 (b : Int)] w fun e w' => e = .returned (.int .u64 (Pb : Int)) ∧ w = w')
    (_p3 : ∀ w, Calls Try.prog 14 #[.int .u64 (c : Int)] w fun e w' => e = .returned (.int .u64 (Pc : Int)) ∧ w = w')
    (_f0 : ((x : Int) < (y : Int)) = True)
    (_f1 : (x < y) = True)
    (_f2 : ((x : Int) ≤ (y : Int)) = True)
    (_f3 : (x ≤ y) = True)
    (_f4 : ((x : Int) == (y : Int)) = false)
    (_f5 : ((y : Int) < (x : Int)) = False)
    (_f6 : (y < x) = False)
    (_f7 : ((y : Int) ≤ (x : Int)) = False)
    (_f8 : (y ≤ x) = False)
    (_f9 : ((y : Int) == (x : Int)) = false) :
    Calls Try.prog 21 #[.int .u64 (a : Int), .int .u64 (b : Int), .int .u64 (c : Int)] w fun e w' => e = .returned (.int .u64 (Pb : Int)) ∧ w = w' := by
  go_enter Try.func21, Try.ntmps21
  go_wp2_with (first
    | (with_reducible refine (h1 _).mono ?_; rintro e w2 ⟨rfl, rfl⟩)
    | (with_reducible refine (h2 _).mono ?_; rintro e w2 ⟨rfl, rfl⟩)
    | (with_reducible refine (h3 _).mono ?_; rintro e w2 ⟨rfl, rfl⟩)
    | (with_reducible refine (_p1 _).mono ?_; rintro e w2 ⟨rfl, rfl⟩)
    | (with_reducible refine (_p2 _).mono ?_; rintro e w2 ⟨rfl, rfl⟩)
    | (with_reducible refine (_p3 _).mono ?_; rintro e w2 ⟨rfl, rfl⟩))
  go_ret
  exact ⟨rfl, rfl⟩
theorem rmed4 (a b c x y z Pa Pb Pc : Nat) (w : World)
    (h1 : ∀ w, Calls Try.prog 30 #[.int .u64 (a : Int)] w fun e w' => e = .returned (.int .u64 (x : Int)) ∧ w = w')
    (h2 : ∀ w, Calls Try.prog 30 #[.int .u64 (b : Int)] w fun e w' => e = .returned (.int .u64 (y : Int)) ∧ w = w')
    (h3 : ∀ w, Calls Try.prog 30 #[.int .u64 (c : Int)] w fun e w' => e = .returned (.int .u64 (z : Int)) ∧ w = w')
    (_p1 : ∀ w, Calls Try.prog 14 #[.int .u64 (a : Int)] w fun e w' => e = .returned (.int .u64 (Pa : Int)) ∧ w = w')
    (_p2 : ∀ w, Calls Try.prog 14 #[.int .u64 (b : Int)] w fun e w' => e = .returned (.int .u64 (Pb : Int)) ∧ w = w')
    (_p3 : ∀ w, Calls Try.prog 14 #[.int .u64 (c : Int)] w fun e w' => e = .returned (.int .u64 (Pc : Int)) ∧ w = w')
    (_f0 : ((x : Int) < (y : Int)) = True)
    (_f1 : (x < y) = True)
    (_f2 : ((x : Int) ≤ (y : Int)) = True)
    (_f3 : (x ≤ y) = True)
    (_f4 : ((x : Int) == (y : Int)) = false)
    (_f5 : ((x : Int) < (z : Int)) = True)
    (_f6 : (x < z) = True)
    (_f7 : ((x : Int) ≤ (z : Int)) = True)
    (_f8 : (x ≤ z) = True)
    (_f9 : ((x : Int) == (z : Int)) = false)
    (_f10 : ((y : Int) < (x : Int)) = False)
    (_f11 : (y < x) = False)
    (_f12 : ((y : Int) ≤ (x : Int)) = False)
    (_f13 : (y ≤ x) = False)
    (_f14 : ((y : Int) == (x : Int)) = false)
    (_f15 : ((y : Int) < (z : Int)) = True)
    (_f16 : (y < z) = True)
    (_f17 : ((y : Int) ≤ (z : Int)) = True)
    (_f18 : (y ≤ z) = True)
    (_f19 : ((y : Int) == (z : Int)) = false)
    (_f20 : ((z : Int) < (x : Int)) = False)
    (_f21 : (z < x) = False)
    (_f22 : ((z : Int) ≤ (x : Int)) = False)
    (_f23 : (z ≤ x) = False)
    (_f24 : ((z : Int) == (x : Int)) = false)
    (_f25 : ((z : Int) < (y : Int)) = False)
    (_f26 : (z < y) = False)
    (_f27 : ((z : Int) ≤ (y : Int)) = False)
    (_f28 : (z ≤ y) = False)
    (_f29 : ((z : Int) == (y : Int)) = false) :
    Calls Try.prog 21 #[.int .u64 (a : Int), .int .u64 (b : Int), .int .u64 (c : Int)] w fun e w' => e = .returned (.int .u64 (Pb : Int)) ∧ w = w' := by
  go_enter Try.func21, Try.ntmps21
  go_wp2_with (first
    | (with_reducible refine (h1 _).mono ?_; rintro e w2 ⟨rfl, rfl⟩)
    | (with_reducible refine (h2 _).mono ?_; rintro e w2 ⟨rfl, rfl⟩)
    | (with_reducible refine (h3 _).mono ?_; rintro e w2 ⟨rfl, rfl⟩)
    | (with_reducible refine (_p1 _).mono ?_; rintro e w2 ⟨rfl, rfl⟩)
    | (with_reducible refine (_p2 _).mono ?_; rintro e w2 ⟨rfl, rfl⟩)
    | (with_reducible refine (_p3 _).mono ?_; rintro e w2 ⟨rfl, rfl⟩))
  go_ret
  exact ⟨rfl, rfl⟩
theorem rmed5 (a b c x y z Pa Pb Pc : Nat) (w : World)
    (h1 : ∀ w, Calls Try.prog 30 #[.int .u64 (a : Int)] w fun e w' => e = .returned (.int .u64 (x : Int)) ∧ w = w')
    (h2 : ∀ w, Calls Try.prog 30 #[.int .u64 (b : Int)] w fun e w' => e = .returned (.int .u64 (y : Int)) ∧ w = w')
    (h3 : ∀ w, Calls Try.prog 30 #[.int .u64 (c : Int)] w fun e w' => e = .returned (.int .u64 (z : Int)) ∧ w = w')
    (_p1 : ∀ w, Calls Try.prog 14 #[.int .u64 (a : Int)] w fun e w' => e = .returned (.int .u64 (Pa : Int)) ∧ w = w')
    (_p2 : ∀ w, Calls Try.prog 14 #[.int .u64 (b : Int)] w fun e w' => e = .returned (.int .u64 (Pb : Int)) ∧ w = w')
    (_p3 : ∀ w, Calls Try.prog 14 #[.int .u64 (c : Int)] w fun e w' => e = .returned (.int .u64 (Pc : Int)) ∧ w = w')
    (_f0 : ((x : Int) < (y : Int)) = True)
    (_f1 : (x < y) = True)
    (_f2 : ((x : Int) ≤ (y : Int)) = True)
    (_f3 : (x ≤ y) = True)
    (_f4 : ((x : Int) == (y : Int)) = false)
    (_f5 : ((x : Int) < (z : Int)) = True)
    (_f6 : (x < z) = True)
    (_f7 : ((x : Int) ≤ (z : Int)) = True)
    (_f8 : (x ≤ z) = True)
    (_f9 : ((x : Int) == (z : Int)) = false)
    (_f10 : ((y : Int) < (x : Int)) = False)
    (_f11 : (y < x) = False)
    (_f12 : ((y : Int) ≤ (x : Int)) = False)
    (_f13 : (y ≤ x) = False)
    (_f14 : ((y : Int) == (x : Int)) = false)
    (_f15 : ((y : Int) < (z : Int)) = False)
    (_f16 : (y < z) = False)
    (_f17 : ((y : Int) ≤ (z : Int)) = False)
    (_f18 : (y ≤ z) = False)
    (_f19 : ((y : Int) == (z : Int)) = false)
    (_f20 : ((z : Int) < (x : Int)) = False)
    (_f21 : (z < x) = False)
    (_f22 : ((z : Int) ≤ (x : Int)) = False)
    (_f23 : (z ≤ x) = False)
    (_f24 : ((z : Int) == (x : Int)) = false)
    (_f25 : ((z : Int) < (y : Int)) = True)
    (_f26 : (z < y) = True)
    (_f27 : ((z : Int) ≤ (y : Int)) = True)
    (_f28 : (z ≤ y) = True)
    (_f29 : ((z : Int) == (y : Int)) = false) :
    Calls Try.prog 21 #[.int .u64 (a : Int), .int .u64 (b : Int), .int .u64 (c : Int)] w fun e w' => e = .returned (.int .u64 (Pc : Int)) ∧ w = w' := by
  go_enter Try.func21, Try.ntmps21
  go_wp2_with (first
    | (with_reducible refine (h1 _).mono ?_; rintro e w2 ⟨rfl, rfl⟩)
    | (with_reducible refine (h2 _).mono ?_; rintro e w2 ⟨rfl, rfl⟩)
    | (with_reducible refine (h3 _).mono ?_; rintro e w2 ⟨rfl, rfl⟩)
    | (with_reducible refine (_p1 _).mono ?_; rintro e w2 ⟨rfl, rfl⟩)
    | (with_reducible refine (_p2 _).mono ?_; rintro e w2 ⟨rfl, rfl⟩)
    | (with_reducible refine (_p3 _).mono ?_; rintro e w2 ⟨rfl, rfl⟩))
  go_ret
  exact ⟨rfl, rfl⟩
theorem rmed6 (a b c x y Pa Pb Pc : Nat) (w : World)
    (h1 : ∀ w, Calls Try.prog 30 #[.int .u64 (a : Int)] w fun e w' => e = .returned (.int .u64 (x : Int)) ∧ w = w')
    (h2 : ∀ w, Calls Try.prog 30 #[.int .u64 (b : Int)] w fun e w' => e = .returned (.int .u64 (y : Int)) ∧ w = w')
    (h3 : ∀ w, Calls Try.prog 30 #[.int .u64 (c : Int)] w fun e w' => e = .returned (.int .u64 (y : Int)) ∧ w = w')
    (_p1 : ∀ w, Calls Try.prog 14 #[.int .u64 (a : Int)] w fun e w' => e = .returned (.int .u64 (Pa : Int)) ∧ w = w')
    (_p2 : ∀ w, Calls Try.prog 14 #[.int .u64 (b : Int)] w fun e w' => e = .returned (.int .u64 (Pb : Int)) ∧ w = w')
    (_p3 : ∀ w, Calls Try.prog 14 #[.int .u64 (c : Int)] w fun e w' => e = .returned (.int .u64 (Pc : Int)) ∧ w = w')
    (_f0 : ((x : Int) < (y : Int)) = False)
    (_f1 : (x < y) = False)
    (_f2 : ((x : Int) ≤ (y : Int)) = False)
    (_f3 : (x ≤ y) = False)
    (_f4 : ((x : Int) == (y : Int)) = false)
    (_f5 : ((y : Int) < (x : Int)) = True)
    (_f6 : (y < x) = True)
    (_f7 : ((y : Int) ≤ (x : Int)) = True)
    (_f8 : (y ≤ x) = True)
    (_f9 : ((y : Int) == (x : Int)) = false) :
    Calls Try.prog 21 #[.int .u64 (a : Int), .int .u64 (b : Int), .int .u64 (c : Int)] w fun e w' => e = .returned (.int .u64 (Pb : Int)) ∧ w = w' := by
  go_enter Try.func21, Try.ntmps21
  go_wp2_with (first
    | (with_reducible refine (h1 _).mono ?_; rintro e w2 ⟨rfl, rfl⟩)
    | (with_reducible refine (h2 _).mono ?_; rintro e w2 ⟨rfl, rfl⟩)
    | (with_reducible refine (h3 _).mono ?_; rintro e w2 ⟨rfl, rfl⟩)
    | (with_reducible refine (_p1 _).mono ?_; rintro e w2 ⟨rfl, rfl⟩)
    | (with_reducible refine (_p2 _).mono ?_; rintro e w2 ⟨rfl, rfl⟩)
    | (with_reducible refine (_p3 _).mono ?_; rintro e w2 ⟨rfl, rfl⟩))
  go_ret
  exact ⟨rfl, rfl⟩
theorem rmed7 (a b c x y Pa Pb Pc : Nat) (w : World)
    (h1 : ∀ w, Calls Try.prog 30 #[.int .u64 (a : Int)] w fun e w' => e = .returned (.int .u64 (x : Int)) ∧ w = w')
    (h2 : ∀ w, Calls Try.prog 30 #[.int .u64 (b : Int)] w fun e w' => e = .returned (.int .u64 (y : Int)) ∧ w = w')
    (h3 : ∀ w, Calls Try.prog 30 #[.int .u64 (c : Int)] w fun e w' => e = .returned (.int .u64 (x : Int)) ∧ w = w')
    (_p1 : ∀ w, Calls Try.prog 14 #[.int .u64 (a : Int)] w fun e w' => e = .returned (.int .u64 (Pa : Int)) ∧ w = w')
    (_p2 : ∀ w, Calls Try.prog 14 #[.int .u64 (b : Int)] w fun e w' => e = .returned (.int .u64 (Pb : Int)) ∧ w = w')
    (_p3 : ∀ w, Calls Try.prog 14 #[.int .u64 (c : Int)] w fun e w' => e = .returned (.int .u64 (Pc : Int)) ∧ w = w')
    (_f0 : ((x : Int) < (y : Int)) = False)
    (_f1 : (x < y) = False)
    (_f2 : ((x : Int) ≤ (y : Int)) = False)
    (_f3 : (x ≤ y) = False)
    (_f4 : ((x : Int) == (y : Int)) = false)
    (_f5 : ((y : Int) < (x : Int)) = True)
    (_f6 : (y < x) = True)
    (_f7 : ((y : Int) ≤ (x : Int)) = True)
    (_f8 : (y ≤ x) = True)
    (_f9 : ((y : Int) == (x : Int)) = false) :
    Calls Try.prog 21 #[.int .u64 (a : Int), .int .u64 (b : Int), .int .u64 (c : Int)] w fun e w' => e = .returned (.int .u64 (Pa : Int)) ∧ w = w' := by
  go_enter Try.func21, Try.ntmps21
  go_wp2_with (first
    | (with_reducible refine (h1 _).mono ?_; rintro e w2 ⟨rfl, rfl⟩)
    | (with_reducible refine (h2 _).mono ?_; rintro e w2 ⟨rfl, rfl⟩)
    | (with_reducible refine (h3 _).mono ?_; rintro e w2 ⟨rfl, rfl⟩)
    | (with_reducible refine (_p1 _).mono ?_; rintro e w2 ⟨rfl, rfl⟩)
    | (with_reducible refine (_p2 _).mono ?_; rintro e w2 ⟨rfl, rfl⟩)
    | (with_reducible refine (_p3 _).mono ?_; rintro e w2 ⟨rfl, rfl⟩))
  go_ret
  exact ⟨rfl, rfl⟩
theorem rmed8 (a b c x y z Pa Pb Pc : Nat) (w : World)
    (h1 : ∀ w, Calls Try.prog 30 #[.int .u64 (a : Int)] w fun e w' => e = .returned (.int .u64 (x : Int)) ∧ w = w')
    (h2 : ∀ w, Calls Try.prog 30 #[.int .u64 (b : Int)] w fun e w' => e = .returned (.int .u64 (y : Int)) ∧ w = w')
    (h3 : ∀ w, Calls Try.prog 30 #[.int .u64 (c : Int)] w fun e w' => e = .returned (.int .u64 (z : Int)) ∧ w = w')
    (_p1 : ∀ w, Calls Try.prog 14 #[.int .u64 (a : Int)] w fun e w' => e = .returned (.int .u64 (Pa : Int)) ∧ w = w')
    (_p2 : ∀ w, Calls Try.prog 14 #[.int .u64 (b : Int)] w fun e w' => e = .returned (.int .u64 (Pb : Int)) ∧ w = w')
    (_p3 : ∀ w, Calls Try.prog 14 #[.int .u64 (c : Int)] w fun e w' => e = .returned (.int .u64 (Pc : Int)) ∧ w = w')
    (_f0 : ((x : Int) < (y : Int)) = False)
    (_f1 : (x < y) = False)
    (_f2 : ((x : Int) ≤ (y : Int)) = False)
    (_f3 : (x ≤ y) = False)
    (_f4 : ((x : Int) == (y : Int)) = false)
    (_f5 : ((x : Int) < (z : Int)) = True)
    (_f6 : (x < z) = True)
    (_f7 : ((x : Int) ≤ (z : Int)) = True)
    (_f8 : (x ≤ z) = True)
    (_f9 : ((x : Int) == (z : Int)) = false)
    (_f10 : ((y : Int) < (x : Int)) = True)
    (_f11 : (y < x) = True)
    (_f12 : ((y : Int) ≤ (x : Int)) = True)
    (_f13 : (y ≤ x) = True)
    (_f14 : ((y : Int) == (x : Int)) = false)
    (_f15 : ((y : Int) < (z : Int)) = True)
    (_f16 : (y < z) = True)
    (_f17 : ((y : Int) ≤ (z : Int)) = True)
    (_f18 : (y ≤ z) = True)
    (_f19 : ((y : Int) == (z : Int)) = false)
    (_f20 : ((z : Int) < (x : Int)) = False)
    (_f21 : (z < x) = False)
    (_f22 : ((z : Int) ≤ (x : Int)) = False)
    (_f23 : (z ≤ x) = False)
    (_f24 : ((z : Int) == (x : Int)) = false)
    (_f25 : ((z : Int) < (y : Int)) = False)
    (_f26 : (z < y) = False)
    (_f27 : ((z : Int) ≤ (y : Int)) = False)
    (_f28 : (z ≤ y) = False)
    (_f29 : ((z : Int) == (y : Int)) = false) :
    Calls Try.prog 21 #[.int .u64 (a : Int), .int .u64 (b : Int), .int .u64 (c : Int)] w fun e w' => e = .returned (.int .u64 (Pa : Int)) ∧ w = w' := by
  go_enter Try.func21, Try.ntmps21
  go_wp2_with (first
    | (with_reducible refine (h1 _).mono ?_; rintro e w2 ⟨rfl, rfl⟩)
    | (with_reducible refine (h2 _).mono ?_; rintro e w2 ⟨rfl, rfl⟩)
    | (with_reducible refine (h3 _).mono ?_; rintro e w2 ⟨rfl, rfl⟩)
    | (with_reducible refine (_p1 _).mono ?_; rintro e w2 ⟨rfl, rfl⟩)
    | (with_reducible refine (_p2 _).mono ?_; rintro e w2 ⟨rfl, rfl⟩)
    | (with_reducible refine (_p3 _).mono ?_; rintro e w2 ⟨rfl, rfl⟩))
  go_ret
  exact ⟨rfl, rfl⟩
theorem rmed9 (a b c x z Pa Pb Pc : Nat) (w : World)
    (h1 : ∀ w, Calls Try.prog 30 #[.int .u64 (a : Int)] w fun e w' => e = .returned (.int .u64 (x : Int)) ∧ w = w')
    (h2 : ∀ w, Calls Try.prog 30 #[.int .u64 (b : Int)] w fun e w' => e = .returned (.int .u64 (x : Int)) ∧ w = w')
    (h3 : ∀ w, Calls Try.prog 30 #[.int .u64 (c : Int)] w fun e w' => e = .returned (.int .u64 (z : Int)) ∧ w = w')
    (_p1 : ∀ w, Calls Try.prog 14 #[.int .u64 (a : Int)] w fun e w' => e = .returned (.int .u64 (Pa : Int)) ∧ w = w')
    (_p2 : ∀ w, Calls Try.prog 14 #[.int .u64 (b : Int)] w fun e w' => e = .returned (.int .u64 (Pb : Int)) ∧ w = w')
    (_p3 : ∀ w, Calls Try.prog 14 #[.int .u64 (c : Int)] w fun e w' => e = .returned (.int .u64 (Pc : Int)) ∧ w = w')
    (_f0 : ((x : Int) < (z : Int)) = False)
    (_f1 : (x < z) = False)
    (_f2 : ((x : Int) ≤ (z : Int)) = False)
    (_f3 : (x ≤ z) = False)
    (_f4 : ((x : Int) == (z : Int)) = false)
    (_f5 : ((z : Int) < (x : Int)) = True)
    (_f6 : (z < x) = True)
    (_f7 : ((z : Int) ≤ (x : Int)) = True)
    (_f8 : (z ≤ x) = True)
    (_f9 : ((z : Int) == (x : Int)) = false) :
    Calls Try.prog 21 #[.int .u64 (a : Int), .int .u64 (b : Int), .int .u64 (c : Int)] w fun e w' => e = .returned (.int .u64 (Pa : Int)) ∧ w = w' := by
  go_enter Try.func21, Try.ntmps21
  go_wp2_with (first
    | (with_reducible refine (h1 _).mono ?_; rintro e w2 ⟨rfl, rfl⟩)
    | (with_reducible refine (h2 _).mono ?_; rintro e w2 ⟨rfl, rfl⟩)
    | (with_reducible refine (h3 _).mono ?_; rintro e w2 ⟨rfl, rfl⟩)
    | (with_reducible refine (_p1 _).mono ?_; rintro e w2 ⟨rfl, rfl⟩)
    | (with_reducible refine (_p2 _).mono ?_; rintro e w2 ⟨rfl, rfl⟩)
    | (with_reducible refine (_p3 _).mono ?_; rintro e w2 ⟨rfl, rfl⟩))
  go_ret
  exact ⟨rfl, rfl⟩
theorem rmed10 (a b c x y z Pa Pb Pc : Nat) (w : World)
    (h1 : ∀ w, Calls Try.prog 30 #[.int .u64 (a : Int)] w fun e w' => e = .returned (.int .u64 (x : Int)) ∧ w = w')
    (h2 : ∀ w, Calls Try.prog 30 #[.int .u64 (b : Int)] w fun e w' => e = .returned (.int .u64 (y : Int)) ∧ w = w')
    (h3 : ∀ w, Calls Try.prog 30 #[.int .u64 (c : Int)] w fun e w' => e = .returned (.int .u64 (z : Int)) ∧ w = w')
    (_p1 : ∀ w, Calls Try.prog 14 #[.int .u64 (a : Int)] w fun e w' => e = .returned (.int .u64 (Pa : Int)) ∧ w = w')
    (_p2 : ∀ w, Calls Try.prog 14 #[.int .u64 (b : Int)] w fun e w' => e = .returned (.int .u64 (Pb : Int)) ∧ w = w')
    (_p3 : ∀ w, Calls Try.prog 14 #[.int .u64 (c : Int)] w fun e w' => e = .returned (.int .u64 (Pc : Int)) ∧ w = w')
    (_f0 : ((x : Int) < (y : Int)) = True)
    (_f1 : (x < y) = True)
    (_f2 : ((x : Int) ≤ (y : Int)) = True)
    (_f3 : (x ≤ y) = True)
    (_f4 : ((x : Int) == (y : Int)) = false)
    (_f5 : ((x : Int) < (z : Int)) = False)
    (_f6 : (x < z) = False)
    (_f7 : ((x : Int) ≤ (z : Int)) = False)
    (_f8 : (x ≤ z) = False)
    (_f9 : ((x : Int) == (z : Int)) = false)
    (_f10 : ((y : Int) < (x : Int)) = False)
    (_f11 : (y < x) = False)
    (_f12 : ((y : Int) ≤ (x : Int)) = False)
    (_f13 : (y ≤ x) = False)
    (_f14 : ((y : Int) == (x : Int)) = false)
    (_f15 : ((y : Int) < (z : Int)) = False)
    (_f16 : (y < z) = False)
    (_f17 : ((y : Int) ≤ (z : Int)) = False)
    (_f18 : (y ≤ z) = False)
    (_f19 : ((y : Int) == (z : Int)) = false)
    (_f20 : ((z : Int) < (x : Int)) = True)
    (_f21 : (z < x) = True)
    (_f22 : ((z : Int) ≤ (x : Int)) = True)
    (_f23 : (z ≤ x) = True)
    (_f24 : ((z : Int) == (x : Int)) = false)
    (_f25 : ((z : Int) < (y : Int)) = True)
    (_f26 : (z < y) = True)
    (_f27 : ((z : Int) ≤ (y : Int)) = True)
    (_f28 : (z ≤ y) = True)
    (_f29 : ((z : Int) == (y : Int)) = false) :
    Calls Try.prog 21 #[.int .u64 (a : Int), .int .u64 (b : Int), .int .u64 (c : Int)] w fun e w' => e = .returned (.int .u64 (Pa : Int)) ∧ w = w' := by
  go_enter Try.func21, Try.ntmps21
  go_wp2_with (first
    | (with_reducible refine (h1 _).mono ?_; rintro e w2 ⟨rfl, rfl⟩)
    | (with_reducible refine (h2 _).mono ?_; rintro e w2 ⟨rfl, rfl⟩)
    | (with_reducible refine (h3 _).mono ?_; rintro e w2 ⟨rfl, rfl⟩)
    | (with_reducible refine (_p1 _).mono ?_; rintro e w2 ⟨rfl, rfl⟩)
    | (with_reducible refine (_p2 _).mono ?_; rintro e w2 ⟨rfl, rfl⟩)
    | (with_reducible refine (_p3 _).mono ?_; rintro e w2 ⟨rfl, rfl⟩))
  go_ret
  exact ⟨rfl, rfl⟩
theorem rmed11 (a b c x y z Pa Pb Pc : Nat) (w : World)
    (h1 : ∀ w, Calls Try.prog 30 #[.int .u64 (a : Int)] w fun e w' => e = .returned (.int .u64 (x : Int)) ∧ w = w')
    (h2 : ∀ w, Calls Try.prog 30 #[.int .u64 (b : Int)] w fun e w' => e = .returned (.int .u64 (y : Int)) ∧ w = w')
    (h3 : ∀ w, Calls Try.prog 30 #[.int .u64 (c : Int)] w fun e w' => e = .returned (.int .u64 (z : Int)) ∧ w = w')
    (_p1 : ∀ w, Calls Try.prog 14 #[.int .u64 (a : Int)] w fun e w' => e = .returned (.int .u64 (Pa : Int)) ∧ w = w')
    (_p2 : ∀ w, Calls Try.prog 14 #[.int .u64 (b : Int)] w fun e w' => e = .returned (.int .u64 (Pb : Int)) ∧ w = w')
    (_p3 : ∀ w, Calls Try.prog 14 #[.int .u64 (c : Int)] w fun e w' => e = .returned (.int .u64 (Pc : Int)) ∧ w = w')
    (_f0 : ((x : Int) < (y : Int)) = False)
    (_f1 : (x < y) = False)
    (_f2 : ((x : Int) ≤ (y : Int)) = False)
    (_f3 : (x ≤ y) = False)
    (_f4 : ((x : Int) == (y : Int)) = false)
    (_f5 : ((x : Int) < (z : Int)) = False)
    (_f6 : (x < z) = False)
    (_f7 : ((x : Int) ≤ (z : Int)) = False)
    (_f8 : (x ≤ z) = False)
    (_f9 : ((x : Int) == (z : Int)) = false)
    (_f10 : ((y : Int) < (x : Int)) = True)
    (_f11 : (y < x) = True)
    (_f12 : ((y : Int) ≤ (x : Int)) = True)
    (_f13 : (y ≤ x) = True)
    (_f14 : ((y : Int) == (x : Int)) = false)
    (_f15 : ((y : Int) < (z : Int)) = True)
    (_f16 : (y < z) = True)
    (_f17 : ((y : Int) ≤ (z : Int)) = True)
    (_f18 : (y ≤ z) = True)
    (_f19 : ((y : Int) == (z : Int)) = false)
    (_f20 : ((z : Int) < (x : Int)) = True)
    (_f21 : (z < x) = True)
    (_f22 : ((z : Int) ≤ (x : Int)) = True)
    (_f23 : (z ≤ x) = True)
    (_f24 : ((z : Int) == (x : Int)) = false)
    (_f25 : ((z : Int) < (y : Int)) = False)
    (_f26 : (z < y) = False)
    (_f27 : ((z : Int) ≤ (y : Int)) = False)
    (_f28 : (z ≤ y) = False)
    (_f29 : ((z : Int) == (y : Int)) = false) :
    Calls Try.prog 21 #[.int .u64 (a : Int), .int .u64 (b : Int), .int .u64 (c : Int)] w fun e w' => e = .returned (.int .u64 (Pc : Int)) ∧ w = w' := by
  go_enter Try.func21, Try.ntmps21
  go_wp2_with (first
    | (with_reducible refine (h1 _).mono ?_; rintro e w2 ⟨rfl, rfl⟩)
    | (with_reducible refine (h2 _).mono ?_; rintro e w2 ⟨rfl, rfl⟩)
    | (with_reducible refine (h3 _).mono ?_; rintro e w2 ⟨rfl, rfl⟩)
    | (with_reducible refine (_p1 _).mono ?_; rintro e w2 ⟨rfl, rfl⟩)
    | (with_reducible refine (_p2 _).mono ?_; rintro e w2 ⟨rfl, rfl⟩)
    | (with_reducible refine (_p3 _).mono ?_; rintro e w2 ⟨rfl, rfl⟩))
  go_ret
  exact ⟨rfl, rfl⟩
theorem rmed12 (a b c x y z Pa Pb Pc : Nat) (w : World)
    (h1 : ∀ w, Calls Try.prog 30 #[.int .u64 (a : Int)] w fun e w' => e = .returned (.int .u64 (x : Int)) ∧ w = w')
    (h2 : ∀ w, Calls Try.prog 30 #[.int .u64 (b : Int)] w fun e w' => e = .returned (.int .u64 (y : Int)) ∧ w = w')
    (h3 : ∀ w, Calls Try.prog 30 #[.int .u64 (c : Int)] w fun e w' => e = .returned (.int .u64 (z : Int)) ∧ w = w')
    (_p1 : ∀ w, Calls Try.prog 14 #[.int .u64 (a : Int)] w fun e w' => e = .returned (.int .u64 (Pa : Int)) ∧ w = w')
    (_p2 : ∀ w, Calls Try.prog 14 #[.int .u64 (b : Int)] w fun e w' => e = .returned (.int .u64 (Pb : Int)) ∧ w = w')
    (_p3 : ∀ w, Calls Try.prog 14 #[.int .u64 (c : Int)] w fun e w' => e = .returned (.int .u64 (Pc : Int)) ∧ w = w')
    (_f0 : ((x : Int) < (y : Int)) = False)
    (_f1 : (x < y) = False)
    (_f2 : ((x : Int) ≤ (y : Int)) = False)
    (_f3 : (x ≤ y) = False)
    (_f4 : ((x : Int) == (y : Int)) = false)
    (_f5 : ((x : Int) < (z : Int)) = False)
    (_f6 : (x < z) = False)
    (_f7 : ((x : Int) ≤ (z : Int)) = False)
    (_f8 : (x ≤ z) = False)
    (_f9 : ((x : Int) == (z : Int)) = false)
    (_f10 : ((y : Int) < (x : Int)) = True)
    (_f11 : (y < x) = True)
    (_f12 : ((y : Int) ≤ (x : Int)) = True)
    (_f13 : (y ≤ x) = True)
    (_f14 : ((y : Int) == (x : Int)) = false)
    (_f15 : ((y : Int) < (z : Int)) = False)
    (_f16 : (y < z) = False)
    (_f17 : ((y : Int) ≤ (z : Int)) = False)
    (_f18 : (y ≤ z) = False)
    (_f19 : ((y : Int) == (z : Int)) = false)
    (_f20 : ((z : Int) < (x : Int)) = True)
    (_f21 : (z < x) = True)
    (_f22 : ((z : Int) ≤ (x : Int)) = True)
    (_f23 : (z ≤ x) = True)
    (_f24 : ((z : Int) == (x : Int)) = false)
    (_f25 : ((z : Int) < (y : Int)) = True)
    (_f26 : (z < y) = True)
    (_f27 : ((z : Int) ≤ (y : Int)) = True)
    (_f28 : (z ≤ y) = True)
    (_f29 : ((z : Int) == (y : Int)) = false) :
    Calls Try.prog 21 #[.int .u64 (a : Int), .int .u64 (b : Int), .int .u64 (c : Int)] w fun e w' => e = .returned (.int .u64 (Pb : Int)) ∧ w = w' := by
  go_enter Try.func21, Try.ntmps21
  go_wp2_with (first
    | (with_reducible refine (h1 _).mono ?_; rintro e w2 ⟨rfl, rfl⟩)
    | (with_reducible refine (h2 _).mono ?_; rintro e w2 ⟨rfl, rfl⟩)
    | (with_reducible refine (h3 _).mono ?_; rintro e w2 ⟨rfl, rfl⟩)
    | (with_reducible refine (_p1 _).mono ?_; rintro e w2 ⟨rfl, rfl⟩)
    | (with_reducible refine (_p2 _).mono ?_; rintro e w2 ⟨rfl, rfl⟩)
    | (with_reducible refine (_p3 _).mono ?_; rintro e w2 ⟨rfl, rfl⟩))
  go_ret
  exact ⟨rfl, rfl⟩

theorem rMedian_any (a b c : Nat) (w : World) (ha : a < 18446744073709551616) (hb : b < 18446744073709551616) (hc : c < 18446744073709551616) :
    Calls Try.prog 21 #[.int .u64 (a : Int), .int .u64 (b : Int), .int .u64 (c : Int)] w fun e w' => e = .returned (.int .u64 (medW a b c : Nat)) ∧ w = w' := by
  have h1 := fun W => rank_any a W ha
  have h2 := fun W => rank_any b W hb
  have h3 := fun W => rank_any c W hc
  have p1 := fun W => rPlain_any a W ha
  have p2 := fun W => rPlain_any b W hb
  have p3 := fun W => rPlain_any c W hc
  have m1 : rankW a = midN (rankW a) (rankW b) (rankW c) → medW a b c = plainW a := fun h => medW_eq ha hb hc ha h
  have m2 : rankW b = midN (rankW a) (rankW b) (rankW c) → medW a b c = plainW b := fun h => medW_eq ha hb hc hb h
  have m3 : rankW c = midN (rankW a) (rankW b) (rankW c) → medW a b c = plainW c := fun h => medW_eq ha hb hc hc h
  generalize rankW a = x at *
  generalize rankW b = y at *
  generalize rankW c = z at *
  unfold midN at m1 m2 m3
  rcases Nat.lt_trichotomy x y with h | rfl | h
  · rcases Nat.lt_trichotomy y z with g | rfl | g
    · rw [m2 (by omega)]
      exact rmed4 a b c _ _ _ _ _ _ w h1 h2 h3 p1 p2 p3 (by first | exact eq_true (by omega) | exact eq_false (by omega) | (simp; omega)) (by first | exact eq_true (by omega) | exact eq_false (by omega) | (simp; omega)) (by first | exact eq_true (by omega) | exact eq_false (by omega) | (simp; omega)) (by first | exact eq_true (by omega) | exact eq_false (by omega) | (simp; omega)) (by first | exact eq_true (by omega) | exact eq_false (by omega) | (simp; omega)) (by first | exact eq_true (by omega) | exact eq_false (by omega) | (simp; omega)) (by first | exact eq_true (by omega) | exact eq_false (by omega) | (simp; omega)) (by first | exact eq_true (by omega) | exact eq_false (by omega) | (simp; omega)) (by first | exact eq_true (by omega) | exact eq_false (by omega) | (simp; omega)) (by first | exact eq_true (by omega) | exact eq_false (by omega) | (simp; omega)) (by first | exact eq_true (by omega) | exact eq_false (by omega) | (simp; omega)) (by first | exact eq_true (by omega) | exact eq_false (by omega) | (simp; omega)) (by first | exact eq_true (by omega) | exact eq_false (by omega) | (simp; omega)) (by first | exact eq_true (by omega) | exact eq_false (by omega) | (simp; omega)) (by first | exact eq_true (by omega) | exact eq_false (by omega) | (simp; omega)) (by first | exact eq_true (by omega) | exact eq_false (by omega) | (simp; omega)) (by first | exact eq_true (by omega) | exact eq_false (by omega) | (simp; omega)) (by first | exact eq_true (by omega) | exact eq_false (by omega) | (simp; omega)) (by first | exact eq_true (by omega) | exact eq_false (by omega) | (simp; omega)) (by first | exact eq_true (by omega) | exact eq_false (by omega) | (simp; omega)) (by first | exact eq_true (by omega) | exact eq_false (by omega) | (simp; omega)) (by first | exact eq_true (by omega) | exact eq_false (by omega) | (simp; omega)) (by first | exact eq_true (by omega) | exact eq_false (by omega) | (simp; omega)) (by first | exact eq_true (by omega) | exact eq_false (by omega) | (simp; omega)) (by first | exact eq_true (by omega) | exact eq_false (by omega) | (simp; omega)) (by first | exact eq_true (by omega) | exact eq_false (by omega) | (simp; omega)) (by first | exact eq_true (by omega) | exact eq_false (by omega) | (simp; omega)) (by first | exact eq_true (by omega) | exact eq_false (by omega) | (simp; omega)) (by first | exact eq_true (by omega) | exact eq_false (by omega) | (simp; omega)) (by first | exact eq_true (by omega) | exact eq_false (by omega) | (simp; omega))
    · rw [m2 (by omega)]
      exact rmed3 a b c _ _ _ _ _ w h1 h2 h3 p1 p2 p3 (by first | exact eq_true (by omega) | exact eq_false (by omega) | (simp; omega)) (by first | exact eq_true (by omega) | exact eq_false (by omega) | (simp; omega)) (by first | exact eq_true (by omega) | exact eq_false (by omega) | (simp; omega)) (by first | exact eq_true (by omega) | exact eq_false (by omega) | (simp; omega)) (by first | exact eq_true (by omega) | exact eq_false (by omega) | (simp; omega)) (by first | exact eq_true (by omega) | exact eq_false (by omega) | (simp; omega)) (by first | exact eq_true (by omega) | exact eq_false (by omega) | (simp; omega)) (by first | exact eq_true (by omega) | exact eq_false (by omega) | (simp; omega)) (by first | exact eq_true (by omega) | exact eq_false (by omega) | (simp; omega)) (by first | exact eq_true (by omega) | exact eq_false (by omega) | (simp; omega))
    · rcases Nat.lt_trichotomy x z with k | rfl | k
      · rw [m3 (by omega)]
        exact rmed5 a b c _ _ _ _ _ _ w h1 h2 h3 p1 p2 p3 (by first | exact eq_true (by omega) | exact eq_false (by omega) | (simp; omega)) (by first | exact eq_true (by omega) | exact eq_false (by omega) | (simp; omega)) (by first | exact eq_true (by omega) | exact eq_false (by omega) | (simp; omega)) (by first | exact eq_true (by omega) | exact eq_false (by omega) | (simp; omega)) (by first | exact eq_true (by omega) | exact eq_false (by omega) | (simp; omega)) (by first | exact eq_true (by omega) | exact eq_false (by omega) | (simp; omega)) (by first | exact eq_true (by omega) | exact eq_false (by omega) | (simp; omega)) (by first | exact eq_true (by omega) | exact eq_false (by omega) | (simp; omega)) (by first | exact eq_true (by omega) | exact eq_false (by omega) | (simp; omega)) (by first | exact eq_true (by omega) | exact eq_false (by omega) | (simp; omega)) (by first | exact eq_true (by omega) | exact eq_false (by omega) | (simp; omega)) (by first | exact eq_true (by omega) | exact eq_false (by omega) | (simp; omega)) (by first | exact eq_true (by omega) | exact eq_false (by omega) | (simp; omega)) (by first | exact eq_true (by omega) | exact eq_false (by omega) | (simp; omega)) (by first | exact eq_true (by omega) | exact eq_false (by omega) | (simp; omega)) (by first | exact eq_true (by omega) | exact eq_false (by omega) | (simp; omega)) (by first | exact eq_true (by omega) | exact eq_false (by omega) | (simp; omega)) (by first | exact eq_true (by omega) | exact eq_false (by omega) | (simp; omega)) (by first | exact eq_true (by omega) | exact eq_false (by omega) | (simp; omega)) (by first | exact eq_true (by omega) | exact eq_false (by omega) | (simp; omega)) (by first | exact eq_true (by omega) | exact eq_false (by omega) | (simp; omega)) (by first | exact eq_true (by omega) | exact eq_false (by omega) | (simp; omega)) (by first | exact eq_true (by omega) | exact eq_false (by omega) | (simp; omega)) (by first | exact eq_true (by omega) | exact eq_false (by omega) | (simp; omega)) (by first | exact eq_true (by omega) | exact eq_false (by omega) | (simp; omega)) (by first | exact eq_true (by omega) | exact eq_false (by omega) | (simp; omega)) (by first | exact eq_true (by omega) | exact eq_false (by omega) | (simp; omega)) (by first | exact eq_true (by omega) | exact eq_false (by omega) | (simp; omega)) (by first | exact eq_true (by omega) | exact eq_false (by omega) | (simp; omega)) (by first | exact eq_true (by omega) | exact eq_false (by omega) | (simp; omega))
      · rw [m1 (by omega)]
        exact rmed2 a b c _ _ _ _ _ w h1 h2 h3 p1 p2 p3 (by first | exact eq_true (by omega) | exact eq_false (by omega) | (simp; omega)) (by first | exact eq_true (by omega) | exact eq_false (by omega) | (simp; omega)) (by first | exact eq_true (by omega) | exact eq_false (by omega) | (simp; omega)) (by first | exact eq_true (by omega) | exact eq_false (by omega) | (simp; omega)) (by first | exact eq_true (by omega) | exact eq_false (by omega) | (simp; omega)) (by first | exact eq_true (by omega) | exact eq_false (by omega) | (simp; omega)) (by first | exact eq_true (by omega) | exact eq_false (by omega) | (simp; omega)) (by first | exact eq_true (by omega) | exact eq_false (by omega) | (simp; omega)) (by first | exact eq_true (by omega) | exact eq_false (by omega) | (simp; omega)) (by first | exact eq_true (by omega) | exact eq_false (by omega) | (simp; omega))
      · rw [m1 (by omega)]
        exact rmed10 a b c _ _ _ _ _ _ w h1 h2 h3 p1 p2 p3 (by first | exact eq_true (by omega) | exact eq_false (by omega) | (simp; omega)) (by first | exact eq_true (by omega) | exact eq_false (by omega) | (simp; omega)) (by first | exact eq_true (by omega) | exact eq_false (by omega) | (simp; omega)) (by first | exact eq_true (by omega) | exact eq_false (by omega) | (simp; omega)) (by first | exact eq_true (by omega) | exact eq_false (by omega) | (simp; omega)) (by first | exact eq_true (by omega) | exact eq_false (by omega) | (simp; omega)) (by first | exact eq_true (by omega) | exact eq_false (by omega) | (simp; omega)) (by first | exact eq_true (by omega) | exact eq_false (by omega) | (simp; omega)) (by first | exact eq_true (by omega) | exact eq_false (by omega) | (simp; omega)) (by first | exact eq_true (by omega) | exact eq_false (by omega) | (simp; omega)) (by first | exact eq_true (by omega) | exact eq_false (by omega) | (simp; omega)) (by first | exact eq_true (by omega) | exact eq_false (by omega) | (simp; omega)) (by first | exact eq_true (by omega) | exact eq_false (by omega) | (simp; omega)) (by first | exact eq_true (by omega) | exact eq_false (by omega) | (simp; omega)) (by first | exact eq_true (by omega) | exact eq_false (by omega) | (simp; omega)) (by first | exact eq_true (by omega) | exact eq_false (by omega) | (simp; omega)) (by first | exact eq_true (by omega) | exact eq_false (by omega) | (simp; omega)) (by first | exact eq_true (by omega) | exact eq_false (by omega) | (simp; omega)) (by first | exact eq_true (by omega) | exact eq_false (by omega) | (simp; omega)) (by first | exact eq_true (by omega) | exact eq_false (by omega) | (simp; omega)) (by first | exact eq_true (by omega) | exact eq_false (by omega) | (simp; omega)) (by first | exact eq_true (by omega) | exact eq_false (by omega) | (simp; omega)) (by first | exact eq_true (by omega) | exact eq_false (by omega) | (simp; omega)) (by first | exact eq_true (by omega) | exact eq_false (by omega) | (simp; omega)) (by first | exact eq_true (by omega) | exact eq_false (by omega) | (simp; omega)) (by first | exact eq_true (by omega) | exact eq_false (by omega) | (simp; omega)) (by first | exact eq_true (by omega) | exact eq_false (by omega) | (simp; omega)) (by first | exact eq_true (by omega) | exact eq_false (by omega) | (simp; omega)) (by first | exact eq_true (by omega) | exact eq_false (by omega) | (simp; omega)) (by first | exact eq_true (by omega) | exact eq_false (by omega) | (simp; omega))
  · rcases Nat.lt_trichotomy x z with g | rfl | g
    · rw [m1 (by omega)]
      exact rmed1 a b c _ _ _ _ _ w h1 h2 h3 p1 p2 p3 (by first | exact eq_true (by omega) | exact eq_false (by omega) | (simp; omega)) (by first | exact eq_true (by omega) | exact eq_false (by omega) | (simp; omega)) (by first | exact eq_true (by omega) | exact eq_false (by omega) | (simp; omega)) (by first | exact eq_true (by omega) | exact eq_false (by omega) | (simp; omega)) (by first | exact eq_true (by omega) | exact eq_false (by omega) | (simp; omega)) (by first | exact eq_true (by omega) | exact eq_false (by omega) | (simp; omega)) (by first | exact eq_true (by omega) | exact eq_false (by omega) | (simp; omega)) (by first | exact eq_true (by omega) | exact eq_false (by omega) | (simp; omega)) (by first | exact eq_true (by omega) | exact eq_false (by omega) | (simp; omega)) (by first | exact eq_true (by omega) | exact eq_false (by omega) | (simp; omega))
    · rw [m1 (by omega)]
      exact rmed0 a b c _ _ _ _ w h1 h2 h3 p1 p2 p3
    · rw [m1 (by omega)]
      exact rmed9 a b c _ _ _ _ _ w h1 h2 h3 p1 p2 p3 (by first | exact eq_true (by omega) | exact eq_false (by omega) | (simp; omega)) (by first | exact eq_true (by omega) | exact eq_false (by omega) | (simp; omega)) (by first | exact eq_true (by omega) | exact eq_false (by omega) | (simp; omega)) (by first | exact eq_true (by omega) | exact eq_false (by omega) | (simp; omega)) (by first | exact eq_true (by omega) | exact eq_false (by omega) | (simp; omega)) (by first | exact eq_true (by omega) | exact eq_false (by omega) | (simp; omega)) (by first | exact eq_true (by omega) | exact eq_false (by omega) | (simp; omega)) (by first | exact eq_true (by omega) | exact eq_false (by omega) | (simp; omega)) (by first | exact eq_true (by omega) | exact eq_false (by omega) | (simp; omega)) (by first | exact eq_true (by omega) | exact eq_false (by omega) | (simp; omega))
  · rcases Nat.lt_trichotomy x z with g | rfl | g
    · rw [m1 (by omega)]
      exact rmed8 a b c _ _ _ _ _ _ w h1 h2 h3 p1 p2 p3 (by first | exact eq_true (by omega) | exact eq_false (by omega) | (simp; omega)) (by first | exact eq_true (by omega) | exact eq_false (by omega) | (simp; omega)) (by first | exact eq_true (by omega) | exact eq_false (by omega) | (simp; omega)) (by first | exact eq_true (by omega) | exact eq_false (by omega) | (simp; omega)) (by first | exact eq_true (by omega) | exact eq_false (by omega) | (simp; omega)) (by first | exact eq_true (by omega) | exact eq_false (by omega) | (simp; omega)) (by first | exact eq_true (by omega) | exact eq_false (by omega) | (simp; omega)) (by first | exact eq_true (by omega) | exact eq_false (by omega) | (simp; omega)) (by first | exact eq_true (by omega) | exact eq_false (by omega) | (simp; omega)) (by first | exact eq_true (by omega) | exact eq_false (by omega) | (simp; omega)) (by first | exact eq_true (by omega) | exact eq_false (by omega) | (simp; omega)) (by first | exact eq_true (by omega) | exact eq_false (by omega) | (simp; omega)) (by first | exact eq_true (by omega) | exact eq_false (by omega) | (simp; omega)) (by first | exact eq_true (by omega) | exact eq_false (by omega) | (simp; omega)) (by first | exact eq_true (by omega) | exact eq_false (by omega) | (simp; omega)) (by first | exact eq_true (by omega) | exact eq_false (by omega) | (simp; omega)) (by first | exact eq_true (by omega) | exact eq_false (by omega) | (simp; omega)) (by first | exact eq_true (by omega) | exact eq_false (by omega) | (simp; omega)) (by first | exact eq_true (by omega) | exact eq_false (by omega) | (simp; omega)) (by first | exact eq_true (by omega) | exact eq_false (by omega) | (simp; omega)) (by first | exact eq_true (by omega) | exact eq_false (by omega) | (simp; omega)) (by first | exact eq_true (by omega) | exact eq_false (by omega) | (simp; omega)) (by first | exact eq_true (by omega) | exact eq_false (by omega) | (simp; omega)) (by first | exact eq_true (by omega) | exact eq_false (by omega) | (simp; omega)) (by first | exact eq_true (by omega) | exact eq_false (by omega) | (simp; omega)) (by first | exact eq_true (by omega) | exact eq_false (by omega) | (simp; omega)) (by first | exact eq_true (by omega) | exact eq_false (by omega) | (simp; omega)) (by first | exact eq_true (by omega) | exact eq_false (by omega) | (simp; omega)) (by first | exact eq_true (by omega) | exact eq_false (by omega) | (simp; omega)) (by first | exact eq_true (by omega) | exact eq_false (by omega) | (simp; omega))
    · rw [m1 (by omega)]
      exact rmed7 a b c _ _ _ _ _ w h1 h2 h3 p1 p2 p3 (by first | exact eq_true (by omega) | exact eq_false (by omega) | (simp; omega)) (by first | exact eq_true (by omega) | exact eq_false (by omega) | (simp; omega)) (by first | exact eq_true (by omega) | exact eq_false (by omega) | (simp; omega)) (by first | exact eq_true (by omega) | exact eq_false (by omega) | (simp; omega)) (by first | exact eq_true (by omega) | exact eq_false (by omega) | (simp; omega)) (by first | exact eq_true (by omega) | exact eq_false (by omega) | (simp; omega)) (by first | exact eq_true (by omega) | exact eq_false (by omega) | (simp; omega)) (by first | exact eq_true (by omega) | exact eq_false (by omega) | (simp; omega)) (by first | exact eq_true (by omega) | exact eq_false (by omega) | (simp; omega)) (by first | exact eq_true (by omega) | exact eq_false (by omega) | (simp; omega))
    · rcases Nat.lt_trichotomy y z with k | rfl | k
      · rw [m3 (by omega)]
        exact rmed11 a b c _ _ _ _ _ _ w h1 h2 h3 p1 p2 p3 (by first | exact eq_true (by omega) | exact eq_false (by omega) | (simp; omega)) (by first | exact eq_true (by omega) | exact eq_false (by omega) | (simp; omega)) (by first | exact eq_true (by omega) | exact eq_false (by omega) | (simp; omega)) (by first | exact eq_true (by omega) | exact eq_false (by omega) | (simp; omega)) (by first | exact eq_true (by omega) | exact eq_false (by omega) | (simp; omega)) (by first | exact eq_true (by omega) | exact eq_false (by omega) | (simp; omega)) (by first | exact eq_true (by omega) | exact eq_false (by omega) | (simp; omega)) (by first | exact eq_true (by omega) | exact eq_false (by omega) | (simp; omega)) (by first | exact eq_true (by omega) | exact eq_false (by omega) | (simp; omega)) (by first | exact eq_true (by omega) | exact eq_false (by omega) | (simp; omega)) (by first | exact eq_true (by omega) | exact eq_false (by omega) | (simp; omega)) (by first | exact eq_true (by omega) | exact eq_false (by omega) | (simp; omega)) (by first | exact eq_true (by omega) | exact eq_false (by omega) | (simp; omega)) (by first | exact eq_true (by omega) | exact eq_false (by omega) | (simp; omega)) (by first | exact eq_true (by omega) | exact eq_false (by omega) | (simp; omega)) (by first | exact eq_true (by omega) | exact eq_false (by omega) | (simp; omega)) (by first | exact eq_true (by omega) | exact eq_false (by omega) | (simp; omega)) (by first | exact eq_true (by omega) | exact eq_false (by omega) | (simp; omega)) (by first | exact eq_true (by omega) | exact eq_false (by omega) | (simp; omega)) (by first | exact eq_true (by omega) | exact eq_false (by omega) | (simp; omega)) (by first | exact eq_true (by omega) | exact eq_false (by omega) | (simp; omega)) (by first | exact eq_true (by omega) | exact eq_false (by omega) | (simp; omega)) (by first | exact eq_true (by omega) | exact eq_false (by omega) | (simp; omega)) (by first | exact eq_true (by omega) | exact eq_false (by omega) | (simp; omega)) (by first | exact eq_true (by omega) | exact eq_false (by omega) | (simp; omega)) (by first | exact eq_true (by omega) | exact eq_false (by omega) | (simp; omega)) (by first | exact eq_true (by omega) | exact eq_false (by omega) | (simp; omega)) (by first | exact eq_true (by omega) | exact eq_false (by omega) | (simp; omega)) (by first | exact eq_true (by omega) | exact eq_false (by omega) | (simp; omega)) (by first | exact eq_true (by omega) | exact eq_false (by omega) | (simp; omega))
      · rw [m2 (by omega)]
        exact rmed6 a b c _ _ _ _ _ w h1 h2 h3 p1 p2 p3 (by first | exact eq_true (by omega) | exact eq_false (by omega) | (simp; omega)) (by first | exact eq_true (by omega) | exact eq_false (by omega) | (simp; omega)) (by first | exact eq_true (by omega) | exact eq_false (by omega) | (simp; omega)) (by first | exact eq_true (by omega) | exact eq_false (by omega) | (simp; omega)) (by first | exact eq_true (by omega) | exact eq_false (by omega) | (simp; omega)) (by first | exact eq_true (by omega) | exact eq_false (by omega) | (simp; omega)) (by first | exact eq_true (by omega) | exact eq_false (by omega) | (simp; omega)) (by first | exact eq_true (by omega) | exact eq_false (by omega) | (simp; omega)) (by first | exact eq_true (by omega) | exact eq_false (by omega) | (simp; omega)) (by first | exact eq_true (by omega) | exact eq_false (by omega) | (simp; omega))
      · rw [m2 (by omega)]
        exact rmed12 a b c _ _ _ _ _ _ w h1 h2 h3 p1 p2 p3 (by first | exact eq_true (by omega) | exact eq_false (by omega) | (simp; omega)) (by first | exact eq_true (by omega) | exact eq_false (by omega) | (simp; omega)) (by first | exact eq_true (by omega) | exact eq_false (by omega) | (simp; omega)) (by first | exact eq_true (by omega) | exact eq_false (by omega) | (simp; omega)) (by first | exact eq_true (by omega) | exact eq_false (by omega) | (simp; omega)) (by first | exact eq_true (by omega) | exact eq_false (by omega) | (simp; omega)) (by first | exact eq_true (by omega) | exact eq_false (by omega) | (simp; omega)) (by first | exact eq_true (by omega) | exact eq_false (by omega) | (simp; omega)) (by first | exact eq_true (by omega) | exact eq_false (by omega) | (simp; omega)) (by first | exact eq_true (by omega) | exact eq_false (by omega) | (simp; omega)) (by first | exact eq_true (by omega) | exact eq_false (by omega) | (simp; omega)) (by first | exact eq_true (by omega) | exact eq_false (by omega) | (simp; omega)) (by first | exact eq_true (by omega) | exact eq_false (by omega) | (simp; omega)) (by first | exact eq_true (by omega) | exact eq_false (by omega) | (simp; omega)) (by first | exact eq_true (by omega) | exact eq_false (by omega) | (simp; omega)) (by first | exact eq_true (by omega) | exact eq_false (by omega) | (simp; omega)) (by first | exact eq_true (by omega) | exact eq_false (by omega) | (simp; omega)) (by first | exact eq_true (by omega) | exact eq_false (by omega) | (simp; omega)) (by first | exact eq_true (by omega) | exact eq_false (by omega) | (simp; omega)) (by first | exact eq_true (by omega) | exact eq_false (by omega) | (simp; omega)) (by first | exact eq_true (by omega) | exact eq_false (by omega) | (simp; omega)) (by first | exact eq_true (by omega) | exact eq_false (by omega) | (simp; omega)) (by first | exact eq_true (by omega) | exact eq_false (by omega) | (simp; omega)) (by first | exact eq_true (by omega) | exact eq_false (by omega) | (simp; omega)) (by first | exact eq_true (by omega) | exact eq_false (by omega) | (simp; omega)) (by first | exact eq_true (by omega) | exact eq_false (by omega) | (simp; omega)) (by first | exact eq_true (by omega) | exact eq_false (by omega) | (simp; omega)) (by first | exact eq_true (by omega) | exact eq_false (by omega) | (simp; omega)) (by first | exact eq_true (by omega) | exact eq_false (by omega) | (simp; omega)) (by first | exact eq_true (by omega) | exact eq_false (by omega) | (simp; omega))

theorem ceilD_split (m d : Nat) (hd : 0 < d) : ceilD m d = if m / d * d < m then m / d + 1 else m / d := by
  have h1 := Nat.div_add_mod m d
  have h2 := Nat.mod_lt m hd
  rw [Nat.mul_comm] at h1
  split
  · apply Nat.le_antisymm
    · rw [ceilD_le hd, Nat.add_mul, Nat.one_mul]; omega
    · rcases Nat.lt_or_ge (m / d) (ceilD m d) with g | g
      · exact g
      · have := (ceilD_le (n := m) hd).1 g; omega
  · apply Nat.le_antisymm
    · rw [ceilD_le hd]; omega
    · have := (ceilD_le (n := m) hd).1 (Nat.le_refl _)
      have e : m / d * d = m := by omega
      rw [← e] at this
      exact Nat.le_of_mul_le_mul_right (by rw [e] at this ⊢; exact this) hd
theorem rank_pos {w : Nat} (h0 : 0 < w) (h1 : w < 9223372036854775808) (hn : nanW w = false) : rankW w = 9223372036854775808 + w := by
  simp only [nanW, decide_eq_false_iff_not] at hn
  unfold rankW plainW
  rw [if_neg hn]
  split <;> split <;> omega
theorem ticks_high {w : Nat} (h0 : w < 9223372036854775808) (hn : nanW w = false) (h1 : 1063 ≤ w / 4503599627370496) : ticksW w = 1099511627776 := by
  rcases ticks_cases (by omega) hn with ⟨h, h2⟩ | ⟨-, h2, h3, h4⟩ | ⟨-, h2, h3⟩
  · rw [rank_pos (by omega) (by omega) hn] at h
    omega
  · obtain rfl : w = 4787326403894837248 := by omega
    rw [h4, valN_tick, ceilD_whole]
  · exact h3
theorem ticks_one {w : Nat} (h0 : 0 < w) (hn : nanW w = false) (h1 : w / 4503599627370496 < 1023) : ticksW w = 1 := by
  have hU := U_pos
  rcases ticks_cases (by omega) hn with ⟨h, h2⟩ | ⟨-, h2, h3, h4⟩ | ⟨-, h2, h3⟩
  · rw [rank_pos (by omega) (by omega) hn] at h
    omega
  · rw [h4]
    have a1 := ceilD_pos hU (valN_pos h2)
    have a2 : ceilD (valN w) U ≤ 1 := by
      rw [ceilD_le hU, Nat.one_mul]
      have e : valN ((1022 + 1) * 4503599627370496 + 0) = (4503599627370496 + 0) * pw 1022 := valN_of 1022 (by decide)
      have e2 : U = pw 52 * pw 1022 := pw_add 52 1022
      have e4 : pw 52 = 4503599627370496 := by rfl
      rw [e2, e4]
      have e3 : valN w ≤ valN ((1022 + 1) * 4503599627370496 + 0) := valN_le_iff.2 (by omega)
      rw [e, Nat.add_zero] at e3
      exact e3
    omega
  · omega
theorem ticks_mid {w : Nat} (h0 : 1023 ≤ w / 4503599627370496) (h1 : w / 4503599627370496 ≤ 1062) : ticksW w = ceilD (4503599627370496 + w % 4503599627370496) (2 ^ (52 - (w / 4503599627370496 - 1023))) := by
  have hn : nanW w = false := by simp [nanW]; omega
  rcases ticks_cases (w := w) (by omega) hn with ⟨h, h2⟩ | ⟨-, h2, h3, h4⟩ | ⟨-, h2, h3⟩
  · rw [rank_pos (by omega) (by omega) hn] at h
    omega
  · rw [h4]
    have e : w = (w / 4503599627370496 - 1 + 1) * 4503599627370496 + w % 4503599627370496 := by omega
    have e2 : valN w = (4503599627370496 + w % 4503599627370496) * 2 ^ (w / 4503599627370496 - 1) := by
      have := valN_of (w / 4503599627370496 - 1) (f := w % 4503599627370496) (by omega)
      rw [← e] at this
      exact this
    rw [e2, U_eq (i := 52 - (w / 4503599627370496 - 1023)) (j := w / 4503599627370496 - 1) (by omega), ceilD_mul (Nat.two_pow_pos _) (Nat.two_pow_pos _)]
  · omega

set_option maxHeartbeats 1000000 in
theorem rTicks_any (x : Nat) (W : World) (hx : x < 18446744073709551616) :
    Calls Try.prog 12 #[.int .u64 (x : Int)] W fun e w' => e = .returned (.tuple #[.int .i64 (ticksW x : Nat), .int .i64 (ticksE x)]) ∧ W = w' := by
  have hs := fun W => size_any x W hx
  cases hn : nanW x
  · have hn' := hn
    simp only [nanW, decide_eq_false_iff_not] at hn'
    have HE : Hid (ticksE x = 0) := by show _ = _; unfold ticksE; rw [hn]; rfl
    by_cases z : 9223372036854775808 ≤ x ∨ x = 0
    · have HW : Hid (ticksW x = 0) := by show _ = _; unfold ticksW; rw [hn, if_neg (by simp), if_pos z]
      generalize x % 9223372036854775808 = r at *
      have f1 : (9218868437227405312 < (r : Int)) = False := eq_false (by omega)
      have f1' : (9218868437227405312 < r) = False := eq_false (by omega)
      by_cases z1 : 9223372036854775808 ≤ x
      · have f2 : (9223372036854775808 ≤ (x : Int)) = True := eq_true (by omega)
        clear z z1 hn hn'
        go_enter Try.func12, Try.ntmps12
        go_wp2_with (first
          | (with_reducible refine (hs _).mono ?_; rintro e w2 ⟨rfl, rfl⟩))
        go_ret2
        exact ⟨by rw [HW.out, HE.out]; rfl, rfl⟩
      · obtain rfl : x = 0 := by omega
        clear z z1 hn hn'
        have hs0 : ∀ W, Calls Try.prog 27 #[.int .u64 0] W fun e w' => e = .returned (.int .u64 (r : Int)) ∧ W = w' := hs
        have H0 : Hid (((0 : Nat) : Int) = 0) := rfl
        show Calls Try.prog 12 #[.int .u64 0] W _
        go_enter Try.func12, Try.ntmps12
        go_wp2_with (first
          | (with_reducible refine (hs0 _).mono ?_; rintro e w2 ⟨rfl, rfl⟩))
        go_ret2
        exact ⟨by rw [HW.out, HE.out]; rfl, rfl⟩
    · have hr : x % 9223372036854775808 = x := by omega
      rw [hr] at hs hn'
      have f1 : (9218868437227405312 < (x : Int)) = False := eq_false (by omega)
      have f1' : (9218868437227405312 < x) = False := eq_false (by omega)
      have f2 : (9223372036854775808 ≤ (x : Int)) = False := eq_false (by omega)
      have f2' : (9223372036854775808 ≤ x) = False := eq_false (by omega)
      have f3 : ((x : Int) == 0) = false := by simp; omega
      have hx63 : x < 9223372036854775808 := by omega
      have f4 : (x : Int) / 4503599627370496 = ((x / 4503599627370496 : Nat) : Int) := by omega
      have t1 := ticks_high hx63 hn
      have t2 := ticks_one (w := x) (by omega) hn
      have t3 := @ticks_mid x
      have f0 : 4503599627370496 + (x : Int) % 4503599627370496 = ((4503599627370496 + x % 4503599627370496 : Nat) : Int) := by omega
      have hm : 4503599627370496 + x % 4503599627370496 < 9007199254740992 := by omega
      have hT : x / 4503599627370496 ≤ 2047 := by omega
      have H9 := Lib.hid hx63
      clear hr hn hn' z hx
      generalize 4503599627370496 + x % 4503599627370496 = m at *
      generalize x / 4503599627370496 = T at *
      by_cases c1 : 1063 ≤ T
      · have HW := Lib.hid (t1 c1)
        have f5 : (40 ≤ (T : Int) - 1023) = True := eq_true (by omega)
        clear t1 t2 t3 c1
        go_enter Try.func12, Try.ntmps12
        go_wp2_with (first
          | (with_reducible refine (hs _).mono ?_; rintro e w2 ⟨rfl, rfl⟩))
        go_ret2
        exact ⟨by rw [HW.out, HE.out]; rfl, rfl⟩
      · by_cases c2 : T < 1023
        · have HW := Lib.hid (t2 c2)
          have f5 : (40 ≤ (T : Int) - 1023) = False := eq_false (by omega)
          have f6 : ((T : Int) - 1023 < 0) = True := eq_true (by omega)
          clear t1 t2 t3 c1 c2
          go_enter Try.func12, Try.ntmps12
          go_wp2_with (first
            | (with_reducible refine (hs _).mono ?_; rintro e w2 ⟨rfl, rfl⟩))
          go_ret2
          exact ⟨by rw [HW.out, HE.out]; rfl, rfl⟩
        · have h3 := t3 (by omega) (by omega)
          have f5 : (40 ≤ (T : Int) - 1023) = False := eq_false (by omega)
          have f6 : ((T : Int) - 1023 < 0) = False := eq_false (by omega)
          have hpos : 0 < 2 ^ (52 - (T - 1023)) := Nat.two_pow_pos _
          rw [ceilD_split _ _ hpos] at h3
          have hlow : 2 ^ 13 ≤ 2 ^ (52 - (T - 1023)) := Nat.pow_le_pow_right (by omega) (by omega)
          have p1 : ((2 : Int) ^ (52 - (T - 1023))) = ((2 ^ (52 - (T - 1023)) : Nat) : Int) := by rw [Int.natCast_pow]; rfl
          have g1 : (m : Int) / 2 ^ (52 - (T - 1023)) = ((m / 2 ^ (52 - (T - 1023)) : Nat) : Int) := by rw [p1, Int.natCast_ediv]
          have hq : m / 2 ^ (52 - (T - 1023)) ≤ 1099511627776 := by
            have a : m / 2 ^ (52 - (T - 1023)) ≤ m / 2 ^ 13 := Nat.div_le_div_left hlow (by decide)
            have b : m / 2 ^ 13 ≤ 1099511627776 := by omega
            exact Nat.le_trans a b
          have hG : m / 2 ^ (52 - (T - 1023)) * 2 ^ (52 - (T - 1023)) ≤ m := Nat.div_mul_le_self _ _
          have g2 : IntKind.u64.wrap (((m / 2 ^ (52 - (T - 1023)) : Nat) : Int) * 2 ^ (52 - (T - 1023))) = ((m / 2 ^ (52 - (T - 1023)) * 2 ^ (52 - (T - 1023)) : Nat) : Int) := by
            rw [p1, ← Int.natCast_mul]
            exact wrap_u64_nat (by omega)
          clear t1 t2 t3 p1 hlow
          generalize m / 2 ^ (52 - (T - 1023)) * 2 ^ (52 - (T - 1023)) = G at *
          generalize m / 2 ^ (52 - (T - 1023)) = q at *
          by_cases c3 : G < m
          · rw [if_pos c3] at h3
            have HW := Lib.hid h3
            have g3 : ((G : Int) < (m : Int)) = True := eq_true (by omega)
            have g3' : (G < m) = True := eq_true c3
            clear h3 c3 hpos
            have b1 : 1023 ≤ T := by omega
            have b2 : T ≤ 1062 := by omega
            clear c1 c2
            go_enter Try.func12, Try.ntmps12
            go_wp2_with (first
              | (with_reducible refine (hs _).mono ?_; rintro e w2 ⟨rfl, rfl⟩))
            go_ret2
            exact ⟨by rw [HW.out, HE.out]; rfl, rfl⟩
          · rw [if_neg c3] at h3
            have HW := Lib.hid h3
            have g3 : ((G : Int) < (m : Int)) = False := eq_false (by omega)
            have g3' : (G < m) = False := eq_false c3
            clear h3 c3 hpos
            have b1 : 1023 ≤ T := by omega
            have b2 : T ≤ 1062 := by omega
            clear c1 c2
            go_enter Try.func12, Try.ntmps12
            go_wp2_with (first
              | (with_reducible refine (hs _).mono ?_; rintro e w2 ⟨rfl, rfl⟩))
            go_ret2
            exact ⟨by rw [HW.out, HE.out]; rfl, rfl⟩
  · have HE : Hid (ticksE x = 1) := by show _ = _; unfold ticksE; rw [hn]; rfl
    have HW : Hid (ticksW x = 0) := by show _ = _; unfold ticksW; rw [hn, if_pos rfl]
    simp only [nanW, decide_eq_true_eq] at hn
    generalize x % 9223372036854775808 = r at *
    have f1 : (9218868437227405312 < (r : Int)) = True := eq_true (by omega)
    have f1' : (9218868437227405312 < r) = True := eq_true (by omega)
    clear hn
    go_enter Try.func12, Try.ntmps12
    go_wp2_with (first
      | (with_reducible refine (hs _).mono ?_; rintro e w2 ⟨rfl, rfl⟩))
    go_ret2
    exact ⟨by rw [HW.out, HE.out]; rfl, rfl⟩
end Go.Proofs.Ytkpdfjpdjjjfiaa
