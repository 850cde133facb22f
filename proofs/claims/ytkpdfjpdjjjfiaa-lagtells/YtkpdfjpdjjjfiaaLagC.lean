/- What math.Ldexp calls: bits of words, Abs, IsInf, normalize, Copysign, Inf. -/
import Derived.Test.YtkpdfjpdjjjfiaaLagB
namespace Go.Proofs.Ytkpdfjpdjjjfiaa
open Go.RowKit Ieee

theorem ofInt_nat64 {a : Nat} (h : a < 18446744073709551616) : (BitVec.ofInt 64 (a : Int)).toNat = a := by
  rw [BitVec.ofInt_natCast, BitVec.toNat_ofNat]
  exact Nat.mod_eq_of_lt h
theorem wrap_u64_nat {a : Nat} (h : a < 18446744073709551616) : IntKind.u64.wrap (a : Int) = a := by
  show (a : Int) % 18446744073709551616 = a
  omega
theorem wrap_i64_nat {a : Nat} (h : a < 9223372036854775808) : IntKind.i64.wrap (a : Int) = a := by
  simp only [IntKind.wrap, IntKind.signed, IntKind.bits]
  first | omega | (simp; omega) | (split <;> omega)
theorem u64_and {a b : Nat} (ha : a < 18446744073709551616) (hb : b < 18446744073709551616) : bits .and .u64 (a : Int) (b : Int) = ((a &&& b : Nat) : Int) := by
  show IntKind.u64.wrap ((BitVec.ofInt 64 (a : Int) &&& BitVec.ofInt 64 (b : Int)).toNat : Int) = _
  rw [BitVec.toNat_and, ofInt_nat64 ha, ofInt_nat64 hb, wrap_u64_nat (Nat.lt_of_le_of_lt Nat.and_le_left ha)]
theorem u64_or {a b : Nat} (ha : a < 18446744073709551616) (hb : b < 18446744073709551616) : bits .or .u64 (a : Int) (b : Int) = ((a ||| b : Nat) : Int) := by
  show IntKind.u64.wrap ((BitVec.ofInt 64 (a : Int) ||| BitVec.ofInt 64 (b : Int)).toNat : Int) = _
  rw [BitVec.toNat_or, ofInt_nat64 ha, ofInt_nat64 hb, wrap_u64_nat (Nat.or_lt_two_pow (n := 64) ha hb)]
theorem u64_andNot {a b : Nat} (ha : a < 18446744073709551616) (hb : b < 18446744073709551616) : bits .andNot .u64 (a : Int) (b : Int) = ((a &&& (18446744073709551615 - b) : Nat) : Int) := by
  show IntKind.u64.wrap ((BitVec.ofInt 64 (a : Int) &&& ~~~BitVec.ofInt 64 (b : Int)).toNat : Int) = _
  rw [BitVec.toNat_and, BitVec.toNat_not, ofInt_nat64 ha, ofInt_nat64 hb]
  exact wrap_u64_nat (Nat.lt_of_le_of_lt Nat.and_le_left ha)
theorem i64_and_low {a : Nat} (ha : a < 9223372036854775808) : bits .and .i64 (a : Int) 2047 = ((a % 2048 : Nat) : Int) := by
  show IntKind.i64.wrap ((BitVec.ofInt 64 (a : Int) &&& BitVec.ofInt 64 ((2047 : Nat) : Int)).toNat : Int) = _
  rw [BitVec.toNat_and, ofInt_nat64 (by omega), ofInt_nat64 (by omega)]
  have : a &&& 2047 = a % 2048 := Nat.and_two_pow_sub_one_eq_mod a 11
  rw [this, wrap_i64_nat (by omega)]

theorem and_top {n i : Nat} (h : n < 2 ^ i) : n &&& 2 ^ i = 0 := by
  apply Nat.eq_of_testBit_eq
  intro j
  rw [Nat.testBit_and, Nat.testBit_two_pow, Nat.zero_testBit]
  by_cases g : i = j
  · subst g; rw [Nat.testBit_lt_two_pow h]; rfl
  · simp [g]

/- a sign, an exponent and a fraction -/
theorem word_parts (s : Bool) {e f : Nat} (he : e < 2048) (hf : f < 4503599627370496) : (if s then 9223372036854775808 else 0) ||| (4503599627370496 * e ||| f) = wordZ s (e * 4503599627370496 + f) := by
  have h1 : 4503599627370496 * e ||| f = 4503599627370496 * e + f := (Nat.two_pow_add_eq_or_of_lt (i := 52) hf e).symm
  rw [h1]
  unfold wordZ
  cases s
  · simp; omega
  · have : 9223372036854775808 ||| (4503599627370496 * e + f) = 9223372036854775808 * 1 + (4503599627370496 * e + f) := (Nat.two_pow_add_eq_or_of_lt (i := 63) (by omega) 1).symm
    simp only [if_true]
    rw [this]; omega

theorem abs_bits (s : Bool) {r : Nat} (h : r < 9223372036854775808) : wordZ s r &&& 9223372036854775807 = r := by
  have : wordZ s r &&& 9223372036854775807 = wordZ s r % 9223372036854775808 := Nat.and_two_pow_sub_one_eq_mod _ 63
  rw [this, wordZ_mod s h]
theorem sign_bits (s : Bool) {r : Nat} (h : r < 9223372036854775808) : wordZ s r &&& 9223372036854775808 = wordZ s 0 := by
  have e : wordZ s r = (if s then 9223372036854775808 else 0) ||| r := by
    unfold wordZ
    cases s
    · simp
    · exact (Nat.two_pow_add_eq_or_of_lt (i := 63) h 1)
  rw [e, Nat.and_or_distrib_right, and_top (i := 63) h]
  cases s <;> simp [wordZ]
theorem clear_bits (s : Bool) {e f : Nat} (he : e < 2048) (hf : f < 4503599627370496) : wordZ s (e * 4503599627370496 + f) &&& 9227875636482146303 = wordZ s f := by
  rw [← word_parts s he hf]
  have hm : 9227875636482146303 = 9223372036854775808 ||| 4503599627370495 := by rfl
  have a1 : (4503599627370496 * e) &&& 9223372036854775808 = 0 := and_top (i := 63) (by omega)
  have a2 : (4503599627370496 * e) &&& 4503599627370495 = 0 := by
    have : (4503599627370496 * e) &&& 4503599627370495 = (4503599627370496 * e) % 4503599627370496 := Nat.and_two_pow_sub_one_eq_mod _ 52
    rw [this, Nat.mul_mod_right]
  have b1 : f &&& 9223372036854775808 = 0 := and_top (i := 63) (by omega)
  have b2 : f &&& 4503599627370495 = f := by
    have : f &&& 4503599627370495 = f % 4503599627370496 := Nat.and_two_pow_sub_one_eq_mod _ 52
    rw [this, Nat.mod_eq_of_lt hf]
  rw [Nat.and_or_distrib_right, Nat.and_or_distrib_right, hm, Nat.and_or_distrib_left (4503599627370496 * e), Nat.and_or_distrib_left f, a1, a2, b1, b2]
  unfold wordZ
  cases s
  · simp
  · have : 9223372036854775808 ||| f = 9223372036854775808 * 1 + f := (Nat.two_pow_add_eq_or_of_lt (i := 63) (by omega) 1).symm
    simp [this]
theorem set_bits (s : Bool) {e f : Nat} (he : e < 2048) (hf : f < 4503599627370496) : wordZ s f ||| (e * 4503599627370496) = wordZ s (e * 4503599627370496 + f) := by
  rw [← word_parts s he hf]
  have e1 : wordZ s f = (if s then 9223372036854775808 else 0) ||| f := by
    unfold wordZ
    cases s
    · simp
    · exact (Nat.two_pow_add_eq_or_of_lt (i := 63) (by omega) 1)
  rw [e1, Nat.or_assoc, Nat.or_comm f, Nat.mul_comm e]

theorem Abs_any (x : Nat) (w : World) (hx : x < 18446744073709551616) : Calls Try.prog 48 #[.float .f64 x] w fun e w' => e = .returned (.float .f64 (x % 9223372036854775808)) ∧ w = w' := by
  have h := run_frombits
  have h' := run_tobits
  have hb : bits .andNot .u64 (x : Int) 9223372036854775808 = ((x % 9223372036854775808 : Nat) : Int) := by
    have := u64_andNot hx (b := 9223372036854775808) (by omega)
    have e := abs_bits (negW x) (r := x % 9223372036854775808) (by omega)
    rw [wordZ_of hx] at e
    rw [show (18446744073709551615 - 9223372036854775808 : Nat) = 9223372036854775807 from rfl, e] at this
    exact this
  go_enter Try.func48, Try.ntmps48
  go_wp2
  go_ret
  refine ⟨?_, rfl⟩
  first | (simp; done) | (simp only [hb]; rfl) | simp [hb]

theorem order_inf {r : Nat} (h : r < 9223372036854775808) : (double.order r 9218868437227405311 == some .gt) = decide (r = 9218868437227405312) := by
  rw [order_words (by omega) (by omega)]
  have h0 : nanW 9218868437227405311 = false := rfl
  have r0 : rankW 9218868437227405311 = 18442240474082181119 := rfl
  rw [h0, r0]
  cases hn : nanW r
  · simp only [nanW, decide_eq_false_iff_not] at hn
    have rb : rankW r = r + 9223372036854775808 := by
      unfold rankW plainW
      rw [if_neg hn]
      split <;> split <;> omega
    simp only [Bool.or_self, Bool.false_eq_true, if_false, compare_nat]
    rw [rb]
    by_cases g : r = 9218868437227405312
    · subst g; rfl
    · rw [decide_eq_false g]
      by_cases g2 : r = 9218868437227405311
      · subst g2; rfl
      · rw [if_pos (by omega)]; rfl
  · simp only [nanW, decide_eq_true_eq] at hn
    have : ¬ r = 9218868437227405312 := by omega
    simp [this]

theorem IsInf_any (x : Nat) (w : World) (hx : x < 18446744073709551616) : Calls Try.prog 42 #[.float .f64 x, .int .i64 0] w fun e w' => e = .returned (.bool (decide (x % 9223372036854775808 = 9218868437227405312))) ∧ w = w' := by
  have hk : FloatKind.f64.format = double := rfl
  have ho := order_inf (r := x % 9223372036854775808) (by omega)
  have hA := fun W => Abs_any x W hx
  generalize x % 9223372036854775808 = r at *
  generalize decide (r = 9218868437227405312) = q at *
  go_enter Try.func42, Try.ntmps42
  go_wp2_with fail
  with_reducible refine (hA _).mono ?_
  rintro e w1 ⟨rfl, rfl⟩
  go_wp2_with fail
  go_ret
  exact ⟨rfl, rfl⟩

theorem order_low {r : Nat} (h : r < 9218868437227405312) : (double.order r 4503599627370496 == some .lt) = decide (r < 4503599627370496) := by
  rw [order_lt (by omega) (by omega) rfl]
  have r0 : rankW 4503599627370496 = 9227875636482146304 := rfl
  have rb : rankW r = r + 9223372036854775808 := by
    unfold rankW plainW
    rw [if_neg (show ¬ 9218868437227405312 < r % 9223372036854775808 by omega)]
    split <;> split <;> omega
  unfold lessW
  rw [r0, rb]
  apply decide_eq_decide.2
  omega

/- a finite number that is not 0: its sign, its fifty-three digits, their place -/
structure Normal (x : Nat) (M j : Nat) (e0 : Int) : Prop where
  lo : 4503599627370496 ≤ M
  hi : M < 9007199254740992
  le : j < 2046
  ex : e0 = 0 ∨ e0 = -52
  is : ∃ m p, double.read x = .number (negW x) m p ∧ 0 < m ∧ ∀ q : Int, double.nearest (negW x) m (p + q) = double.nearest (negW x) M (-1074 + j + e0 + q)

theorem mul_2_52 {x : Nat} (hx : x < 18446744073709551616) (h0 : 0 < x % 9223372036854775808) (h1 : x % 9223372036854775808 < 4503599627370496) :
    ∃ M j, Normal x M j (-52) ∧ floatBits .mul .f64 x 4841369599423283200 = some (wordZ (negW x) (j * 4503599627370496 + M)) := by
  have hr : double.read x = .number (negW x) (x % 9223372036854775808) (-1074) := by rw [read_word hx, if_pos h1]
  have hc : double.read 4841369599423283200 = .number false 4503599627370496 (-1074 + (1074 : Nat)) := by rfl
  generalize x % 9223372036854775808 = r at *
  have hb := (Nat.log2_eq_iff (by omega : r ≠ 0)).1 rfl
  have hl : r.log2 ≤ 51 := by have := (Nat.log2_lt (k := 52) (by omega : r ≠ 0)).2 h1; omega
  have e52 : 2 ^ r.log2 * 2 ^ (52 - r.log2) = 4503599627370496 := by rw [← Nat.pow_add, Nat.add_sub_cancel' (by omega)]
  have e53 : 2 ^ (r.log2 + 1) * 2 ^ (52 - r.log2) = 9007199254740992 := by rw [← Nat.pow_add, Nat.add_right_comm, Nat.add_sub_cancel' (by omega)]
  have g1 : 4503599627370496 ≤ r * 2 ^ (52 - r.log2) := by rw [← e52]; exact Nat.mul_le_mul_right _ hb.1
  have g2 : r * 2 ^ (52 - r.log2) < 9007199254740992 := by rw [← e53]; exact Nat.mul_lt_mul_of_pos_right hb.2 (Nat.two_pow_pos _)
  refine ⟨r * 2 ^ (52 - r.log2), r.log2, ⟨g1, g2, by omega, .inr rfl, ?_⟩, ?_⟩
  · refine ⟨r, -1074, hr, h0, fun q => ?_⟩
    rw [← nearest_shift (negW x) (52 - r.log2) (-1074 + q) h0]
    congr 1
    omega
  · show ((double.read x).product (double.read 4841369599423283200)).map double.write = _
    rw [hr, hc]
    show some (double.nearest (negW x ^^ false) (r * 4503599627370496) (-1074 + (-1074 + (1074 : Nat)))) = _
    have e3 : r * 4503599627370496 = r * 2 ^ (52 - r.log2) * 2 ^ r.log2 := by rw [Nat.mul_assoc, Nat.mul_comm (2 ^ (52 - r.log2)), e52]
    rw [Bool.xor_false, e3]
    have e := nearest_shift (negW x) (m := r * 2 ^ (52 - r.log2)) r.log2 (-1074 + r.log2) (by omega)
    have e2 : (-1074 + (r.log2 : Int) - (r.log2 : Int)) = -1074 + (-1074 + ((1074 : Nat) : Int)) := by omega
    rw [e2] at e
    rw [e, nearest_full (negW x) _ g1 g2, Nat.min_eq_left (by omega)]

theorem normal_self {x : Nat} (hx : x < 18446744073709551616) (h0 : 4503599627370496 ≤ x % 9223372036854775808) (h1 : x % 9223372036854775808 < 9218868437227405312) :
    ∃ M j, Normal x M j 0 ∧ x = wordZ (negW x) (j * 4503599627370496 + M) := by
  have hr : double.read x = .number (negW x) (4503599627370496 + x % 9223372036854775808 % 4503599627370496) (-1074 + (x % 9223372036854775808 / 4503599627370496 - 1 : Nat)) := by rw [read_word hx, if_neg (by omega), if_pos h1]
  refine ⟨4503599627370496 + x % 9223372036854775808 % 4503599627370496, x % 9223372036854775808 / 4503599627370496 - 1, ⟨by omega, by omega, by omega, .inl rfl, _, _, hr, by omega, fun q => ?_⟩, ?_⟩
  · congr 1
    omega
  · have e : (x % 9223372036854775808 / 4503599627370496 - 1) * 4503599627370496 + (4503599627370496 + x % 9223372036854775808 % 4503599627370496) = x % 9223372036854775808 := by omega
    rw [e, wordZ_of hx]

theorem normalize_any (x : Nat) (hx : x < 18446744073709551616) (h0 : 0 < x % 9223372036854775808) (h1 : x % 9223372036854775808 < 9218868437227405312) :
    ∃ M j e0, Normal x M j e0 ∧ ∀ w, Calls Try.prog 43 #[.float .f64 x] w fun e w' => e = .returned (.tuple #[.float .f64 (wordZ (negW x) (j * 4503599627370496 + M)), .int .i64 e0]) ∧ w = w' := by
  have hk : FloatKind.f64.format = double := rfl
  have ho := order_low h1
  by_cases g : x % 9223372036854775808 < 4503599627370496
  · obtain ⟨M, j, hN, hm⟩ := mul_2_52 hx h0 g
    refine ⟨M, j, _, hN, fun w => ?_⟩
    rw [decide_eq_true g] at ho
    have hA := fun W => Abs_any x W hx
    have hop : ∀ t w, (binOp .mul t (.float .f64 x) (.float .f64 4841369599423283200)).run Try.prog w = .ok (.float .f64 (wordZ (negW x) (j * 4503599627370496 + M))) w := fun t w => run_float_arith w .mul t .f64 x _ _ hm
    generalize wordZ (negW x) (j * 4503599627370496 + M) = y at *
    generalize x % 9223372036854775808 = r at *
    clear hm hN
    go_enter Try.func43, Try.ntmps43
    go_wp2_with fail
    with_reducible refine (hA _).mono ?_
    rintro e w1 ⟨rfl, rfl⟩
    go_wp2_with fail
    go_ret2
    exact ⟨rfl, rfl⟩
  · obtain ⟨M, j, hN, hm⟩ := normal_self hx (by omega) h1
    refine ⟨M, j, _, hN, fun w => ?_⟩
    rw [decide_eq_false g] at ho
    have hA := fun W => Abs_any x W hx
    rw [← hm]
    generalize x % 9223372036854775808 = r at *
    clear hm hN
    go_enter Try.func43, Try.ntmps43
    go_wp2_with fail
    with_reducible refine (hA _).mono ?_
    rintro e w1 ⟨rfl, rfl⟩
    go_wp2_with fail
    go_ret2
    exact ⟨rfl, rfl⟩

theorem Copysign_any (s : Bool) (r : Nat) (w : World) (hr : r < 9223372036854775808) : Calls Try.prog 44 #[.float .f64 0, .float .f64 (wordZ s r)] w fun e w' => e = .returned (.float .f64 (wordZ s 0)) ∧ w = w' := by
  have h := run_frombits
  have h' := run_tobits
  have h1 : bits .andNot .u64 0 9223372036854775808 = 0 := by rfl
  have h2 : bits .and .u64 (wordZ s r : Nat) 9223372036854775808 = ((wordZ s 0 : Nat) : Int) := by
    have := u64_and (wordZ_lt s hr) (b := 9223372036854775808) (by omega)
    rw [sign_bits s hr] at this
    exact this
  have h3 : bits .or .u64 0 ((wordZ s 0 : Nat) : Int) = ((wordZ s 0 : Nat) : Int) := by
    have := u64_or (a := 0) (b := wordZ s 0) (by omega) (wordZ_lt s (by omega))
    rw [Nat.zero_or] at this
    exact this
  generalize wordZ s r = y at *
  generalize wordZ s 0 = z at *
  go_enter Try.func44, Try.ntmps44
  go_wp2
  go_ret
  exact ⟨by simp, rfl⟩

theorem Inf_neg (w : World) : Calls Try.prog 45 #[.int .i64 (-1)] w fun e w' => e = .returned (.float .f64 (wordZ true 9218868437227405312)) ∧ w = w' := by
  have h := run_frombits
  go_enter Try.func45, Try.ntmps45
  go_wp2
  go_ret
  exact ⟨rfl, rfl⟩
theorem Inf_pos (w : World) : Calls Try.prog 45 #[.int .i64 1] w fun e w' => e = .returned (.float .f64 (wordZ false 9218868437227405312)) ∧ w = w' := by
  have h := run_frombits
  go_enter Try.func45, Try.ntmps45
  go_wp2
  go_ret
  exact ⟨rfl, rfl⟩
end Go.Proofs.Ytkpdfjpdjjjfiaa
