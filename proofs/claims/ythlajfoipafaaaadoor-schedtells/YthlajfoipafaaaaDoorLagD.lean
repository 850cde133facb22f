/- lag.Ticks, and math.Ceil.
   What math.Ldexp calls: bits of words, Abs, IsInf, normalize, Copysign, Inf.
   math.Ldexp and lag.Scale. -/
import Derived.Test.YthlajfoipafaaaaDoorLagA
namespace Go.Proofs.YthlajfoipafaaaaDoor
open Go.RowKit Ieee

def pw (k : Nat) : Nat := 2 ^ k
def U : Nat := pw 1074
theorem pw_pos (k : Nat) : 0 < pw k := Nat.two_pow_pos k
theorem pw_add (i j : Nat) : pw (i + j) = pw i * pw j := Nat.pow_add 2 i j
theorem U_pos : 0 < U := pw_pos 1074
theorem U_eq {i j : Nat} (h : i + j = 1074) : U = 2 ^ i * 2 ^ j := by
  unfold U
  rw [← h, pw_add]; rfl
theorem valN_of (e : Nat) {f : Nat} (hf : f < 4503599627370496) : valN ((e + 1) * 4503599627370496 + f) = (4503599627370496 + f) * pw e := by
  unfold valN
  rw [if_neg (by omega), rung_mod e hf, rung_div e hf]; rfl
def ceilD (n d : Nat) : Nat := (n + d - 1) / d

theorem ceilD_le {n d t : Nat} (hd : 0 < d) : ceilD n d ≤ t ↔ n ≤ t * d := by
  unfold ceilD
  rw [Nat.div_le_iff_le_mul_add_pred hd, Nat.mul_comm d t]
  omega
theorem ceilD_pos {n d : Nat} (hd : 0 < d) (hn : 0 < n) : 0 < ceilD n d := by
  have := @ceilD_le n d 0 hd
  omega
theorem ceilD_mul {n d c : Nat} (hd : 0 < d) (hc : 0 < c) : ceilD (n * c) (d * c) = ceilD n d := by
  have h1 : ceilD (n * c) (d * c) ≤ ceilD n d := by
    rw [ceilD_le (Nat.mul_pos hd hc), ← Nat.mul_assoc]
    exact Nat.mul_le_mul_right _ ((ceilD_le hd).1 (Nat.le_refl _))
  have h2 : ceilD n d ≤ ceilD (n * c) (d * c) := by
    rw [ceilD_le hd]
    have := (ceilD_le (n := n * c) (Nat.mul_pos hd hc)).1 (Nat.le_refl _)
    rw [← Nat.mul_assoc] at this
    exact Nat.le_of_mul_le_mul_right this hc
  omega

theorem cut_up (n d : Nat) : Toward.up.cut false n d = ceilD n (2 ^ d) := by
  unfold Toward.cut
  simp only [Nat.shiftLeft_eq, Nat.one_mul, Bool.not_false, Bool.true_and]
  have key : ∀ g, n / 2 ^ g + (n % 2 ^ g != 0).toNat = ceilD n (2 ^ g) := by
    intro g
    have hg : 0 < 2 ^ g := Nat.two_pow_pos _
    generalize 2 ^ g = G at *
    have h1 := Nat.div_add_mod n G
    have h2 := Nat.mod_lt n hg
    apply Nat.le_antisymm
    · have h3 := (ceilD_le (n := n) hg).1 (Nat.le_refl _)
      by_cases z : n % G = 0
      · simp only [z, bne_self_eq_false, Bool.toNat_false, Nat.add_zero]
        rw [Nat.mul_comm] at h3
        exact Nat.div_le_of_le_mul h3
      · have e : (n % G != 0) = true := by simpa using z
        rw [e]
        simp only [Bool.toNat_true]
        rcases Nat.lt_or_ge (n / G) (ceilD n G) with g1 | g1
        · exact g1
        · have h4 : ceilD n G * G ≤ n / G * G := Nat.mul_le_mul_right _ g1
          rw [Nat.mul_comm] at h1
          omega
    · rw [ceilD_le hg]
      by_cases z : n % G = 0
      · simp only [z, bne_self_eq_false, Bool.toNat_false, Nat.add_zero]
        rw [Nat.mul_comm] at h1; omega
      · have e : (n % G != 0) = true := by simpa using z
        rw [e]
        simp only [Bool.toNat_true]
        rw [Nat.mul_comm] at h1
        rw [Nat.add_mul, Nat.one_mul]; omega
  rw [key]
  rcases Nat.le_total d (n.log2 + 2) with h | h
  · rw [Nat.min_eq_left h]
  · rw [Nat.min_eq_right h]
    have hn : n < 2 ^ (n.log2 + 1) := Nat.lt_log2_self
    have h1 : 2 ^ (n.log2 + 2) = 2 * 2 ^ (n.log2 + 1) := by rw [Nat.pow_succ, Nat.mul_comm]
    have h2 : 2 ^ (n.log2 + 2) ≤ 2 ^ d := Nat.pow_le_pow_right (by omega) h
    have g1 : 0 < 2 ^ (n.log2 + 2) := Nat.two_pow_pos _
    have g2 : 0 < 2 ^ d := Nat.two_pow_pos _
    rcases Nat.eq_zero_or_pos n with z | z
    · subst z
      have a1 := (ceilD_le (n := 0) (t := 0) g1).2 (by omega)
      have a2 := (ceilD_le (n := 0) (t := 0) g2).2 (by omega)
      omega
    · have a1 := (ceilD_le (n := n) (t := 1) g1).2 (by omega)
      have a2 := (ceilD_le (n := n) (t := 1) g2).2 (by omega)
      have a3 := ceilD_pos g1 z
      have a4 := ceilD_pos g2 z
      omega

theorem cut_zero {n d : Nat} (s : Bool) (h : d ≤ n.log2 + 2) : Toward.zero.cut s n d = n / 2 ^ d := by
  unfold Toward.cut
  simp [Nat.shiftLeft_eq, Nat.min_eq_left h]

/- the word of a whole number that fits, as a whole number -/
theorem toInt_nearest {t : Nat} (h1 : 0 < t) (h2 : t < 9007199254740992) : floatToIntVal .f64 (double.nearest false t 0) .i64 = some (t : Int) := by
  obtain ⟨M, j, hM1, hM2, hj1, hj2, hM, hn⟩ := nearest_int false h1 h2
  have hr : (FloatKind.f64.decode (double.nearest false t 0)).toInt .zero = some (t : Int) := by
    show (double.read _).toInt .zero = _
    rw [hn, read_full false j hM1 hM2 (by omega)]
    show some (signed false (Toward.zero.cut false (M <<< (-1074 + (j : Int)).toNat) (-(-1074 + (j : Int))).toNat) 0) = _
    have e1 : (-1074 + (j : Int)).toNat = 0 := by omega
    have e2 : (-(-1074 + (j : Int))).toNat = 1074 - j := by omega
    have hl : M.log2 = 52 := (Nat.log2_eq_iff (by omega)).2 ⟨hM1, hM2⟩
    rw [e1, e2, Nat.shiftLeft_zero, cut_zero false (by omega), hM, Nat.mul_div_cancel _ (Nat.two_pow_pos _)]
    simp [signed]
  unfold floatToIntVal
  rw [hr]
  have : IntKind.i64.min ≤ (t : Int) ∧ (t : Int) ≤ IntKind.i64.max := by
    have a : IntKind.i64.min = -9223372036854775808 := by rfl
    have b : IntKind.i64.max = 9223372036854775807 := by rfl
    rw [a, b]; omega
  exact if_pos this

def ticksW (w : Nat) : Nat :=
  if nanW w then 0 else if 9223372036854775808 ≤ w ∨ w = 0 then 0 else if 4787326403894837248 < w then 1099511627776 else ceilD (valN w) U
def ticksE (w : Nat) : Int := if nanW w then 1 else 0

theorem valN_tick : valN 4787326403894837248 = 1099511627776 * U := by
  have h : (4787326403894837248 : Nat) = (1062 + 1) * 4503599627370496 + 0 := by rfl
  have h2 : U = pw 12 * pw 1062 := pw_add 12 1062
  have h3 : pw 12 = 4096 := by rfl
  rw [h, valN_of 1062 (by omega), h2, h3]
  generalize pw 1062 = z
  omega

/- a float above 0, at most 2^40: its ceiling -/
theorem ceil_word {x : Nat} (h0 : 0 < x) (h1 : x ≤ 4787326403894837248) : ∃ m i, double.read x = .number false m i ∧ Toward.up.cut false (m <<< i.toNat) (-i).toNat = ceilD (valN x) U ∧ 0 < ceilD (valN x) U ∧ ceilD (valN x) U ≤ 1099511627776 := by
  have hx : x % 9223372036854775808 = x := by omega
  have hs : negW x = false := by unfold negW; simp; omega
  have hpos : 0 < valN x := valN_pos h0
  have hle : valN x ≤ 1099511627776 * U := by rw [← valN_tick]; exact valN_le_iff.2 h1
  have hU := U_pos
  have key : ∃ m i : Nat, double.read x = .number false m (-1074 + i) ∧ i ≤ 1074 ∧ m * 2 ^ i = valN x := by
    rw [read_word (by omega), hx, hs]
    unfold valN
    split
    · exact ⟨_, 0, rfl, by omega, by simp⟩
    · rw [if_pos (by omega)]
      exact ⟨_, _, rfl, by omega, rfl⟩
  obtain ⟨m, i, hr, hi, hv⟩ := key
  refine ⟨m, _, hr, ?_, ceilD_pos hU hpos, (ceilD_le hU).2 hle⟩
  have e1 : (-1074 + (i : Int)).toNat = 0 := by omega
  have e2 : (-(-1074 + (i : Int))).toNat = 1074 - i := by omega
  rw [e1, e2, Nat.shiftLeft_zero, cut_up, ← hv]
  have e3 : U = 2 ^ (1074 - i) * 2 ^ i := U_eq (by omega)
  rw [e3, ceilD_mul (Nat.two_pow_pos _) (Nat.two_pow_pos _)]

theorem order_leq0 {x : Nat} (hx : x < 18446744073709551616) (hn : nanW x = false) : (double.order x 0 == some .lt || double.order x 0 == some .eq) = decide (9223372036854775808 ≤ x ∨ x = 0) := by
  rw [order_words hx (by omega), hn]
  have h0 : nanW 0 = false := rfl
  have r0 : rankW 0 = 9223372036854775808 := rfl
  rw [h0, r0]
  simp only [nanW, decide_eq_false_iff_not] at hn
  simp only [Bool.or_self, Bool.false_eq_true, if_false, compare_nat]
  have rb : rankW x ≤ 9223372036854775808 ↔ 9223372036854775808 ≤ x ∨ x = 0 := by
    unfold rankW plainW
    rw [if_neg hn]
    split <;> split <;> omega
  by_cases g : 9223372036854775808 ≤ x ∨ x = 0
  · have := rb.2 g
    by_cases g2 : rankW x = 9223372036854775808
    · simp [g2, g]
    · have : rankW x < 9223372036854775808 := by omega
      simp [this, g]
  · have : ¬ rankW x ≤ 9223372036854775808 := fun h => g (rb.1 h)
    rw [if_neg (by omega), if_neg (by omega), decide_eq_false g]; rfl
theorem order_gtT {x : Nat} (hx : x < 9223372036854775808) (hn : nanW x = false) : (double.order x 4787326403894837248 == some .gt) = decide (4787326403894837248 < x) := by
  rw [order_words (by omega) (by omega), hn]
  have h0 : nanW 4787326403894837248 = false := rfl
  have r0 : rankW 4787326403894837248 = 14010698440749613056 := rfl
  rw [h0, r0]
  simp only [nanW, decide_eq_false_iff_not] at hn
  simp only [Bool.or_self, Bool.false_eq_true, if_false, compare_nat]
  have rb : rankW x = x + 9223372036854775808 := by
    unfold rankW plainW
    rw [if_neg hn]
    split <;> split <;> omega
  rw [rb]
  by_cases g : 4787326403894837248 < x
  · rw [if_neg (by omega), if_neg (by omega), decide_eq_true g]; rfl
  · rw [decide_eq_false g]
    by_cases g2 : x = 4787326403894837248
    · subst g2; rfl
    · rw [if_pos (by omega)]; rfl

end Go.Proofs.YthlajfoipafaaaaDoor

namespace Go.Proofs.YthlajfoipafaaaaDoor
open Go.RowKit Ieee

theorem ofInt_nat64 {a : Nat} (h : a < 18446744073709551616) : (BitVec.ofInt 64 (a : Int)).toNat = a := by
  rw [BitVec.ofInt_natCast, BitVec.toNat_ofNat]
  exact Nat.mod_eq_of_lt h
theorem wrap_u64_nat {a : Nat} (h : a < 18446744073709551616) : IntKind.u64.wrap (a : Int) = a := by
  show (a : Int) % 18446744073709551616 = a
  omega
theorem wrap_i64_nat {a : Nat} (h : a < 9223372036854775808) : IntKind.i64.wrap (a : Int) = a := by
  simp only [IntKind.wrap, IntKind.signed, IntKind.bits]
  first | omega | (simp; omega) | (split <;> omega)
theorem u64_and {a b : Nat} (ha : a < 18446744073709551616) (hb : b < 18446744073709551616) : bits .and .u64 (a : Int) (b : Int) = ((a &&& b : Nat) : Int) := by
  show IntKind.u64.wrap ((BitVec.ofInt 64 (a : Int) &&& BitVec.ofInt 64 (b : Int)).toNat : Int) = _
  rw [BitVec.toNat_and, ofInt_nat64 ha, ofInt_nat64 hb, wrap_u64_nat (Nat.lt_of_le_of_lt Nat.and_le_left ha)]
theorem u64_or {a b : Nat} (ha : a < 18446744073709551616) (hb : b < 18446744073709551616) : bits .or .u64 (a : Int) (b : Int) = ((a ||| b : Nat) : Int) := by
  show IntKind.u64.wrap ((BitVec.ofInt 64 (a : Int) ||| BitVec.ofInt 64 (b : Int)).toNat : Int) = _
  rw [BitVec.toNat_or, ofInt_nat64 ha, ofInt_nat64 hb, wrap_u64_nat (Nat.or_lt_two_pow (n := 64) ha hb)]
theorem u64_andNot {a b : Nat} (ha : a < 18446744073709551616) (hb : b < 18446744073709551616) : bits .andNot .u64 (a : Int) (b : Int) = ((a &&& (18446744073709551615 - b) : Nat) : Int) := by
  show IntKind.u64.wrap ((BitVec.ofInt 64 (a : Int) &&& ~~~BitVec.ofInt 64 (b : Int)).toNat : Int) = _
  rw [BitVec.toNat_and, BitVec.toNat_not, ofInt_nat64 ha, ofInt_nat64 hb]
  exact wrap_u64_nat (Nat.lt_of_le_of_lt Nat.and_le_left ha)
theorem i64_and_low {a : Nat} (ha : a < 9223372036854775808) : bits .and .i64 (a : Int) 2047 = ((a % 2048 : Nat) : Int) := by
  show IntKind.i64.wrap ((BitVec.ofInt 64 (a : Int) &&& BitVec.ofInt 64 ((2047 : Nat) : Int)).toNat : Int) = _
  rw [BitVec.toNat_and, ofInt_nat64 (by omega), ofInt_nat64 (by omega)]
  have : a &&& 2047 = a % 2048 := Nat.and_two_pow_sub_one_eq_mod a 11
  rw [this, wrap_i64_nat (by omega)]

theorem and_top {n i : Nat} (h : n < 2 ^ i) : n &&& 2 ^ i = 0 := by
  apply Nat.eq_of_testBit_eq
  intro j
  rw [Nat.testBit_and, Nat.testBit_two_pow, Nat.zero_testBit]
  by_cases g : i = j
  · subst g; rw [Nat.testBit_lt_two_pow h]; rfl
  · simp [g]

/- a sign, an exponent and a fraction -/
theorem word_parts (s : Bool) {e f : Nat} (he : e < 2048) (hf : f < 4503599627370496) : (if s then 9223372036854775808 else 0) ||| (4503599627370496 * e ||| f) = wordZ s (e * 4503599627370496 + f) := by
  have h1 : 4503599627370496 * e ||| f = 4503599627370496 * e + f := (Nat.two_pow_add_eq_or_of_lt (i := 52) hf e).symm
  rw [h1]
  unfold wordZ
  cases s
  · simp; omega
  · have : 9223372036854775808 ||| (4503599627370496 * e + f) = 9223372036854775808 * 1 + (4503599627370496 * e + f) := (Nat.two_pow_add_eq_or_of_lt (i := 63) (by omega) 1).symm
    simp only [if_true]
    rw [this]; omega

theorem abs_bits (s : Bool) {r : Nat} (h : r < 9223372036854775808) : wordZ s r &&& 9223372036854775807 = r := by
  have : wordZ s r &&& 9223372036854775807 = wordZ s r % 9223372036854775808 := Nat.and_two_pow_sub_one_eq_mod _ 63
  rw [this, wordZ_mod s h]
theorem sign_bits (s : Bool) {r : Nat} (h : r < 9223372036854775808) : wordZ s r &&& 9223372036854775808 = wordZ s 0 := by
  have e : wordZ s r = (if s then 9223372036854775808 else 0) ||| r := by
    unfold wordZ
    cases s
    · simp
    · exact (Nat.two_pow_add_eq_or_of_lt (i := 63) h 1)
  rw [e, Nat.and_or_distrib_right, and_top (i := 63) h]
  cases s <;> simp [wordZ]
theorem clear_bits (s : Bool) {e f : Nat} (he : e < 2048) (hf : f < 4503599627370496) : wordZ s (e * 4503599627370496 + f) &&& 9227875636482146303 = wordZ s f := by
  rw [← word_parts s he hf]
  have hm : 9227875636482146303 = 9223372036854775808 ||| 4503599627370495 := by rfl
  have a1 : (4503599627370496 * e) &&& 9223372036854775808 = 0 := and_top (i := 63) (by omega)
  have a2 : (4503599627370496 * e) &&& 4503599627370495 = 0 := by
    have : (4503599627370496 * e) &&& 4503599627370495 = (4503599627370496 * e) % 4503599627370496 := Nat.and_two_pow_sub_one_eq_mod _ 52
    rw [this, Nat.mul_mod_right]
  have b1 : f &&& 9223372036854775808 = 0 := and_top (i := 63) (by omega)
  have b2 : f &&& 4503599627370495 = f := by
    have : f &&& 4503599627370495 = f % 4503599627370496 := Nat.and_two_pow_sub_one_eq_mod _ 52
    rw [this, Nat.mod_eq_of_lt hf]
  rw [Nat.and_or_distrib_right, Nat.and_or_distrib_right, hm, Nat.and_or_distrib_left (4503599627370496 * e), Nat.and_or_distrib_left f, a1, a2, b1, b2]
  unfold wordZ
  cases s
  · simp
  · have : 9223372036854775808 ||| f = 9223372036854775808 * 1 + f := (Nat.two_pow_add_eq_or_of_lt (i := 63) (by omega) 1).symm
    simp [this]
theorem set_bits (s : Bool) {e f : Nat} (he : e < 2048) (hf : f < 4503599627370496) : wordZ s f ||| (e * 4503599627370496) = wordZ s (e * 4503599627370496 + f) := by
  rw [← word_parts s he hf]
  have e1 : wordZ s f = (if s then 9223372036854775808 else 0) ||| f := by
    unfold wordZ
    cases s
    · simp
    · exact (Nat.two_pow_add_eq_or_of_lt (i := 63) (by omega) 1)
  rw [e1, Nat.or_assoc, Nat.or_comm f, Nat.mul_comm e]

theorem order_inf {r : Nat} (h : r < 9223372036854775808) : (double.order r 9218868437227405311 == some .gt) = decide (r = 9218868437227405312) := by
  rw [order_words (by omega) (by omega)]
  have h0 : nanW 9218868437227405311 = false := rfl
  have r0 : rankW 9218868437227405311 = 18442240474082181119 := rfl
  rw [h0, r0]
  cases hn : nanW r
  · simp only [nanW, decide_eq_false_iff_not] at hn
    have rb : rankW r = r + 9223372036854775808 := by
      unfold rankW plainW
      rw [if_neg hn]
      split <;> split <;> omega
    simp only [Bool.or_self, Bool.false_eq_true, if_false, compare_nat]
    rw [rb]
    by_cases g : r = 9218868437227405312
    · subst g; rfl
    · rw [decide_eq_false g]
      by_cases g2 : r = 9218868437227405311
      · subst g2; rfl
      · rw [if_pos (by omega)]; rfl
  · simp only [nanW, decide_eq_true_eq] at hn
    have : ¬ r = 9218868437227405312 := by omega
    simp [this]

theorem order_low {r : Nat} (h : r < 9218868437227405312) : (double.order r 4503599627370496 == some .lt) = decide (r < 4503599627370496) := by
  rw [order_lt (by omega) (by omega) rfl]
  have r0 : rankW 4503599627370496 = 9227875636482146304 := rfl
  have rb : rankW r = r + 9223372036854775808 := by
    unfold rankW plainW
    rw [if_neg (show ¬ 9218868437227405312 < r % 9223372036854775808 by omega)]
    split <;> split <;> omega
  unfold lessW
  rw [r0, rb]
  apply decide_eq_decide.2
  omega

/- a finite number that is not 0: its sign, its fifty-three digits, their place -/
structure Normal (x : Nat) (M j : Nat) (e0 : Int) : Prop where
  lo : 4503599627370496 ≤ M
  hi : M < 9007199254740992
  le : j < 2046
  ex : e0 = 0 ∨ e0 = -52
  is : ∃ m p, double.read x = .number (negW x) m p ∧ 0 < m ∧ ∀ q : Int, double.nearest (negW x) m (p + q) = double.nearest (negW x) M (-1074 + j + e0 + q)

theorem mul_2_52 {x : Nat} (hx : x < 18446744073709551616) (h0 : 0 < x % 9223372036854775808) (h1 : x % 9223372036854775808 < 4503599627370496) :
    ∃ M j, Normal x M j (-52) ∧ floatBits .mul .f64 x 4841369599423283200 = some (wordZ (negW x) (j * 4503599627370496 + M)) := by
  have hr : double.read x = .number (negW x) (x % 9223372036854775808) (-1074) := by rw [read_word hx, if_pos h1]
  have hc : double.read 4841369599423283200 = .number false 4503599627370496 (-1074 + (1074 : Nat)) := by rfl
  generalize x % 9223372036854775808 = r at *
  have hb := (Nat.log2_eq_iff (by omega : r ≠ 0)).1 rfl
  have hl : r.log2 ≤ 51 := by have := (Nat.log2_lt (k := 52) (by omega : r ≠ 0)).2 h1; omega
  have e52 : 2 ^ r.log2 * 2 ^ (52 - r.log2) = 4503599627370496 := by rw [← Nat.pow_add, Nat.add_sub_cancel' (by omega)]
  have e53 : 2 ^ (r.log2 + 1) * 2 ^ (52 - r.log2) = 9007199254740992 := by rw [← Nat.pow_add, Nat.add_right_comm, Nat.add_sub_cancel' (by omega)]
  have g1 : 4503599627370496 ≤ r * 2 ^ (52 - r.log2) := by rw [← e52]; exact Nat.mul_le_mul_right _ hb.1
  have g2 : r * 2 ^ (52 - r.log2) < 9007199254740992 := by rw [← e53]; exact Nat.mul_lt_mul_of_pos_right hb.2 (Nat.two_pow_pos _)
  refine ⟨r * 2 ^ (52 - r.log2), r.log2, ⟨g1, g2, by omega, .inr rfl, ?_⟩, ?_⟩
  · refine ⟨r, -1074, hr, h0, fun q => ?_⟩
    rw [← nearest_shift (negW x) (52 - r.log2) (-1074 + q) h0]
    congr 1
    omega
  · show ((double.read x).product (double.read 4841369599423283200)).map double.write = _
    rw [hr, hc]
    show some (double.nearest (negW x ^^ false) (r * 4503599627370496) (-1074 + (-1074 + (1074 : Nat)))) = _
    have e3 : r * 4503599627370496 = r * 2 ^ (52 - r.log2) * 2 ^ r.log2 := by rw [Nat.mul_assoc, Nat.mul_comm (2 ^ (52 - r.log2)), e52]
    rw [Bool.xor_false, e3]
    have e := nearest_shift (negW x) (m := r * 2 ^ (52 - r.log2)) r.log2 (-1074 + r.log2) (by omega)
    have e2 : (-1074 + (r.log2 : Int) - (r.log2 : Int)) = -1074 + (-1074 + ((1074 : Nat) : Int)) := by omega
    rw [e2] at e
    rw [e, nearest_full (negW x) _ g1 g2, Nat.min_eq_left (by omega)]

theorem normal_self {x : Nat} (hx : x < 18446744073709551616) (h0 : 4503599627370496 ≤ x % 9223372036854775808) (h1 : x % 9223372036854775808 < 9218868437227405312) :
    ∃ M j, Normal x M j 0 ∧ x = wordZ (negW x) (j * 4503599627370496 + M) := by
  have hr : double.read x = .number (negW x) (4503599627370496 + x % 9223372036854775808 % 4503599627370496) (-1074 + (x % 9223372036854775808 / 4503599627370496 - 1 : Nat)) := by rw [read_word hx, if_neg (by omega), if_pos h1]
  refine ⟨4503599627370496 + x % 9223372036854775808 % 4503599627370496, x % 9223372036854775808 / 4503599627370496 - 1, ⟨by omega, by omega, by omega, .inl rfl, _, _, hr, by omega, fun q => ?_⟩, ?_⟩
  · congr 1
    omega
  · have e : (x % 9223372036854775808 / 4503599627370496 - 1) * 4503599627370496 + (4503599627370496 + x % 9223372036854775808 % 4503599627370496) = x % 9223372036854775808 := by omega
    rw [e, wordZ_of hx]

end Go.Proofs.YthlajfoipafaaaaDoor

namespace Go.Proofs.YthlajfoipafaaaaDoor
open Go.RowKit Ieee

def ldexpW (x : Nat) (k : Int) : Nat :=
  match double.read x with
  | .number s m p => if m = 0 then x else double.nearest s m (p + k)
  | _ => x

theorem mul_pow (s : Bool) {M i jc c : Nat} (h1 : 4503599627370496 ≤ M) (h2 : M < 9007199254740992) (hi : i < 2046) (hc : double.read c = .number false 4503599627370496 (-1074 + (jc : Nat))) :
    floatBits .mul .f64 c (wordZ s (i * 4503599627370496 + M)) = some (double.nearest s M (-1074 + (i : Int) + (-1074 + (jc : Nat)) + 52)) := by
  show ((double.read c).product (double.read _)).map double.write = _
  rw [hc, read_full s i h1 h2 hi]
  show some (double.nearest (false ^^ s) (4503599627370496 * M) ((-1074 + (jc : Int)) + (-1074 + (i : Int)))) = _
  rw [Bool.false_xor, Nat.mul_comm, ← nearest_shift s 52 (-1074 + (i : Int) + (-1074 + (jc : Nat)) + 52) (by omega)]
  have e : (-1074 + (jc : Int)) + (-1074 + (i : Int)) = -1074 + (i : Int) + (-1074 + (jc : Nat)) + 52 - (52 : Nat) := by omega
  rw [e]
theorem or_word (s : Bool) {M E : Nat} (h1 : 4503599627370496 ≤ M) (h2 : M < 9007199254740992) (hE1 : 1 ≤ E) (hE2 : E < 2048) :
    bits .or .u64 (wordZ s (M - 4503599627370496) : Nat) ((E : Int) * 4503599627370496) = ((wordZ s ((E - 1) * 4503599627370496 + M) : Nat) : Int) := by
  have h := u64_or (a := wordZ s (M - 4503599627370496)) (b := E * 4503599627370496) (wordZ_lt s (by omega)) (by omega)
  rw [set_bits s hE2 (by omega)] at h
  have e : E * 4503599627370496 + (M - 4503599627370496) = (E - 1) * 4503599627370496 + M := by omega
  rw [e] at h
  rw [← h]
  rfl
theorem exp_word (s : Bool) {M j : Nat} (h1 : 4503599627370496 ≤ M) (h2 : M < 9007199254740992) (hj : j < 2046) :
    bits .and .i64 ((wordZ s (j * 4503599627370496 + M) : Int) / 4503599627370496) 2047 = ((j : Int) + 1) := by
  obtain ⟨q, hq⟩ : ∃ q : Nat, q = wordZ s (j * 4503599627370496 + M) / 4503599627370496 := ⟨_, rfl⟩
  have e : ((wordZ s (j * 4503599627370496 + M) : Nat) : Int) / 4503599627370496 = (q : Int) := by rw [hq]; omega
  have hlt : wordZ s (j * 4503599627370496 + M) < 18446744073709551616 := wordZ_lt s (by omega)
  rw [e, i64_and_low (by omega)]
  have : q % 2048 = j + 1 := by
    rw [hq]
    unfold wordZ
    split <;> omega
  rw [this]; omega
theorem frac_word (s : Bool) {M j : Nat} (h1 : 4503599627370496 ≤ M) (h2 : M < 9007199254740992) (hj : j < 2046) :
    bits .andNot .u64 (wordZ s (j * 4503599627370496 + M) : Int) 9218868437227405312 = ((wordZ s (M - 4503599627370496) : Nat) : Int) := by
  have h := u64_andNot (a := wordZ s (j * 4503599627370496 + M)) (b := 9218868437227405312) (wordZ_lt s (by omega)) (by omega)
  have e : j * 4503599627370496 + M = (j + 1) * 4503599627370496 + (M - 4503599627370496) := by omega
  have e2 : 18446744073709551615 - 9218868437227405312 = 9227875636482146303 := by rfl
  rw [e2, e, clear_bits s (by omega) (by omega)] at h
  rw [e]
  exact h
theorem neg_word (s : Bool) {r : Nat} (h1 : 0 < r) (h2 : r ≤ 9218868437227405312) : (double.order (wordZ s r) 0 == some .lt) = s := by
  rw [order_lt (wordZ_lt s (by omega)) (by omega) rfl]
  have r0 : rankW 0 = 9223372036854775808 := rfl
  unfold lessW
  rw [r0]
  have hp : plainW (wordZ s r) = wordZ s r := by
    unfold plainW
    rw [wordZ_mod s (by omega), if_neg (by omega), if_neg (by omega)]
  unfold rankW
  rw [hp]
  cases s
  · have e : wordZ false r = r := rfl
    rw [e, if_neg (by omega)]; simp
  · have e : wordZ true r = 9223372036854775808 + r := rfl
    rw [e, if_pos (by omega)]; simp; omega

theorem nearest_lt64 (s : Bool) (m : Nat) (p : Int) : double.nearest s m p < 18446744073709551616 := by
  have h := double.nearest_lt s m p
  have e : 2 ^ double.width = 18446744073709551616 := by rfl
  rw [e] at h
  exact h
theorem ldexpW_lt {x : Nat} (k : Int) (hx : x < 18446744073709551616) : ldexpW x k < 18446744073709551616 := by
  unfold ldexpW
  split
  · split
    · exact hx
    · exact nearest_lt64 _ _ _
  · exact hx

def scaleW (x : Nat) (k : Int) : Nat := plainW (ldexpW x (min (max k (-2200)) 2200))
end Go.Proofs.YthlajfoipafaaaaDoor
