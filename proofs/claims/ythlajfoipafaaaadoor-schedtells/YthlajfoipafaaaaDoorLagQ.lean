/- Plain facts on the words of float64s: what a word stands for, the order of words, and rounding to the nearest one.
   Plain facts on rounding to the nearest word of a float64. -/
import Derived.Laws.FloatArith
namespace Go.Proofs.YthlajfoipafaaaaDoor
open Ieee

def nanW (w : Nat) : Bool := decide (9218868437227405312 < w % 9223372036854775808)
def plainW (w : Nat) : Nat := if 9218868437227405312 < w % 9223372036854775808 then 9221120237041090561 else if w % 9223372036854775808 = 0 then 0 else w
def rankW (w : Nat) : Nat := if 9223372036854775808 ≤ plainW w then 18446744073709551615 - plainW w else plainW w + 9223372036854775808
def lessW (a b : Nat) : Bool := decide (rankW a < rankW b)

/- what a rung stands for, in units of the least place -/
def valN (r : Nat) : Nat := if r < 4503599627370496 then r else (4503599627370496 + r % 4503599627370496) * 2 ^ (r / 4503599627370496 - 1)

theorem plainW_lt {w : Nat} (h : w < 18446744073709551616) : plainW w < 18446744073709551616 := by unfold plainW; split <;> (try split) <;> omega
theorem plainW_idem (w : Nat) : plainW (plainW w) = plainW w := by
  unfold plainW
  split
  · simp
  · split
    · simp
    · rfl
theorem nanW_plain (w : Nat) : nanW (plainW w) = nanW w := by
  unfold nanW plainW
  split
  · rename_i h; simp [h]
  · split
    · rename_i h g; simp [g]
    · rfl
theorem rankW_plain (w : Nat) : rankW (plainW w) = rankW w := by unfold rankW; rw [plainW_idem]
theorem rankW_inj {a b : Nat} (ha : a < 18446744073709551616) (hb : b < 18446744073709551616) (h : rankW a = rankW b) : plainW a = plainW b := by
  have h1 := plainW_lt ha
  have h2 := plainW_lt hb
  unfold rankW at h
  split at h <;> split at h <;> omega
theorem rankW_eq_iff {a b : Nat} (ha : a < 18446744073709551616) (hb : b < 18446744073709551616) : rankW a = rankW b ↔ plainW a = plainW b :=
  ⟨rankW_inj ha hb, fun h => by unfold rankW; rw [h]⟩

theorem valN_pos {r : Nat} (h : 0 < r) : 0 < valN r := by
  unfold valN
  split
  · exact h
  · exact Nat.mul_pos (by omega) (Nat.two_pow_pos _)
theorem valN_zero {r : Nat} : r = 0 ↔ valN r = 0 := by
  refine ⟨fun h => by rw [h]; rfl, fun h => ?_⟩
  rcases Nat.eq_zero_or_pos r with g | g
  · exact g
  · have := valN_pos g; omega
theorem rung_mod (e : Nat) {f : Nat} (hf : f < 4503599627370496) : ((e + 1) * 4503599627370496 + f) % 4503599627370496 = f := by
  rw [Nat.add_comm, Nat.add_mul_mod_self_right, Nat.mod_eq_of_lt hf]
theorem rung_div (e : Nat) {f : Nat} (hf : f < 4503599627370496) : ((e + 1) * 4503599627370496 + f) / 4503599627370496 - 1 = e := by
  rw [Nat.add_comm, Nat.add_mul_div_right _ _ (Nat.zero_lt_succ _), Nat.div_eq_of_lt hf]; omega
theorem valN_lt {a b : Nat} (h : a < b) : valN a < valN b := by
  unfold valN
  split
  · split
    · exact h
    · refine Nat.lt_of_lt_of_le ?_ (Nat.le_mul_of_pos_right _ (Nat.two_pow_pos _)); omega
  · rw [if_neg (by omega)]
    obtain ⟨e, f, rfl, hf⟩ : ∃ e f, a = (e + 1) * 4503599627370496 + f ∧ f < 4503599627370496 := ⟨a / 4503599627370496 - 1, a % 4503599627370496, by omega, by omega⟩
    obtain ⟨e', f', rfl, hf'⟩ : ∃ e f, b = (e + 1) * 4503599627370496 + f ∧ f < 4503599627370496 := ⟨b / 4503599627370496 - 1, b % 4503599627370496, by omega, by omega⟩
    rw [rung_mod e hf, rung_mod e' hf', rung_div e hf, rung_div e' hf']
    have h : (e + 1) * 4503599627370496 + f < (e' + 1) * 4503599627370496 + f' := h
    have hp : 0 < 2 ^ e := Nat.two_pow_pos _
    rcases Nat.lt_or_ge e e' with hl | hl
    · obtain ⟨d, rfl⟩ : ∃ d, e' = e + 1 + d := ⟨e' - e - 1, by omega⟩
      have : 2 ^ e * 2 ≤ 2 ^ (e + 1 + d) := by
        rw [← Nat.pow_succ]
        exact Nat.pow_le_pow_right (by omega) (by omega)
      calc (4503599627370496 + f) * 2 ^ e < (4503599627370496 + 4503599627370496) * 2 ^ e := Nat.mul_lt_mul_of_pos_right (by omega) hp
        _ = 4503599627370496 * (2 ^ e * 2) := by rw [← Nat.mul_two, Nat.mul_assoc, Nat.mul_comm 2]
        _ ≤ 4503599627370496 * 2 ^ (e + 1 + d) := Nat.mul_le_mul_left _ this
        _ ≤ (4503599627370496 + f') * 2 ^ (e + 1 + d) := Nat.mul_le_mul_right _ (by omega)
    · obtain rfl : e = e' := by omega
      exact Nat.mul_lt_mul_of_pos_right (by omega) hp
theorem valN_lt_iff {a b : Nat} : valN a < valN b ↔ a < b := by
  refine ⟨fun h => ?_, valN_lt⟩
  rcases Nat.lt_trichotomy a b with h1 | rfl | h1
  · exact h1
  · omega
  · have := valN_lt h1; omega
theorem valN_inj {a b : Nat} (h : valN a = valN b) : a = b := by
  rcases Nat.lt_trichotomy a b with h1 | h1 | h1
  · have := valN_lt h1; omega
  · exact h1
  · have := valN_lt h1; omega
theorem valN_le_iff {a b : Nat} : valN a ≤ valN b ↔ a ≤ b := by
  have := @valN_lt_iff b a
  omega

/- a word, by its sign and its rung -/
def negW (w : Nat) : Bool := decide (9223372036854775808 ≤ w)
theorem read_word {w : Nat} (h : w < 18446744073709551616) :
    double.read w = if w % 9223372036854775808 < 4503599627370496 then .number (negW w) (w % 9223372036854775808) (-1074)
      else if w % 9223372036854775808 < 9218868437227405312 then .number (negW w) (4503599627370496 + w % 9223372036854775808 % 4503599627370496) (-1074 + (w % 9223372036854775808 / 4503599627370496 - 1 : Nat))
      else if w % 9223372036854775808 = 9218868437227405312 then .infinity (negW w) else .nan (negW w) (w % 9223372036854775808 - 9218868437227405312) := by
  have hs : double.signWeight = 9223372036854775808 := by rfl
  have hb : double.binade = 4503599627370496 := by rfl
  have hi : double.infRung = 9218868437227405312 := by rfl
  have hl : double.leastPlace = -1074 := by rfl
  have hn : (w / 9223372036854775808 % 2 == 1) = negW w := by
    unfold negW
    by_cases g : 9223372036854775808 ≤ w
    · have : w / 9223372036854775808 = 1 := by omega
      simp [this, g]
    · have : w / 9223372036854775808 = 0 := by omega
      simp [this, g]
  unfold Format.read
  rw [hs, hb, hi, hl]
  simp only [hn]

def sgnZ (s : Bool) (n : Nat) : Int := if s then -(n : Int) else n
theorem signed_eq (s : Bool) (m u : Nat) : signed s m u = sgnZ s (m * 2 ^ u) := by
  unfold signed sgnZ
  rw [Nat.shiftLeft_eq]
theorem sgnZ_mul (s : Bool) (n c : Nat) : sgnZ s (n * c) = sgnZ s n * c := by
  unfold sgnZ
  split <;> simp [Int.neg_mul]

theorem compare_mul (x y : Int) (c : Nat) (hc : 0 < c) : compare (x * c) (y * c) = compare x y := by
  have hc' : (0 : Int) < c := by omega
  have h1 : x * c < y * c ↔ x < y := ⟨fun h => Int.lt_of_mul_lt_mul_right h (by omega), fun h => Int.mul_lt_mul_of_pos_right h hc'⟩
  have h2 : x * c = y * c ↔ x = y := ⟨fun h => Int.eq_of_mul_eq_mul_right (by omega) h, fun h => by rw [h]⟩
  show compareOfLessAndEq _ _ = compareOfLessAndEq _ _
  unfold compareOfLessAndEq
  simp only [h1, h2]

theorem order_number (s t : Bool) (m n : Nat) (i j : Nat) :
    (Datum.number s m (-1074 + i)).order (.number t n (-1074 + j)) = some (compare (sgnZ s (m * 2 ^ i)) (sgnZ t (n * 2 ^ j))) := by
  show some (compare (signed s m ((-1074 + (i : Int)) - min (-1074 + (i : Int)) (-1074 + (j : Int))).toNat) (signed t n ((-1074 + (j : Int)) - min (-1074 + (i : Int)) (-1074 + (j : Int))).toNat)) = _
  obtain ⟨b, hb1, hb2, hb3⟩ : ∃ b : Nat, min (-1074 + (i : Int)) (-1074 + (j : Int)) = -1074 + b ∧ b ≤ i ∧ b ≤ j := ⟨min i j, by omega, by omega, by omega⟩
  rw [hb1, signed_eq, signed_eq]
  have e1 : (-1074 + (i : Int) - (-1074 + (b : Int))).toNat = i - b := by omega
  have e2 : (-1074 + (j : Int) - (-1074 + (b : Int))).toNat = j - b := by omega
  rw [e1, e2, ← compare_mul _ _ (2 ^ b) (Nat.two_pow_pos _), ← sgnZ_mul, ← sgnZ_mul, Nat.mul_assoc, Nat.mul_assoc, ← Nat.pow_add, ← Nat.pow_add, Nat.sub_add_cancel hb2, Nat.sub_add_cancel hb3]

theorem read_fin {w : Nat} (h : w < 18446744073709551616) (hf : w % 9223372036854775808 < 9218868437227405312) :
    ∃ m i : Nat, double.read w = .number (negW w) m (-1074 + i) ∧ m * 2 ^ i = valN (w % 9223372036854775808) := by
  rw [read_word h, if_pos hf]
  unfold valN
  split
  · exact ⟨_, 0, rfl, by simp⟩
  · exact ⟨_, _, rfl, rfl⟩

theorem compare_nat (a b : Nat) : compare a b = if a < b then .lt else if a = b then .eq else .gt := rfl
theorem compare_int (a b : Int) : compare a b = if a < b then .lt else if a = b then .eq else .gt := rfl

theorem order_words {a b : Nat} (ha : a < 18446744073709551616) (hb : b < 18446744073709551616) :
    double.order a b = if nanW a || nanW b then none else some (compare (rankW a) (rankW b)) := by
  unfold Format.order
  have key : ∀ w : Nat, w < 18446744073709551616 → (nanW w = true ∧ ∃ s t, double.read w = .nan s t) ∨ (nanW w = false ∧ w % 9223372036854775808 = 9218868437227405312 ∧ double.read w = .infinity (negW w)) ∨ (nanW w = false ∧ w % 9223372036854775808 < 9218868437227405312 ∧ ∃ m i : Nat, double.read w = .number (negW w) m (-1074 + i) ∧ m * 2 ^ i = valN (w % 9223372036854775808)) := by
    intro w hw
    by_cases h1 : w % 9223372036854775808 < 9218868437227405312
    · exact .inr (.inr ⟨by simp [nanW]; omega, h1, read_fin hw h1⟩)
    · by_cases h2 : w % 9223372036854775808 = 9218868437227405312
      · refine .inr (.inl ⟨by simp [nanW]; omega, h2, ?_⟩)
        rw [read_word hw, if_neg (by omega), if_neg (by omega), if_pos h2]
      · refine .inl ⟨by simp [nanW]; omega, negW w, w % 9223372036854775808 - 9218868437227405312, ?_⟩
        rw [read_word hw, if_neg (by omega), if_neg (by omega), if_neg h2]
  have rk : ∀ w : Nat, w < 18446744073709551616 → nanW w = false → (negW w = true ∧ rankW w = 9223372036854775808 - (if w % 9223372036854775808 = 0 then 0 else w % 9223372036854775808 + 1)) ∨ (negW w = false ∧ rankW w = 9223372036854775808 + w % 9223372036854775808) := by
    intro w hw hn
    simp only [nanW, decide_eq_false_iff_not] at hn
    unfold rankW plainW negW
    rw [if_neg hn]
    by_cases g : 9223372036854775808 ≤ w
    · refine .inl ⟨by simp [g], ?_⟩
      by_cases z : w % 9223372036854775808 = 0
      · simp [z]
      · rw [if_neg z, if_pos g, if_neg z]; omega
    · refine .inr ⟨by simp [g], ?_⟩
      by_cases z : w % 9223372036854775808 = 0
      · simp [z]
      · rw [if_neg z, if_neg g]; omega
  rcases key a ha with ⟨na, s, t, ra⟩ | ⟨na, ea, ra⟩ | ⟨na, ea, m, i, ra, va⟩
  · rw [ra, na]; rfl
  · rcases key b hb with ⟨nb, s', t', rb⟩ | ⟨nb, eb, rb⟩ | ⟨nb, eb, n, j, rb, vb⟩
    · rw [ra, rb, na, nb]; rfl
    · rw [ra, rb, na, nb]
      show some (compare (negW b).toNat (negW a).toNat) = some (compare (rankW a) (rankW b))
      rcases rk a ha na with ⟨sa, r1⟩ | ⟨sa, r1⟩ <;> rcases rk b hb nb with ⟨sb, r2⟩ | ⟨sb, r2⟩ <;> rw [r1, r2, sa, sb, ea, eb] <;> rfl
    · rw [ra, rb, na, nb]
      show some (if negW a then .lt else .gt) = some (compare (rankW a) (rankW b))
      rw [compare_nat]
      rcases rk a ha na with ⟨sa, r1⟩ | ⟨sa, r1⟩
      · have h : rankW a < rankW b := by
          rcases rk b hb nb with ⟨sb, r2⟩ | ⟨sb, r2⟩ <;> rw [r1, r2, ea] <;> (repeat' split) <;> omega
        rw [if_pos h, if_pos sa]
      · have h : rankW b < rankW a := by
          rcases rk b hb nb with ⟨sb, r2⟩ | ⟨sb, r2⟩ <;> rw [r1, r2, ea] <;> (repeat' split) <;> omega
        rw [if_neg (show ¬ rankW a < rankW b by omega), if_neg (show ¬ rankW a = rankW b by omega), sa]; rfl
  · rcases key b hb with ⟨nb, s', t', rb⟩ | ⟨nb, eb, rb⟩ | ⟨nb, eb, n, j, rb, vb⟩
    · rw [ra, rb, na, nb]; rfl
    · rw [ra, rb, na, nb]
      show some (if negW b then .gt else .lt) = some (compare (rankW a) (rankW b))
      rw [compare_nat]
      rcases rk b hb nb with ⟨sb, r2⟩ | ⟨sb, r2⟩
      · have h : rankW b < rankW a := by
          rcases rk a ha na with ⟨sa, r1⟩ | ⟨sa, r1⟩ <;> rw [r1, r2, eb] <;> (repeat' split) <;> omega
        rw [if_neg (show ¬ rankW a < rankW b by omega), if_neg (show ¬ rankW a = rankW b by omega), sb]; rfl
      · have h : rankW a < rankW b := by
          rcases rk a ha na with ⟨sa, r1⟩ | ⟨sa, r1⟩ <;> rw [r1, r2, eb] <;> (repeat' split) <;> omega
        rw [if_pos h, sb]; rfl
    · rw [ra, rb, na, nb, order_number, va, vb]
      show some _ = some _
      have hl := @valN_lt_iff (a % 9223372036854775808) (b % 9223372036854775808)
      have hg := @valN_lt_iff (b % 9223372036854775808) (a % 9223372036854775808)
      have za : a % 9223372036854775808 = 0 ↔ valN (a % 9223372036854775808) = 0 := valN_zero
      have zb : b % 9223372036854775808 = 0 ↔ valN (b % 9223372036854775808) = 0 := valN_zero
      have r1 := rk a ha na
      have r2 := rk b hb nb
      clear rk key va vb ra rb na nb ha hb
      generalize valN (a % 9223372036854775808) = x at *
      generalize valN (b % 9223372036854775808) = y at *
      generalize a % 9223372036854775808 = p at *
      generalize b % 9223372036854775808 = q at *
      generalize rankW a = u at *
      generalize rankW b = v at *
      have : (sgnZ (negW a) x < sgnZ (negW b) y ↔ u < v) ∧ (sgnZ (negW a) x = sgnZ (negW b) y ↔ u = v) := by
        unfold sgnZ
        rcases r1 with ⟨sa, r1⟩ | ⟨sa, r1⟩ <;> rcases r2 with ⟨sb, r2⟩ | ⟨sb, r2⟩ <;> rw [sa, sb] <;> simp only [if_true, Bool.false_eq_true, if_false] <;> (try split at r1) <;> (try split at r2) <;> omega
      rw [compare_int, compare_nat]
      simp only [this.1, this.2]
end Go.Proofs.YthlajfoipafaaaaDoor

namespace Go.Proofs.YthlajfoipafaaaaDoor
open Ieee

/- n / 2^d, to the nearest, of two that are as near the even one -/
def rne (n d : Nat) : Nat := n / 2 ^ d + if 2 ^ d < 2 * (n % 2 ^ d) ∨ (2 ^ d = 2 * (n % 2 ^ d) ∧ n / 2 ^ d % 2 = 1) then 1 else 0

theorem rne_zero (n : Nat) : rne n 0 = n := by
  unfold rne
  rw [Nat.pow_zero, Nat.div_one, Nat.mod_one, if_neg (by omega)]; rfl
theorem rne_shift (n d j : Nat) : rne (n * 2 ^ j) (d + j) = rne n d := by
  have hj : 0 < 2 ^ j := Nat.two_pow_pos _
  unfold rne
  rw [Nat.pow_add, Nat.mul_div_mul_right _ _ hj, Nat.mul_mod_mul_right]
  congr 1
  have e : 2 * (n % 2 ^ d * 2 ^ j) = (2 * (n % 2 ^ d)) * 2 ^ j := by rw [Nat.mul_assoc]
  rw [e]
  have h1 : 2 ^ d * 2 ^ j < (2 * (n % 2 ^ d)) * 2 ^ j ↔ 2 ^ d < 2 * (n % 2 ^ d) := Nat.mul_lt_mul_right hj
  have h2 : 2 ^ d * 2 ^ j = (2 * (n % 2 ^ d)) * 2 ^ j ↔ 2 ^ d = 2 * (n % 2 ^ d) := ⟨fun h => Nat.eq_of_mul_eq_mul_right hj h, fun h => congrArg (· * 2 ^ j) h⟩
  simp only [h1, h2]
theorem rne_whole (n d : Nat) : rne (n * 2 ^ d) d = n := by
  have := rne_shift n 0 d
  rw [Nat.zero_add, rne_zero] at this
  exact this
theorem rne_small {n d : Nat} (h : 2 * n < 2 ^ d) : rne n d = 0 := by
  unfold rne
  rw [Nat.div_eq_of_lt (by omega), Nat.mod_eq_of_lt (by omega), if_neg (by omega)]
theorem rne_le {n d B : Nat} (h : n ≤ B * 2 ^ d) : rne n d ≤ B := by
  unfold rne
  have hd : 0 < 2 ^ d := Nat.two_pow_pos _
  rcases Nat.lt_or_ge n (B * 2 ^ d) with h1 | h1
  · have h2 : n / 2 ^ d < B := (Nat.div_lt_iff_lt_mul hd).2 h1
    split <;> omega
  · have h3 : n = B * 2 ^ d := by omega
    rw [h3, Nat.mul_div_cancel _ hd, Nat.mul_mod_left, if_neg (by omega)]; omega
theorem le_rne {n d B : Nat} (h : B * 2 ^ d ≤ n) : B ≤ rne n d := by
  unfold rne
  have hd : 0 < 2 ^ d := Nat.two_pow_pos _
  have := (Nat.le_div_iff_mul_le hd).2 h
  omega

theorem cut_even (s : Bool) (n d : Nat) : Toward.even.cut s n d = rne n d := by
  unfold Toward.cut
  simp only [Nat.shiftLeft_eq, Nat.one_mul]
  have key : ∀ g, n / 2 ^ g + (decide (2 ^ g < 2 * (n % 2 ^ g)) || (2 ^ g == 2 * (n % 2 ^ g) && n / 2 ^ g % 2 == 1)).toNat = rne n g := by
    intro g
    unfold rne
    congr 1
    by_cases h1 : 2 ^ g < 2 * (n % 2 ^ g)
    · simp [h1]
    · by_cases h2 : 2 ^ g = 2 * (n % 2 ^ g) ∧ n / 2 ^ g % 2 = 1
      · rw [if_pos (.inr h2)]
        have h3 : (2 ^ g == 2 * (n % 2 ^ g)) = true := by simpa using h2.1
        simp [h3, h2.2]
      · rw [if_neg (by intro h; exact h.elim h1 h2)]
        have : (2 ^ g == 2 * (n % 2 ^ g) && n / 2 ^ g % 2 == 1) = false := by
          cases hh : (2 ^ g == 2 * (n % 2 ^ g) && n / 2 ^ g % 2 == 1)
          · rfl
          · simp only [Bool.and_eq_true, beq_iff_eq] at hh; exact absurd hh h2
        rw [this]
        simp [h1]
  rw [key]
  rcases Nat.le_total d (n.log2 + 2) with h | h
  · rw [Nat.min_eq_left h]
  · rw [Nat.min_eq_right h]
    have hn : n < 2 ^ (n.log2 + 1) := Nat.lt_log2_self
    have h1 : 2 ^ (n.log2 + 2) = 2 * 2 ^ (n.log2 + 1) := by rw [Nat.pow_succ, Nat.mul_comm]
    have h2 : 2 ^ (n.log2 + 2) ≤ 2 ^ d := Nat.pow_le_pow_right (by omega) h
    rw [rne_small (by omega), rne_small (by omega)]

/- what is kept of m, where its own last digit lies k places above the last one kept -/
def keep (m : Nat) (k : Int) : Nat := rne (m * 2 ^ k.toNat) (-k).toNat
theorem keep_shift (m j : Nat) (k : Int) : keep (m * 2 ^ j) (k - j) = keep m k := by
  unfold keep
  rcases Int.le_total k 0 with h | h
  · have e1 : (k - j).toNat = 0 := by omega
    have e2 : k.toNat = 0 := by omega
    have e3 : (-(k - (j : Int))).toNat = (-k).toNat + j := by omega
    rw [e1, e2, e3, Nat.pow_zero, Nat.mul_one, Nat.mul_one, rne_shift]
  · rcases Int.le_total k j with g | g
    · have e1 : (k - j).toNat = 0 := by omega
      have e2 : (-k).toNat = 0 := by omega
      have e3 : j = k.toNat + (-(k - (j : Int))).toNat := by omega
      rw [e1, e2, rne_zero, Nat.pow_zero, Nat.mul_one]
      have : m * 2 ^ j = (m * 2 ^ k.toNat) * 2 ^ (-(k - (j : Int))).toNat := by rw [Nat.mul_assoc, ← Nat.pow_add, ← e3]
      rw [this, rne_whole]
    · have e1 : (-(k - (j : Int))).toNat = 0 := by omega
      have e2 : (-k).toNat = 0 := by omega
      have e3 : k.toNat = j + (k - j).toNat := by omega
      rw [e1, e2, rne_zero, rne_zero, e3, Nat.pow_add, Nat.mul_assoc]

def wordZ (s : Bool) (r : Nat) : Nat := if s then 9223372036854775808 + r else r
theorem word_eq (s : Bool) (r : Nat) : double.word s r = wordZ s r := rfl

theorem nearest_eq (s : Bool) {m : Nat} (p : Int) (hm : 0 < m) :
    double.nearest s m p = wordZ s (min ((max (p + m.log2 - 52) (-1074) + 1074).toNat * 4503599627370496 + keep m (p - max (p + m.log2 - 52) (-1074))) 9218868437227405312) := by
  unfold Format.nearest
  rw [if_neg (by omega)]
  simp only [cut_even, Nat.shiftLeft_eq, word_eq]
  have hb : double.binade = 4503599627370496 := by rfl
  have hi : double.infRung = 9218868437227405312 := by rfl
  have hl : double.leastPlace = -1074 := by rfl
  have hf : (double.fractionBits : Int) = 52 := by rfl
  rw [hb, hi, hl, hf]
  unfold keep
  have e : -(p - max (p + (m.log2 : Int) - 52) (-1074)) = max (p + (m.log2 : Int) - 52) (-1074) - p := by omega
  rw [e, Int.sub_neg]

theorem log2_mul {m : Nat} (hm : 0 < m) (j : Nat) : (m * 2 ^ j).log2 = m.log2 + j := by
  have h1 : m * 2 ^ j ≠ 0 := Nat.ne_of_gt (Nat.mul_pos hm (Nat.two_pow_pos _))
  apply (Nat.log2_eq_iff h1).2
  have h2 := (Nat.log2_eq_iff (Nat.ne_of_gt hm)).1 rfl
  have hj : 0 < 2 ^ j := Nat.two_pow_pos _
  constructor
  · rw [Nat.pow_add]; exact Nat.mul_le_mul_right _ h2.1
  · rw [Nat.add_right_comm, Nat.pow_add]; exact Nat.mul_lt_mul_of_pos_right h2.2 hj

theorem nearest_shift (s : Bool) {m : Nat} (j : Nat) (p : Int) (hm : 0 < m) : double.nearest s (m * 2 ^ j) (p - j) = double.nearest s m p := by
  rw [nearest_eq s p hm, nearest_eq s (p - j) (Nat.mul_pos hm (Nat.two_pow_pos _)), log2_mul hm]
  have e : p - j + ((m.log2 + j : Nat) : Int) - 52 = p + m.log2 - 52 := by omega
  rw [e]
  generalize max (p + (m.log2 : Int) - 52) (-1074) = last
  have e2 : p - j - last = (p - last) - j := by omega
  rw [e2, keep_shift]

/- two that stand for the same number -/
theorem nearest_same (s : Bool) {m n : Nat} {p q : Int} (b : Int) (hp : b ≤ p) (hq : b ≤ q) (hm : 0 < m) (h : m * 2 ^ (p - b).toNat = n * 2 ^ (q - b).toNat) : double.nearest s m p = double.nearest s n q := by
  have hn : 0 < n := by
    rcases Nat.eq_zero_or_pos n with g | g
    · rw [g, Nat.zero_mul] at h
      have := Nat.mul_pos hm (Nat.two_pow_pos (p - b).toNat)
      omega
    · exact g
  rw [← nearest_shift s (p - b).toNat p hm, ← nearest_shift s (q - b).toNat q hn, h]
  congr 1
  omega

/- a number of fifty-three digits: nothing is lost -/
theorem nearest_full (s : Bool) {M : Nat} (j : Nat) (h1 : 4503599627370496 ≤ M) (h2 : M < 9007199254740992) : double.nearest s M (-1074 + j) = wordZ s (min (j * 4503599627370496 + M) 9218868437227405312) := by
  rw [nearest_eq s _ (by omega)]
  have hl : M.log2 = 52 := (Nat.log2_eq_iff (by omega)).2 ⟨h1, h2⟩
  have e : max (-1074 + (j : Int) + (M.log2 : Int) - 52) (-1074) = -1074 + j := by rw [hl]; omega
  rw [e]
  have e2 : (-1074 + (j : Int) + 1074).toNat = j := by omega
  have e3 : (-1074 + (j : Int)) - (-1074 + (j : Int)) = 0 := by omega
  rw [e2, e3]
  unfold keep
  simp [rne_zero]
/- below the normal ones -/
theorem nearest_low (s : Bool) {M : Nat} (d : Nat) (hM : 0 < M) (h2 : M < 9007199254740992) : double.nearest s M (-1074 - d) = wordZ s (rne M d) := by
  rw [nearest_eq s _ hM]
  have hl : M.log2 ≤ 52 := by have := (Nat.log2_lt (k := 53) (by omega : M ≠ 0)).2 h2; omega
  have e : max (-1074 - (d : Int) + (M.log2 : Int) - 52) (-1074) = -1074 := by omega
  rw [e]
  have e3 : (-1074 - (d : Int)) - (-1074) = -(d : Int) := by omega
  rw [e3]
  unfold keep
  have e4 : (-(d : Int)).toNat = 0 := by omega
  have e5 : (-(-(d : Int))).toNat = d := by omega
  rw [e4, e5, Nat.pow_zero, Nat.mul_one]
  have hr : rne M d ≤ 9007199254740992 := by
    have h3 : M ≤ 9007199254740992 * 2 ^ d := Nat.le_trans (Nat.le_of_lt h2) (Nat.le_mul_of_pos_right _ (Nat.two_pow_pos _))
    exact rne_le h3
  have e6 : ((-1074 : Int) + 1074).toNat = 0 := rfl
  rw [e6, Nat.zero_mul, Nat.zero_add, Nat.min_eq_left (by omega)]
/- beyond the greatest -/
theorem nearest_high (s : Bool) {M : Nat} (j : Nat) (h1 : 4503599627370496 ≤ M) (h2 : M < 9007199254740992) (hj : 2046 ≤ j) : double.nearest s M (-1074 + j) = wordZ s 9218868437227405312 := by
  rw [nearest_full s j h1 h2, Nat.min_eq_right (by omega)]

theorem wordZ_lt (s : Bool) {r : Nat} (h : r < 9223372036854775808) : wordZ s r < 18446744073709551616 := by unfold wordZ; split <;> omega
theorem wordZ_mod (s : Bool) {r : Nat} (h : r < 9223372036854775808) : wordZ s r % 9223372036854775808 = r := by unfold wordZ; split <;> omega
theorem wordZ_neg (s : Bool) {r : Nat} (h : r < 9223372036854775808) : negW (wordZ s r) = s := by unfold wordZ negW; cases s <;> simp <;> omega
theorem wordZ_of {w : Nat} (h : w < 18446744073709551616) : wordZ (negW w) (w % 9223372036854775808) = w := by
  unfold wordZ negW
  by_cases g : 9223372036854775808 ≤ w
  · simp [g]; omega
  · simp [g]; omega

theorem read_full (s : Bool) {M : Nat} (j : Nat) (h1 : 4503599627370496 ≤ M) (h2 : M < 9007199254740992) (hj : j < 2046) : double.read (wordZ s (j * 4503599627370496 + M)) = .number s M (-1074 + j) := by
  have hr : j * 4503599627370496 + M < 9223372036854775808 := by omega
  rw [read_word (wordZ_lt s hr), wordZ_mod s hr, wordZ_neg s hr, if_neg (by omega), if_pos (by omega)]
  obtain ⟨f, rfl⟩ : ∃ f, M = 4503599627370496 + f := ⟨M - 4503599627370496, by omega⟩
  have e : j * 4503599627370496 + (4503599627370496 + f) = (j + 1) * 4503599627370496 + f := by omega
  rw [e, rung_mod j (by omega), rung_div j (by omega)]

/- the word of a whole number that fits is just that number -/
theorem nearest_int (s : Bool) {n : Nat} (h1 : 0 < n) (h2 : n < 9007199254740992) : ∃ M j : Nat, 4503599627370496 ≤ M ∧ M < 9007199254740992 ∧ 1022 ≤ j ∧ j ≤ 1074 ∧ M = n * 2 ^ (1074 - j) ∧ double.nearest s n 0 = wordZ s (j * 4503599627370496 + M) := by
  have hl : n.log2 ≤ 52 := by have := (Nat.log2_lt (k := 53) (by omega : n ≠ 0)).2 h2; omega
  have hb := (Nat.log2_eq_iff (by omega : n ≠ 0)).1 rfl
  refine ⟨n * 2 ^ (52 - n.log2), 1022 + n.log2, ?_, ?_, by omega, by omega, by congr 2; omega, ?_⟩
  · have : 2 ^ n.log2 * 2 ^ (52 - n.log2) = 4503599627370496 := by rw [← Nat.pow_add, Nat.add_sub_cancel' hl]
    rw [← this]; exact Nat.mul_le_mul_right _ hb.1
  · have : 2 ^ (n.log2 + 1) * 2 ^ (52 - n.log2) = 9007199254740992 := by rw [← Nat.pow_add, Nat.add_right_comm, Nat.add_sub_cancel' hl]
    rw [← this]; exact Nat.mul_lt_mul_of_pos_right hb.2 (Nat.two_pow_pos _)
  · have g1 : 4503599627370496 ≤ n * 2 ^ (52 - n.log2) := by
      have : 2 ^ n.log2 * 2 ^ (52 - n.log2) = 4503599627370496 := by rw [← Nat.pow_add, Nat.add_sub_cancel' hl]
      rw [← this]; exact Nat.mul_le_mul_right _ hb.1
    have g2 : n * 2 ^ (52 - n.log2) < 9007199254740992 := by
      have : 2 ^ (n.log2 + 1) * 2 ^ (52 - n.log2) = 9007199254740992 := by rw [← Nat.pow_add, Nat.add_right_comm, Nat.add_sub_cancel' hl]
      rw [← this]; exact Nat.mul_lt_mul_of_pos_right hb.2 (Nat.two_pow_pos _)
    rw [← nearest_shift s (52 - n.log2) 0 h1]
    have e : (0 : Int) - ((52 - n.log2 : Nat) : Int) = -1074 + ((1022 + n.log2 : Nat) : Int) := by omega
    rw [e, nearest_full s _ g1 g2, Nat.min_eq_left]
    omega
end Go.Proofs.YthlajfoipafaaaaDoor
