/- Plain facts on the words of float64s: what a word stands for, the order of words, and rounding to the nearest one. -/
import Derived.Laws.FloatArith
namespace Go.Proofs.Ytkpdfjpdjjjfiaa
open Ieee

def nanW (w : Nat) : Bool := decide (9218868437227405312 < w % 9223372036854775808)
def plainW (w : Nat) : Nat := if 9218868437227405312 < w % 9223372036854775808 then 9221120237041090561 else if w % 9223372036854775808 = 0 then 0 else w
def rankW (w : Nat) : Nat := if 9223372036854775808 ≤ plainW w then 18446744073709551615 - plainW w else plainW w + 9223372036854775808
def lessW (a b : Nat) : Bool := decide (rankW a < rankW b)

/- what a rung stands for, in units of the least place -/
def valN (r : Nat) : Nat := if r < 4503599627370496 then r else (4503599627370496 + r % 4503599627370496) * 2 ^ (r / 4503599627370496 - 1)

theorem plainW_lt {w : Nat} (h : w < 18446744073709551616) : plainW w < 18446744073709551616 := by unfold plainW; split <;> (try split) <;> omega
theorem plainW_idem (w : Nat) : plainW (plainW w) = plainW w := by
  unfold plainW
  split
  · simp
  · split
    · simp
    · rfl
theorem nanW_plain (w : Nat) : nanW (plainW w) = nanW w := by
  unfold nanW plainW
  split
  · rename_i h; simp [h]
  · split
    · rename_i h g; simp [g]
    · rfl
theorem rankW_plain (w : Nat) : rankW (plainW w) = rankW w := by unfold rankW; rw [plainW_idem]
theorem rankW_inj {a b : Nat} (ha : a < 18446744073709551616) (hb : b < 18446744073709551616) (h : rankW a = rankW b) : plainW a = plainW b := by
  have h1 := plainW_lt ha
  have h2 := plainW_lt hb
  unfold rankW at h
  split at h <;> split at h <;> omega
theorem rankW_eq_iff {a b : Nat} (ha : a < 18446744073709551616) (hb : b < 18446744073709551616) : rankW a = rankW b ↔ plainW a = plainW b :=
  ⟨rankW_inj ha hb, fun h => by unfold rankW; rw [h]⟩

theorem valN_pos {r : Nat} (h : 0 < r) : 0 < valN r := by
  unfold valN
  split
  · exact h
  · exact Nat.mul_pos (by omega) (Nat.two_pow_pos _)
theorem valN_zero {r : Nat} : r = 0 ↔ valN r = 0 := by
  refine ⟨fun h => by rw [h]; rfl, fun h => ?_⟩
  rcases Nat.eq_zero_or_pos r with g | g
  · exact g
  · have := valN_pos g; omega
theorem rung_mod (e : Nat) {f : Nat} (hf : f < 4503599627370496) : ((e + 1) * 4503599627370496 + f) % 4503599627370496 = f := by
  rw [Nat.add_comm, Nat.add_mul_mod_self_right, Nat.mod_eq_of_lt hf]
theorem rung_div (e : Nat) {f : Nat} (hf : f < 4503599627370496) : ((e + 1) * 4503599627370496 + f) / 4503599627370496 - 1 = e := by
  rw [Nat.add_comm, Nat.add_mul_div_right _ _ (Nat.zero_lt_succ _), Nat.div_eq_of_lt hf]; omega
theorem valN_lt {a b : Nat} (h : a < b) : valN a < valN b := by
  unfold valN
  split
  · split
    · exact h
    · refine Nat.lt_of_lt_of_le ?_ (Nat.le_mul_of_pos_right _ (Nat.two_pow_pos _)); omega
  · rw [if_neg (by omega)]
    obtain ⟨e, f, rfl, hf⟩ : ∃ e f, a = (e + 1) * 4503599627370496 + f ∧ f < 4503599627370496 := ⟨a / 4503599627370496 - 1, a % 4503599627370496, by omega, by omega⟩
    obtain ⟨e', f', rfl, hf'⟩ : ∃ e f, b = (e + 1) * 4503599627370496 + f ∧ f < 4503599627370496 := ⟨b / 4503599627370496 - 1, b % 4503599627370496, by omega, by omega⟩
    rw [rung_mod e hf, rung_mod e' hf', rung_div e hf, rung_div e' hf']
    have h : (e + 1) * 4503599627370496 + f < (e' + 1) * 4503599627370496 + f' := h
    have hp : 0 < 2 ^ e := Nat.two_pow_pos _
    rcases Nat.lt_or_ge e e' with hl | hl
    · obtain ⟨d, rfl⟩ : ∃ d, e' = e + 1 + d := ⟨e' - e - 1, by omega⟩
      have : 2 ^ e * 2 ≤ 2 ^ (e + 1 + d) := by
        rw [← Nat.pow_succ]
        exact Nat.pow_le_pow_right (by omega) (by omega)
      calc (4503599627370496 + f) * 2 ^ e < (4503599627370496 + 4503599627370496) * 2 ^ e := Nat.mul_lt_mul_of_pos_right (by omega) hp
        _ = 4503599627370496 * (2 ^ e * 2) := by rw [← Nat.mul_two, Nat.mul_assoc, Nat.mul_comm 2]
        _ ≤ 4503599627370496 * 2 ^ (e + 1 + d) := Nat.mul_le_mul_left _ this
        _ ≤ (4503599627370496 + f') * 2 ^ (e + 1 + d) := Nat.mul_le_mul_right _ (by omega)
    · obtain rfl : e = e' := by omega
      exact Nat.mul_lt_mul_of_pos_right (by omega) hp
theorem valN_lt_iff {a b : Nat} : valN a < valN b ↔ a < b := by
  refine ⟨fun h => ?_, valN_lt⟩
  rcases Nat.lt_trichotomy a b with h1 | rfl | h1
  · exact h1
  · omega
  · have := valN_lt h1; omega
theorem valN_inj {a b : Nat} (h : valN a = valN b) : a = b := by
  rcases Nat.lt_trichotomy a b with h1 | h1 | h1
  · have := valN_lt h1; omega
  · exact h1
  · have := valN_lt h1; omega
theorem valN_le_iff {a b : Nat} : valN a ≤ valN b ↔ a ≤ b := by
  have := @valN_lt_iff b a
  omega

/- a word, by its sign and its rung -/
def negW (w : Nat) : Bool := decide (9223372036854775808 ≤ w)
theorem read_word {w : Nat} (h : w < 18446744073709551616) :
    double.read w = if w % 9223372036854775808 < 4503599627370496 then .number (negW w) (w % 9223372036854775808) (-1074)
      else if w % 9223372036854775808 < 9218868437227405312 then .number (negW w) (4503599627370496 + w % 9223372036854775808 % 4503599627370496) (-1074 + (w % 9223372036854775808 / 4503599627370496 - 1 : Nat))
      else if w % 9223372036854775808 = 9218868437227405312 then .infinity (negW w) else .nan (negW w) (w % 9223372036854775808 - 9218868437227405312) := by
  have hs : double.signWeight = 9223372036854775808 := by rfl
  have hb : double.binade = 4503599627370496 := by rfl
  have hi : double.infRung = 9218868437227405312 := by rfl
  have hl : double.leastPlace = -1074 := by rfl
  have hn : (w / 9223372036854775808 % 2 == 1) = negW w := by
    unfold negW
    by_cases g : 9223372036854775808 ≤ w
    · have : w / 9223372036854775808 = 1 := by omega
      simp [this, g]
    · have : w / 9223372036854775808 = 0 := by omega
      simp [this, g]
  unfold Format.read
  rw [hs, hb, hi, hl]
  simp only [hn]

def sgnZ (s : Bool) (n : Nat) : Int := if s then -(n : Int) else n
theorem signed_eq (s : Bool) (m u : Nat) : signed s m u = sgnZ s (m * 2 ^ u) := by
  unfold signed sgnZ
  rw [Nat.shiftLeft_eq]
theorem sgnZ_mul (s : Bool) (n c : Nat) : sgnZ s (n * c) = sgnZ s n * c := by
  unfold sgnZ
  split <;> simp [Int.neg_mul]

theorem compare_mul (x y : Int) (c : Nat) (hc : 0 < c) : compare (x * c) (y * c) = compare x y := by
  have hc' : (0 : Int) < c := by omega
  have h1 : x * c < y * c ↔ x < y := ⟨fun h => Int.lt_of_mul_lt_mul_right h (by omega), fun h => Int.mul_lt_mul_of_pos_right h hc'⟩
  have h2 : x * c = y * c ↔ x = y := ⟨fun h => Int.eq_of_mul_eq_mul_right (by omega) h, fun h => by rw [h]⟩
  show compareOfLessAndEq _ _ = compareOfLessAndEq _ _
  unfold compareOfLessAndEq
  simp only [h1, h2]

theorem order_number (s t : Bool) (m n : Nat) (i j : Nat) :
    (Datum.number s m (-1074 + i)).order (.number t n (-1074 + j)) = some (compare (sgnZ s (m * 2 ^ i)) (sgnZ t (n * 2 ^ j))) := by
  show some (compare (signed s m ((-1074 + (i : Int)) - min (-1074 + (i : Int)) (-1074 + (j : Int))).toNat) (signed t n ((-1074 + (j : Int)) - min (-1074 + (i : Int)) (-1074 + (j : Int))).toNat)) = _
  obtain ⟨b, hb1, hb2, hb3⟩ : ∃ b : Nat, min (-1074 + (i : Int)) (-1074 + (j : Int)) = -1074 + b ∧ b ≤ i ∧ b ≤ j := ⟨min i j, by omega, by omega, by omega⟩
  rw [hb1, signed_eq, signed_eq]
  have e1 : (-1074 + (i : Int) - (-1074 + (b : Int))).toNat = i - b := by omega
  have e2 : (-1074 + (j : Int) - (-1074 + (b : Int))).toNat = j - b := by omega
  rw [e1, e2, ← compare_mul _ _ (2 ^ b) (Nat.two_pow_pos _), ← sgnZ_mul, ← sgnZ_mul, Nat.mul_assoc, Nat.mul_assoc, ← Nat.pow_add, ← Nat.pow_add, Nat.sub_add_cancel hb2, Nat.sub_add_cancel hb3]

theorem read_fin {w : Nat} (h : w < 18446744073709551616) (hf : w % 9223372036854775808 < 9218868437227405312) :
    ∃ m i : Nat, double.read w = .number (negW w) m (-1074 + i) ∧ m * 2 ^ i = valN (w % 9223372036854775808) := by
  rw [read_word h, if_pos hf]
  unfold valN
  split
  · exact ⟨_, 0, rfl, by simp⟩
  · exact ⟨_, _, rfl, rfl⟩

theorem compare_nat (a b : Nat) : compare a b = if a < b then .lt else if a = b then .eq else .gt := rfl
theorem compare_int (a b : Int) : compare a b = if a < b then .lt else if a = b then .eq else .gt := rfl

theorem order_words {a b : Nat} (ha : a < 18446744073709551616) (hb : b < 18446744073709551616) :
    double.order a b = if nanW a || nanW b then none else some (compare (rankW a) (rankW b)) := by
  unfold Format.order
  have key : ∀ w : Nat, w < 18446744073709551616 → (nanW w = true ∧ ∃ s t, double.read w = .nan s t) ∨ (nanW w = false ∧ w % 9223372036854775808 = 9218868437227405312 ∧ double.read w = .infinity (negW w)) ∨ (nanW w = false ∧ w % 9223372036854775808 < 9218868437227405312 ∧ ∃ m i : Nat, double.read w = .number (negW w) m (-1074 + i) ∧ m * 2 ^ i = valN (w % 9223372036854775808)) := by
    intro w hw
    by_cases h1 : w % 9223372036854775808 < 9218868437227405312
    · exact .inr (.inr ⟨by simp [nanW]; omega, h1, read_fin hw h1⟩)
    · by_cases h2 : w % 9223372036854775808 = 9218868437227405312
      · refine .inr (.inl ⟨by simp [nanW]; omega, h2, ?_⟩)
        rw [read_word hw, if_neg (by omega), if_neg (by omega), if_pos h2]
      · refine .inl ⟨by simp [nanW]; omega, negW w, w % 9223372036854775808 - 9218868437227405312, ?_⟩
        rw [read_word hw, if_neg (by omega), if_neg (by omega), if_neg h2]
  have rk : ∀ w : Nat, w < 18446744073709551616 → nanW w = false → (negW w = true ∧ rankW w = 9223372036854775808 - (if w % 9223372036854775808 = 0 then 0 else w % 9223372036854775808 + 1)) ∨ (negW w = false ∧ rankW w = 9223372036854775808 + w % 9223372036854775808) := by
    intro w hw hn
    simp only [nanW, decide_eq_false_iff_not] at hn
    unfold rankW plainW negW
    rw [if_neg hn]
    by_cases g : 9223372036854775808 ≤ w
    · refine .inl ⟨by simp [g], ?_⟩
      by_cases z : w % 9223372036854775808 = 0
      · simp [z]
      · rw [if_neg z, if_pos g, if_neg z]; omega
    · refine .inr ⟨by simp [g], ?_⟩
      by_cases z : w % 9223372036854775808 = 0
      · simp [z]
      · rw [if_neg z, if_neg g]; omega
  rcases key a ha with ⟨na, s, t, ra⟩ | ⟨na, ea, ra⟩ | ⟨na, ea, m, i, ra, va⟩
  · rw [ra, na]; rfl
  · rcases key b hb with ⟨nb, s', t', rb⟩ | ⟨nb, eb, rb⟩ | ⟨nb, eb, n, j, rb, vb⟩
    · rw [ra, rb, na, nb]; rfl
    · rw [ra, rb, na, nb]
      show some (compare (negW b).toNat (negW a).toNat) = some (compare (rankW a) (rankW b))
      rcases rk a ha na with ⟨sa, r1⟩ | ⟨sa, r1⟩ <;> rcases rk b hb nb with ⟨sb, r2⟩ | ⟨sb, r2⟩ <;> rw [r1, r2, sa, sb, ea, eb] <;> rfl
    · rw [ra, rb, na, nb]
      show some (if negW a then .lt else .gt) = some (compare (rankW a) (rankW b))
      rw [compare_nat]
      rcases rk a ha na with ⟨sa, r1⟩ | ⟨sa, r1⟩
      · have h : rankW a < rankW b := by
          rcases rk b hb nb with ⟨sb, r2⟩ | ⟨sb, r2⟩ <;> rw [r1, r2, ea] <;> (repeat' split) <;> omega
        rw [if_pos h, if_pos sa]
      · have h : rankW b < rankW a := by
          rcases rk b hb nb with ⟨sb, r2⟩ | ⟨sb, r2⟩ <;> rw [r1, r2, ea] <;> (repeat' split) <;> omega
        rw [if_neg (show ¬ rankW a < rankW b by omega), if_neg (show ¬ rankW a = rankW b by omega), sa]; rfl
  · rcases key b hb with ⟨nb, s', t', rb⟩ | ⟨nb, eb, rb⟩ | ⟨nb, eb, n, j, rb, vb⟩
    · rw [ra, rb, na, nb]; rfl
    · rw [ra, rb, na, nb]
      show some (if negW b then .gt else .lt) = some (compare (rankW a) (rankW b))
      rw [compare_nat]
      rcases rk b hb nb with ⟨sb, r2⟩ | ⟨sb, r2⟩
      · have h : rankW b < rankW a := by
          rcases rk a ha na with ⟨sa, r1⟩ | ⟨sa, r1⟩ <;> rw [r1, r2, eb] <;> (repeat' split) <;> omega
        rw [if_neg (show ¬ rankW a < rankW b by omega), if_neg (show ¬ rankW a = rankW b by omega), sb]; rfl
      · have h : rankW a < rankW b := by
          rcases rk a ha na with ⟨sa, r1⟩ | ⟨sa, r1⟩ <;> rw [r1, r2, eb] <;> (repeat' split) <;> omega
        rw [if_pos h, sb]; rfl
    · rw [ra, rb, na, nb, order_number, va, vb]
      show some _ = some _
      have hl := @valN_lt_iff (a % 9223372036854775808) (b % 9223372036854775808)
      have hg := @valN_lt_iff (b % 9223372036854775808) (a % 9223372036854775808)
      have za : a % 9223372036854775808 = 0 ↔ valN (a % 9223372036854775808) = 0 := valN_zero
      have zb : b % 9223372036854775808 = 0 ↔ valN (b % 9223372036854775808) = 0 := valN_zero
      have r1 := rk a ha na
      have r2 := rk b hb nb
      clear rk key va vb ra rb na nb ha hb
      generalize valN (a % 9223372036854775808) = x at *
      generalize valN (b % 9223372036854775808) = y at *
      generalize a % 9223372036854775808 = p at *
      generalize b % 9223372036854775808 = q at *
      generalize rankW a = u at *
      generalize rankW b = v at *
      have : (sgnZ (negW a) x < sgnZ (negW b) y ↔ u < v) ∧ (sgnZ (negW a) x = sgnZ (negW b) y ↔ u = v) := by
        unfold sgnZ
        rcases r1 with ⟨sa, r1⟩ | ⟨sa, r1⟩ <;> rcases r2 with ⟨sb, r2⟩ | ⟨sb, r2⟩ <;> rw [sa, sb] <;> simp only [if_true, Bool.false_eq_true, if_false] <;> (try split at r1) <;> (try split at r2) <;> omega
      rw [compare_int, compare_nat]
      simp only [this.1, this.2]
end Go.Proofs.Ytkpdfjpdjjjfiaa
