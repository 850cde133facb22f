/- Plain facts on the words of whole numbers, and on Ticks. -/
import Derived.Test.YtkpdfjpdjjjfiaaLagE
namespace Go.Proofs.Ytkpdfjpdjjjfiaa
open Ieee

theorem pw_succ (k : Nat) : pw (k + 1) = pw k * 2 := Nat.pow_succ 2 k
theorem valN_full {M : Nat} (j : Nat) (h1 : 4503599627370496 ≤ M) (h2 : M < 9007199254740992) : valN (j * 4503599627370496 + M) = M * pw j := by
  have e : j * 4503599627370496 + M = (j + 1) * 4503599627370496 + (M - 4503599627370496) := by omega
  have e2 : 4503599627370496 + (M - 4503599627370496) = M := by omega
  rw [e, valN_of j (by omega), e2]

theorem of_val (s : Bool) {n : Nat} (h : n ≤ 9007199254740992) : ∃ r, double.nearest s n 0 = wordZ s r ∧ valN r = n * U ∧ r < 9218868437227405312 := by
  rcases (by omega : n = 0 ∨ (0 < n ∧ n < 9007199254740992) ∨ n = 9007199254740992) with rfl | ⟨h1, h2⟩ | rfl
  · exact ⟨0, rfl, by rw [Nat.zero_mul]; rfl, by decide⟩
  · obtain ⟨M, j, hM1, hM2, hj1, hj2, hM, hn⟩ := nearest_int s h1 h2
    refine ⟨_, hn, ?_, by omega⟩
    rw [valN_full j hM1 hM2, hM, Nat.mul_assoc, U_eq (i := 1074 - j) (j := j) (by omega)]
    rfl
  · have e := nearest_shift s (m := 4503599627370496) 1 1 (by decide)
    have e1 : (1 : Int) - ((1 : Nat) : Int) = 0 := by rfl
    have e2 : 4503599627370496 * 2 ^ 1 = 9007199254740992 := by rfl
    rw [e1, e2] at e
    have e3 : (1 : Int) = -1074 + ((1075 : Nat) : Int) := by rfl
    refine ⟨1075 * 4503599627370496 + 4503599627370496, ?_, ?_, by decide⟩
    · rw [e, e3, nearest_full s 1075 (by decide) (by decide), Nat.min_eq_left (by decide)]
    · rw [valN_full 1075 (by decide) (by decide)]
      have e4 := pw_succ 1074
      rw [show 1074 + 1 = 1075 from rfl] at e4
      unfold U
      rw [e4]
      generalize pw 1074 = z
      omega

theorem of_word (n : Int) (h1 : -9007199254740992 ≤ n) (h2 : n ≤ 9007199254740992) :
    ∃ r, valN r = n.natAbs * U ∧ r < 9218868437227405312 ∧ (n = 0 ↔ r = 0) ∧ ofW n = (if n < 0 then 9223372036854775808 + r else r) ∧ rankW (ofW n) = (if n < 0 then 9223372036854775807 - r else 9223372036854775808 + r) := by
  obtain ⟨r, hr, hv, hlt⟩ := of_val (decide (n < 0)) (n := n.natAbs) (by omega)
  have hU := U_pos
  have hz : n = 0 ↔ r = 0 := by
    rw [valN_zero, hv]
    constructor
    · intro h; subst h; simp
    · intro h
      rcases Nat.mul_eq_zero.1 h with g | g
      · omega
      · omega
  have hw : ofW n = (if n < 0 then 9223372036854775808 + r else r) := by
    show plainW (double.nearest (decide (n < 0)) n.natAbs 0) = _
    rw [hr]
    unfold plainW
    rw [wordZ_mod _ (by omega), if_neg (by omega)]
    by_cases z : r = 0
    · rw [if_pos z, if_neg (by omega), z]
    · rw [if_neg z]
      unfold wordZ
      by_cases g : n < 0 <;> simp [g]
  refine ⟨r, hv, hlt, hz, hw, ?_⟩
  unfold rankW
  have hp : plainW (ofW n) = ofW n := plainW_idem _
  rw [hp, hw]
  by_cases g : n < 0
  · rw [if_pos g, if_pos (by omega), if_pos g]; omega
  · rw [if_neg g, if_neg (by omega), if_neg g]; omega
theorem ofW_lt (n : Int) : ofW n < 18446744073709551616 := plainW_lt (floatOfInt_lt n)
theorem ofW_plain (n : Int) : plainW (ofW n) = ofW n := plainW_idem _

theorem of_rank_lt (x y : Int) (hx1 : -9007199254740992 ≤ x) (hx2 : x ≤ 9007199254740992) (hy1 : -9007199254740992 ≤ y) (hy2 : y ≤ 9007199254740992) : rankW (ofW x) < rankW (ofW y) ↔ x < y := by
  obtain ⟨r, hr, hrl, hrz, -, hr2⟩ := of_word x hx1 hx2
  obtain ⟨q, hq, hql, hqz, -, hq2⟩ := of_word y hy1 hy2
  have hU := U_pos
  have a1 : r < q ↔ x.natAbs < y.natAbs := by rw [← valN_lt_iff, hr, hq]; exact Nat.mul_lt_mul_right hU
  have a2 : q < r ↔ y.natAbs < x.natAbs := by rw [← valN_lt_iff, hr, hq]; exact Nat.mul_lt_mul_right hU
  rw [hr2, hq2]
  by_cases g1 : x < 0 <;> by_cases g2 : y < 0 <;> simp only [g1, g2, if_true, if_false] <;> omega
theorem of_less (x y : Int) (hx1 : -9007199254740992 ≤ x) (hx2 : x ≤ 9007199254740992) (hy1 : -9007199254740992 ≤ y) (hy2 : y ≤ 9007199254740992) : lessW (ofW x) (ofW y) = decide (x < y) := by
  unfold lessW
  exact decide_eq_decide.2 (of_rank_lt x y hx1 hx2 hy1 hy2)
theorem of_inj (x y : Int) (hx1 : -9007199254740992 ≤ x) (hx2 : x ≤ 9007199254740992) (hy1 : -9007199254740992 ≤ y) (hy2 : y ≤ 9007199254740992) : ofW x = ofW y ↔ x = y := by
  constructor
  · intro h
    have h1 := of_rank_lt x y hx1 hx2 hy1 hy2
    have h2 := of_rank_lt y x hy1 hy2 hx1 hx2
    rw [h] at h1 h2
    omega
  · intro h; rw [h]

theorem ceilD_whole (a : Nat) : ceilD (a * U) U = a := by
  have hU := U_pos
  apply Nat.le_antisymm
  · exact (ceilD_le hU).2 (Nat.le_refl _)
  · have := (ceilD_le (n := a * U) hU).1 (Nat.le_refl _)
    exact Nat.le_of_mul_le_mul_right this hU

theorem ticks_of (a : Nat) (h : a ≤ 1099511627776) : ticksW (ofW a) = a ∧ ticksE (ofW a) = 0 ∧ ticksW (ofW (-(a : Int))) = 0 ∧ ticksE (ofW (-(a : Int))) = 0 := by
  obtain ⟨r, hr, hrl, hrz, hw, -⟩ := of_word a (by omega) (by omega)
  obtain ⟨q, hq, hql, hqz, hw2, -⟩ := of_word (-(a : Int)) (by omega) (by omega)
  rw [if_neg (by omega)] at hw
  have hn : nanW r = false := by simp [nanW]; omega
  have hle : r ≤ 4787326403894837248 := by
    rw [← valN_le_iff, hr, valN_tick]
    exact Nat.mul_le_mul_right _ (by omega)
  have hn2 : nanW (ofW (-(a : Int))) = false := by rw [hw2]; simp [nanW]; split <;> omega
  refine ⟨?_, ?_, ?_, ?_⟩
  · rw [hw]
    unfold ticksW
    rw [hn, if_neg (by simp)]
    by_cases z : r = 0
    · rw [if_pos (.inr z)]; omega
    · rw [if_neg (by omega), if_neg (by omega), hr]
      exact ceilD_whole a
  · rw [hw]; unfold ticksE; rw [hn]; rfl
  · unfold ticksW
    rw [hn2, if_neg (by simp), if_pos]
    rw [hw2]
    by_cases z : a = 0
    · right; rw [if_neg (by omega)]; omega
    · left; rw [if_pos (by omega)]; omega
  · unfold ticksE; rw [hn2]; rfl

/- Ticks of a word that is no NaN's -/
theorem ticks_cases {w : Nat} (hw : w < 18446744073709551616) (hn : nanW w = false) :
    (rankW w ≤ 9223372036854775808 ∧ ticksW w = 0) ∨ (rankW w = 9223372036854775808 + w ∧ 0 < w ∧ w ≤ 4787326403894837248 ∧ ticksW w = ceilD (valN w) U) ∨ (rankW w = 9223372036854775808 + w ∧ 4787326403894837248 < w ∧ ticksW w = 1099511627776) := by
  have hn' := hn
  simp only [nanW, decide_eq_false_iff_not] at hn'
  unfold ticksW
  rw [hn, if_neg (by simp)]
  by_cases z : 9223372036854775808 ≤ w ∨ w = 0
  · left
    rw [if_pos z]
    refine ⟨?_, rfl⟩
    unfold rankW plainW
    rw [if_neg hn']
    split <;> split <;> omega
  · right
    have hr : rankW w = 9223372036854775808 + w := by
      unfold rankW plainW
      rw [if_neg hn']
      split <;> split <;> omega
    rw [if_neg z]
    by_cases g : 4787326403894837248 < w
    · right; exact ⟨hr, g, by rw [if_pos g]⟩
    · left; exact ⟨hr, by omega, by omega, by rw [if_neg g]⟩
theorem ticks_le {w : Nat} (hw : w < 18446744073709551616) (hn : nanW w = false) : ticksW w ≤ 1099511627776 := by
  rcases ticks_cases hw hn with ⟨-, h⟩ | ⟨-, -, h1, h⟩ | ⟨-, -, h⟩
  · omega
  · rw [h, ceilD_le U_pos, ← valN_tick]
    exact valN_le_iff.2 h1
  · omega
theorem ticks_zero {w : Nat} (hw : w < 18446744073709551616) (hn : nanW w = false) : ticksW w = 0 ↔ lessW 0 w = false := by
  have r0 : rankW 0 = 9223372036854775808 := rfl
  unfold lessW
  rw [r0, decide_eq_false_iff_not]
  rcases ticks_cases hw hn with ⟨h1, h⟩ | ⟨h1, h2, h3, h⟩ | ⟨h1, h2, h⟩
  · omega
  · have := ceilD_pos U_pos (valN_pos h2)
    omega
  · omega
theorem ticks_below {w : Nat} (hw : w < 18446744073709551616) (hn : nanW w = false) (h : 0 < ticksW w) : lessW (ofW ((ticksW w : Int) - 1)) w = true := by
  have hle := ticks_le hw hn
  obtain ⟨r, hr, hrl, hrz, -, hr2⟩ := of_word ((ticksW w : Int) - 1) (by omega) (by omega)
  rw [if_neg (by omega)] at hr2
  have ha : ((ticksW w : Int) - 1).natAbs = ticksW w - 1 := by omega
  rw [ha] at hr
  have hU := U_pos
  unfold lessW
  rw [decide_eq_true_eq, hr2]
  rcases ticks_cases hw hn with ⟨h1, h2⟩ | ⟨h1, h2, h3, h4⟩ | ⟨h1, h2, h3⟩
  · omega
  · rw [h1]
    have : r < w := by
      rw [← valN_lt_iff, hr]
      have := (@ceilD_le (valN w) U (ticksW w - 1) hU)
      omega
    omega
  · rw [h1]
    have : r < w := by
      refine Nat.lt_trans ?_ h2
      rw [← valN_lt_iff, hr, valN_tick]
      exact Nat.mul_lt_mul_of_pos_right (by omega) hU
    omega
theorem ticks_above {w : Nat} (hw : w < 18446744073709551616) (hn : nanW w = false) (h : ticksW w < 1099511627776) : lessW (ofW (ticksW w : Int)) w = false := by
  obtain ⟨r, hr, hrl, hrz, -, hr2⟩ := of_word (ticksW w : Int) (by omega) (by omega)
  rw [if_neg (by omega)] at hr2
  have hU := U_pos
  unfold lessW
  rw [decide_eq_false_iff_not, hr2]
  rcases ticks_cases hw hn with ⟨h1, h2⟩ | ⟨h1, h2, h3, h4⟩ | ⟨h1, h2, h3⟩
  · omega
  · rw [h1]
    have : w ≤ r := by
      rw [← valN_le_iff, hr]
      have := (@ceilD_le (valN w) U (ticksW w) hU)
      simp only [Int.natAbs_natCast]
      omega
    omega
  · omega
theorem ticks_mono {a b : Nat} (ha : a < 18446744073709551616) (hb : b < 18446744073709551616) (na : nanW a = false) (nb : nanW b = false) (h : lessW a b = true) : ticksW a ≤ ticksW b := by
  have hU := U_pos
  have hla := ticks_le ha na
  unfold lessW at h
  rw [decide_eq_true_eq] at h
  rcases ticks_cases ha na with ⟨h1, h2⟩ | ⟨h1, h2, h3, h4⟩ | ⟨h1, h2, h3⟩
  · omega
  · rcases ticks_cases hb nb with ⟨g1, g2⟩ | ⟨g1, g2, g3, g4⟩ | ⟨g1, g2, g3⟩
    · omega
    · rw [h4, g4, ceilD_le hU]
      have h5 : valN a < valN b := valN_lt (by omega)
      have h6 := (ceilD_le (n := valN b) hU).1 (Nat.le_refl _)
      omega
    · omega
  · rcases ticks_cases hb nb with ⟨g1, g2⟩ | ⟨g1, g2, g3, g4⟩ | ⟨g1, g2, g3⟩ <;> omega
end Go.Proofs.Ytkpdfjpdjjjfiaa
