/- Plain facts on Scale. -/
import Derived.Test.YtkpdfjpdjjjfiaaLagH
namespace Go.Proofs.Ytkpdfjpdjjjfiaa
open Ieee

theorem nearest_self {w : Nat} (hw : w < 18446744073709551616) (h0 : 0 < w % 9223372036854775808) (h1 : w % 9223372036854775808 < 9218868437227405312) :
    ∃ m p, double.read w = .number (negW w) m p ∧ 0 < m ∧ double.nearest (negW w) m p = w := by
  by_cases g : w % 9223372036854775808 < 4503599627370496
  · refine ⟨w % 9223372036854775808, -1074, by rw [read_word hw, if_pos g], h0, ?_⟩
    have e := nearest_low (negW w) (M := w % 9223372036854775808) 0 h0 (by omega)
    have e0 : (-1074 : Int) - ((0 : Nat) : Int) = -1074 := by rfl
    rw [e0] at e
    rw [e, rne_zero, wordZ_of hw]
  · obtain ⟨M, j, hN, hx⟩ := normal_self hw (by omega) h1
    obtain ⟨h1, h2, h3, -, m, p, hr, hm, hq⟩ := hN
    refine ⟨m, p, hr, hm, ?_⟩
    have := hq 0
    rw [Int.add_zero] at this
    rw [this, Int.add_zero, Int.add_zero, nearest_full _ _ h1 h2, Nat.min_eq_left (by omega)]
    exact hx.symm

theorem scale_special {w : Nat} (k : Int) (hw : w < 18446744073709551616) (h : w % 9223372036854775808 = 0 ∨ 9218868437227405312 ≤ w % 9223372036854775808) : scaleW w k = plainW w := by
  unfold scaleW ldexpW
  rw [read_word hw]
  rcases h with h | h
  · rw [if_pos (by omega)]
    simp [h]
  · rw [if_neg (by omega), if_neg (by omega)]
    by_cases g : w % 9223372036854775808 = 9218868437227405312
    · rw [if_pos g]
    · rw [if_neg g]
theorem scale_zero {w : Nat} (hw : w < 18446744073709551616) : scaleW w 0 = plainW w := by
  by_cases h : w % 9223372036854775808 = 0 ∨ 9218868437227405312 ≤ w % 9223372036854775808
  · exact scale_special 0 hw h
  · obtain ⟨m, p, hr, hm, hn⟩ := nearest_self hw (by omega) (by omega)
    unfold scaleW ldexpW
    rw [hr]
    show plainW (if m = 0 then w else double.nearest (negW w) m (p + 0)) = plainW w
    rw [if_neg (by omega), Int.add_zero, hn]
theorem scale_plain {w : Nat} (k : Int) (hw : w < 18446744073709551616) : scaleW (plainW w) k = scaleW w k := by
  by_cases h : w % 9223372036854775808 = 0 ∨ 9218868437227405312 < w % 9223372036854775808
  · have h2 : plainW w % 9223372036854775808 = 0 ∨ 9218868437227405312 ≤ plainW w % 9223372036854775808 := by
      unfold plainW
      rcases h with h | h
      · rw [if_neg (by omega), if_pos h]; left; rfl
      · rw [if_pos h]; right; decide
    rw [scale_special k hw (by omega), scale_special k (plainW_lt hw) h2, plainW_idem]
  · have : plainW w = w := by unfold plainW; rw [if_neg (by omega), if_neg (by omega)]
    rw [this]
/- a normal one, scaled to a normal one -/
theorem scale_normal (s : Bool) {M j j' : Nat} (k : Int) (h1 : 4503599627370496 ≤ M) (h2 : M < 9007199254740992) (hj : j < 2046) (hj' : j' < 2046) (hk1 : -2200 ≤ k) (hk2 : k ≤ 2200) (he : (j' : Int) = j + k) :
    scaleW (wordZ s (j * 4503599627370496 + M)) k = wordZ s (j' * 4503599627370496 + M) := by
  unfold scaleW ldexpW
  rw [read_full s j h1 h2 hj]
  show plainW (if M = 0 then _ else double.nearest s M (-1074 + (j : Int) + min (max k (-2200)) 2200)) = _
  have e : -1074 + (j : Int) + min (max k (-2200)) 2200 = -1074 + (j' : Int) := by omega
  rw [if_neg (by omega), e, nearest_full s j' h1 h2, Nat.min_eq_left (by omega)]
  unfold plainW
  rw [wordZ_mod s (by omega), if_neg (by omega), if_neg (by omega)]
theorem normal_word {w : Nat} (hw : w < 18446744073709551616) (h0 : 4503599627370496 ≤ w % 9223372036854775808) (h1 : w % 9223372036854775808 < 9218868437227405312) :
    ∃ s M j, 4503599627370496 ≤ M ∧ M < 9007199254740992 ∧ j < 2046 ∧ w = wordZ s (j * 4503599627370496 + M) ∧ w / 4503599627370496 % 2048 = j + 1 ∧ plainW w = w := by
  obtain ⟨M, j, hN, hx⟩ := normal_self hw h0 h1
  refine ⟨negW w, M, j, hN.lo, hN.hi, hN.le, hx, ?_, by unfold plainW; rw [if_neg (by omega), if_neg (by omega)]⟩
  have h2 := hN.lo
  have h3 := hN.hi
  have h4 := hN.le
  rw [hx]
  unfold wordZ
  split <;> omega
theorem scale_of {m s : Nat} (hm : m < 1073741824) (hs : s < 30) : scaleW (ofW m) s = ofW ((m * 2 ^ s : Nat) : Int) := by
  rcases Nat.eq_zero_or_pos m with z | z
  · subst z
    rw [Nat.zero_mul]
    have e : ofW ((0 : Nat) : Int) = 0 := by rfl
    rw [e, scale_special (w := 0) _ (by decide) (.inl rfl)]; rfl
  · obtain ⟨M, j, hM1, hM2, hj1, hj2, hM, hn⟩ := nearest_int false z (by omega)
    have hd : ¬ ((m : Int) < 0) := by omega
    have hd2 : ¬ (((m * 2 ^ s : Nat) : Int) < 0) := by omega
    have e1 : ofW (m : Int) = wordZ false (j * 4503599627370496 + M) := by
      show plainW (double.nearest (decide ((m : Int) < 0)) (m : Int).natAbs 0) = _
      rw [decide_eq_false hd, Int.natAbs_natCast, hn]
      unfold plainW
      rw [wordZ_mod false (by omega), if_neg (by omega), if_neg (by omega)]
    have e2 : ofW ((m * 2 ^ s : Nat) : Int) = wordZ false ((j + s) * 4503599627370496 + M) := by
      show plainW (double.nearest (decide (((m * 2 ^ s : Nat) : Int) < 0)) (((m * 2 ^ s : Nat) : Int)).natAbs 0) = _
      rw [decide_eq_false hd2, Int.natAbs_natCast]
      have a1 := nearest_shift false (m := m) s s z
      rw [Int.sub_self] at a1
      have a2 := nearest_shift false (m := m) (1074 - j) s z
      rw [a1, ← a2, ← hM]
      have a3 : (s : Int) - ((1074 - j : Nat) : Int) = -1074 + ((j + s : Nat) : Int) := by omega
      rw [a3, nearest_full false (j + s) hM1 hM2, Nat.min_eq_left (by omega)]
      unfold plainW
      rw [wordZ_mod false (by omega), if_neg (by omega), if_neg (by omega)]
    rw [e1, e2]
    exact scale_normal false s hM1 hM2 (by omega) (by omega) (by omega) (by omega) (by omega)
end Go.Proofs.Ytkpdfjpdjjjfiaa
