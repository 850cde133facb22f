/- The document's own answer for layer 3: made. -/
import Derived.Test.YtkpdfjpdjjjfiaaLagR
namespace Go.Proofs.Ytkpdfjpdjjjfiaa
open Go.RowKit Ieee

theorem plainW_word (s : Bool) {r : Nat} (h0 : 0 < r) (h1 : r ≤ 9218868437227405312) : plainW (wordZ s r) = wordZ s r := by
  unfold plainW
  rw [wordZ_mod s (by omega), if_neg (by omega), if_neg (by omega)]
theorem plainW_zero (s : Bool) : plainW (wordZ s 0) = 0 := by cases s <;> rfl
theorem wordZ_split (s : Bool) (r : Nat) : wordZ s r = wordZ s 0 + r := by unfold wordZ; cases s <;> simp
theorem wordZ_zero_le (s : Bool) : wordZ s 0 ≤ 9223372036854775808 := by cases s <;> decide
theorem shifted_any (m d : Nat) (w : World) (hm : m < 18446744073709551616) (hd : d ≤ 63) : Calls Try.prog 34 #[.int .u64 (m : Int), .int .i64 (d : Int)] w fun e w' => e = .returned (.int .u64 (rne m d : Nat)) ∧ w = w' := by
  rcases Nat.eq_zero_or_pos d with h | h
  · subst h; exact shifted_zero m w
  · exact shifted_pos m d w hm h hd

set_option maxHeartbeats 1000000 in
theorem made_any (s : Bool) (m : Nat) (x : Int) (w : World) (h1 : 4503599627370496 ≤ m) (h2 : m < 9007199254740992) (he1 : -8000 ≤ x) (he2 : x ≤ 8000) :
    Calls Try.prog 32 #[.int .u64 (wordZ s 0 : Nat), .int .u64 (m : Int), .int .i64 x] w fun e w' => e = .returned (.int .u64 (plainW (double.nearest s m (x - 1075)) : Nat)) ∧ w = w' := by
  have hz := wordZ_zero_le s
  by_cases c1 : x < -60
  · have HR : Hid (plainW (double.nearest s m (x - 1075)) = 0) := by
      show _ = _
      obtain ⟨d, hd⟩ : ∃ d : Nat, x - 1075 = -1074 - (d : Int) := ⟨(1 - x).toNat, by omega⟩
      have h54 : 2 ^ 54 ≤ 2 ^ d := Nat.pow_le_pow_right (by omega) (by omega)
      rw [hd, nearest_low s d (by omega) h2, rne_small (by omega), plainW_zero]
    generalize plainW (double.nearest s m (x - 1075)) = R at *
    generalize wordZ s 0 = Z at *
    have f1 : (x < -60) = True := eq_true c1
    clear c1
    go_enter Try.func32, Try.ntmps32
    go_wp2_with fail
    go_ret
    exact ⟨by rw [HR.out]; rfl, rfl⟩
  · by_cases c2 : x < 1
    · obtain ⟨d, hd⟩ : ∃ d : Nat, x = 1 - (d : Int) := ⟨(1 - x).toNat, by omega⟩
      have hs := fun W => shifted_any m d W (by omega) (by omega)
      have e1 : (d : Int) = 1 - x := by omega
      rw [e1] at hs
      have hr : rne m d ≤ 9007199254740992 := rne_le (Nat.le_trans (Nat.le_of_lt h2) (Nat.le_mul_of_pos_right _ (Nat.two_pow_pos _)))
      have hp := fun W => rPlain_any (wordZ s (rne m d)) W (wordZ_lt s (by omega))
      have e2 : x - 1075 = -1074 - (d : Int) := by omega
      rw [← nearest_low s d (by omega) h2, ← e2] at hp
      have e3 := wordZ_split s (rne m d)
      have e4 : ((double.nearest s m (x - 1075) : Nat) : Int) = (wordZ s 0 : Nat) + (rne m d : Nat) := by
        rw [e2, nearest_low s d (by omega) h2, e3]; omega
      rw [e4] at hp
      generalize plainW (double.nearest s m (x - 1075)) = R at *
      clear e1 e2 e3 e4 hd
      generalize wordZ s 0 = Z at *
      generalize rne m d = q at *
      have hZR : (Z : Int) + (q : Int) ≤ 18446744073709551615 := by omega
      have f1 : (x < -60) = False := eq_false c1
      have f2 : (x < 1) = True := eq_true c2
      go_enter Try.func32, Try.ntmps32
      go_wp2_with (first
        | (with_reducible refine (hs _).mono ?_; rintro e w2 ⟨rfl, rfl⟩)
        | (with_reducible refine (hp _).mono ?_; rintro e w2 ⟨rfl, rfl⟩))
      go_ret
      exact ⟨rfl, rfl⟩
    · obtain ⟨j, hj⟩ : ∃ j : Nat, x = (j : Int) + 1 := ⟨(x - 1).toNat, by omega⟩
      have e2 : x - 1075 = -1074 + (j : Int) := by omega
      have f1 : (x < -60) = False := eq_false c1
      have f2 : (x < 1) = False := eq_false c2
      have f4 : ((m : Int) == 9007199254740992) = false := by simp; omega
      have f5 : (m = 9007199254740992) = False := eq_false (by omega)
      by_cases c3 : 2047 ≤ x
      · have HR : Hid (plainW (double.nearest s m (x - 1075)) = wordZ s 0 + 9218868437227405312) := by
          show _ = _
          rw [e2, nearest_high s j h1 h2 (by omega), plainW_word s (by decide) (by decide), wordZ_split]
        generalize plainW (double.nearest s m (x - 1075)) = R at *
        generalize wordZ s 0 = Z at *
        have f3 : (2047 ≤ x) = True := eq_true c3
        clear hj e2
        go_enter Try.func32, Try.ntmps32
        go_wp2_with fail
        go_ret
        exact ⟨by rw [HR.out]; rfl, rfl⟩
      · have HR : Hid (((plainW (double.nearest s m (x - 1075)) : Nat) : Int) = (wordZ s 0 : Nat) + x * 4503599627370496 + (m : Int) % 4503599627370496) := by
          show _ = _
          rw [e2, nearest_full s j h1 h2, Nat.min_eq_left (by omega), plainW_word s (by omega) (by omega), wordZ_split]
          omega
        generalize plainW (double.nearest s m (x - 1075)) = R at *
        generalize wordZ s 0 = Z at *
        have f3 : (2047 ≤ x) = False := eq_false c3
        have b1 : 1 ≤ x := by omega
        have b2 : x < 2047 := by omega
        clear hj e2 c1 c2 c3
        go_enter Try.func32, Try.ntmps32
        go_wp2_with fail
        go_ret
        exact ⟨by rw [HR.out]; rfl, rfl⟩

set_option maxHeartbeats 1000000 in
theorem made_top (s : Bool) (x : Int) (w : World) (he1 : 1 ≤ x) (he2 : x ≤ 1100) :
    Calls Try.prog 32 #[.int .u64 (wordZ s 0 : Nat), .int .u64 9007199254740992, .int .i64 x] w fun e w' => e = .returned (.int .u64 (plainW (double.nearest s 9007199254740992 (x - 1075)) : Nat)) ∧ w = w' := by
  have hz := wordZ_zero_le s
  obtain ⟨j, hj⟩ : ∃ j : Nat, x = (j : Int) + 1 := ⟨(x - 1).toNat, by omega⟩
  have HR : Hid (((plainW (double.nearest s 9007199254740992 (x - 1075)) : Nat) : Int) = (wordZ s 0 : Nat) + (x + 1) * 4503599627370496) := by
    show _ = _
    have e := nearest_shift s (m := 4503599627370496) 1 (x - 1074) (by decide)
    have e1 : 4503599627370496 * 2 ^ 1 = 9007199254740992 := by rfl
    have e2 : x - 1074 - ((1 : Nat) : Int) = x - 1075 := by omega
    rw [e1, e2] at e
    have e3 : x - 1074 = -1074 + ((j + 1 : Nat) : Int) := by omega
    rw [e, e3, nearest_full s (j + 1) (by decide) (by decide), Nat.min_eq_left (by omega), plainW_word s (by omega) (by omega), wordZ_split]
    omega
  generalize plainW (double.nearest s 9007199254740992 (x - 1075)) = R at *
  generalize wordZ s 0 = Z at *
  have f1 : (x < -60) = False := eq_false (by omega)
  have f2 : (x < 1) = False := eq_false (by omega)
  have f3 : (2047 ≤ x + 1) = False := eq_false (by omega)
  clear hj
  go_enter Try.func32, Try.ntmps32
  go_wp2_with fail
  go_ret
  exact ⟨by rw [HR.out]; rfl, rfl⟩
end Go.Proofs.Ytkpdfjpdjjjfiaa
