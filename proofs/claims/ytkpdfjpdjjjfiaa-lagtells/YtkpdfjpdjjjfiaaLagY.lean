/- The document's own answer for layer 3: Scale. -/
import Derived.Test.YtkpdfjpdjjjfiaaLagX
namespace Go.Proofs.Ytkpdfjpdjjjfiaa
open Go.RowKit Ieee

/- all that the powers beyond 2200 can do -/
theorem near_clamp (s : Bool) {M : Nat} {E : Int} (k : Int) (h1 : 4503599627370496 ≤ M) (h2 : M < 9007199254740992) (hE1 : -60 ≤ E) (hE2 : E ≤ 2046) :
    double.nearest s M (E - 1075 + min (max k (-2200)) 2200) = double.nearest s M ((E + min (max k (-5000)) 5000) - 1075) := by
  rcases (by omega : k < -2200 ∨ 2200 < k ∨ (-2200 ≤ k ∧ k ≤ 2200)) with h | h | ⟨ha, hb⟩
  · obtain ⟨d, hd⟩ : ∃ d : Nat, E - 1075 + min (max k (-2200)) 2200 = -1074 - (d : Int) := ⟨(1 - E + 2200).toNat, by omega⟩
    obtain ⟨d', hd'⟩ : ∃ d : Nat, (E + min (max k (-5000)) 5000) - 1075 = -1074 - (d : Int) := ⟨(1 - E - min (max k (-5000)) 5000).toNat, by omega⟩
    have a : 2 ^ 54 ≤ 2 ^ d := Nat.pow_le_pow_right (by omega) (by omega)
    have b : 2 ^ 54 ≤ 2 ^ d' := Nat.pow_le_pow_right (by omega) (by omega)
    rw [hd, hd', nearest_low s d (by omega) h2, nearest_low s d' (by omega) h2, rne_small (by omega), rne_small (by omega)]
  · obtain ⟨j, hj⟩ : ∃ j : Nat, E - 1075 + min (max k (-2200)) 2200 = -1074 + (j : Int) := ⟨(E - 1 + 2200).toNat, by omega⟩
    obtain ⟨j', hj'⟩ : ∃ j : Nat, (E + min (max k (-5000)) 5000) - 1075 = -1074 + (j : Int) := ⟨(E - 1 + min (max k (-5000)) 5000).toNat, by omega⟩
    rw [hj, hj', nearest_high s j h1 h2 (by omega), nearest_high s j' h1 h2 (by omega)]
  · congr 1
    omega

theorem rScale_special (x : Nat) (k : Int) (w : World) (hx : x < 18446744073709551616) (h : x % 9223372036854775808 = 0 ∨ 9218868437227405312 ≤ x % 9223372036854775808) :
    Calls Try.prog 19 #[.int .u64 (x : Int), .int .i64 k] w fun e w' => e = .returned (.int .u64 (scaleW x k : Nat)) ∧ w = w' := by
  rw [scale_special k hx h]
  have hp := fun W => rPlain_any x W hx
  have hs := fun W => size_any (plainW x) W (plainW_lt hx)
  have hq : plainW x = 0 ∨ (plainW x ≠ 0 ∧ 9218868437227405312 ≤ plainW x % 9223372036854775808) := by
    unfold plainW
    by_cases g : 9218868437227405312 < x % 9223372036854775808
    · rw [if_pos g]; right; decide
    · rw [if_neg g]
      by_cases z : x % 9223372036854775808 = 0
      · rw [if_pos z]; left; rfl
      · rw [if_neg z]; right; omega
  generalize plainW x % 9223372036854775808 = r at *
  generalize plainW x = p at *
  rcases hq with h1 | ⟨h1, h2⟩
  · have f1 : ((p : Int) == 0) = true := by simp; omega
    clear h1 h
    go_enter Try.func19, Try.ntmps19
    go_wp2_with (first | (with_reducible refine (hp _).mono ?_; rintro e w2 ⟨rfl, rfl⟩) | (with_reducible refine (hs _).mono ?_; rintro e w2 ⟨rfl, rfl⟩))
    go_ret
    exact ⟨rfl, rfl⟩
  · have f1 : ((p : Int) == 0) = false := by simp; omega
    have f2 : (9218868437227405312 ≤ (r : Int)) = True := eq_true (by omega)
    have f2' : (9218868437227405312 ≤ r) = True := eq_true h2
    clear h1 h2 h
    go_enter Try.func19, Try.ntmps19
    go_wp2_with (first | (with_reducible refine (hp _).mono ?_; rintro e w2 ⟨rfl, rfl⟩) | (with_reducible refine (hs _).mono ?_; rintro e w2 ⟨rfl, rfl⟩))
    go_ret
    exact ⟨rfl, rfl⟩

set_option maxHeartbeats 2000000 in
theorem rScale_norm (x : Nat) (k : Int) (w : World) (hx : x < 18446744073709551616) (h0 : 4503599627370496 ≤ x % 9223372036854775808) (h1 : x % 9223372036854775808 < 9218868437227405312) :
    Calls Try.prog 19 #[.int .u64 (x : Int), .int .i64 k] w fun e w' => e = .returned (.int .u64 (scaleW x k : Nat)) ∧ w = w' := by
  have hp := fun W => rPlain_any x W hx
  have hpx : plainW x = x := by unfold plainW; rw [if_neg (by omega), if_neg (by omega)]
  rw [hpx] at hp
  have hs := fun W => size_any x W hx
  have f3 : (x : Int) - ((x % 9223372036854775808 : Nat) : Int) = ((wordZ (negW x) 0 : Nat) : Int) := by
    unfold wordZ negW
    by_cases g : 9223372036854775808 ≤ x
    · simp [g]; omega
    · simp [g]; omega
  have f1 : ((x : Int) == 0) = false := by simp; omega
  have HM : ∀ W, Calls Try.prog 32 #[.int .u64 (wordZ (negW x) 0 : Nat), .int .u64 ((x % 9223372036854775808 % 4503599627370496 + 4503599627370496 : Nat) : Int), .int .i64 (((x % 9223372036854775808 / 4503599627370496 : Nat) : Int) + min (max k (-5000)) 5000)] W fun e w' => e = .returned (.int .u64 (scaleW x k : Nat)) ∧ W = w' := by
    intro W
    have hm := made_any (negW x) (x % 9223372036854775808 % 4503599627370496 + 4503599627370496) (((x % 9223372036854775808 / 4503599627370496 : Nat) : Int) + min (max k (-5000)) 5000) W (by omega) (by omega) (by omega) (by omega)
    rw [← near_clamp (negW x) k (by omega) (by omega) (by omega) (by omega)] at hm
    have e : plainW (double.nearest (negW x) (x % 9223372036854775808 % 4503599627370496 + 4503599627370496) (((x % 9223372036854775808 / 4503599627370496 : Nat) : Int) - 1075 + min (max k (-2200)) 2200)) = scaleW x k := by
      unfold scaleW ldexpW
      rw [read_word hx, if_neg (by omega), if_pos h1]
      show _ = plainW (if 4503599627370496 + x % 9223372036854775808 % 4503599627370496 = 0 then x else double.nearest (negW x) (4503599627370496 + x % 9223372036854775808 % 4503599627370496) (-1074 + ((x % 9223372036854775808 / 4503599627370496 - 1 : Nat) : Int) + min (max k (-2200)) 2200))
      rw [if_neg (by omega), Nat.add_comm 4503599627370496]
      congr 2
      omega
    rw [e] at hm
    exact hm
  have f4 : ((x % 9223372036854775808 : Nat) : Int) % 4503599627370496 + 4503599627370496 = ((x % 9223372036854775808 % 4503599627370496 + 4503599627370496 : Nat) : Int) := by omega
  have f5 : ((x % 9223372036854775808 : Nat) : Int) / 4503599627370496 = ((x % 9223372036854775808 / 4503599627370496 : Nat) : Int) := by omega
  have b1 : 1 ≤ x % 9223372036854775808 / 4503599627370496 := by omega
  have b2 : x % 9223372036854775808 / 4503599627370496 ≤ 2046 := by omega
  have b3 : 4503599627370496 ≤ x % 9223372036854775808 % 4503599627370496 + 4503599627370496 := by omega
  have b4 : x % 9223372036854775808 % 4503599627370496 < 4503599627370496 := by omega
  have hr : x % 9223372036854775808 ≤ x := by omega
  generalize scaleW x k = R at *
  generalize wordZ (negW x) 0 = Z at *
  generalize x % 9223372036854775808 % 4503599627370496 + 4503599627370496 = M at *
  generalize x % 9223372036854775808 / 4503599627370496 = E at *
  generalize x % 9223372036854775808 = r at *
  have g1 : (9218868437227405312 ≤ (r : Int)) = False := eq_false (by omega)
  have g1' : (9218868437227405312 ≤ r) = False := eq_false (by omega)
  have g2 : (0 < (E : Int)) = True := eq_true (by omega)
  have g2' : (0 < E) = True := eq_true (by omega)
  have g3 : ((M : Int) < 4503599627370496) = False := eq_false (by omega)
  have g3' : (M < 4503599627370496) = False := eq_false (by omega)
  have hm := HM
  clear HM hpx
  rcases (by omega : k < -5000 ∨ 5000 < k ∨ (-5000 ≤ k ∧ k ≤ 5000)) with c | c | ⟨c, c'⟩
  · rw [show min (max k (-5000)) 5000 = -5000 by omega] at hm
    go_enter Try.func19, Try.ntmps19
    go_wp2_with (first | (with_reducible refine (hp _).mono ?_; rintro e w2 ⟨rfl, rfl⟩) | (with_reducible refine (hs _).mono ?_; rintro e w2 ⟨rfl, rfl⟩))
    go_loop [7, 8] (fun m e => m = .int .u64 (M : Int) ∧ e = .int .i64 (E : Int)) (fun _ _ => 0)
    case atStart => exact ⟨rfl, rfl⟩
    case round =>
      obtain ⟨rfl, rfl⟩ := hrel
      go_wp2_with (first | (with_reducible refine (hm _).mono ?_; rintro e w2 ⟨rfl, rfl⟩))
      go_ret
      exact ⟨rfl, rfl⟩
  · rw [show min (max k (-5000)) 5000 = 5000 by omega] at hm
    have c' : -5000 ≤ k := by omega
    go_enter Try.func19, Try.ntmps19
    go_wp2_with (first | (with_reducible refine (hp _).mono ?_; rintro e w2 ⟨rfl, rfl⟩) | (with_reducible refine (hs _).mono ?_; rintro e w2 ⟨rfl, rfl⟩))
    go_loop [7, 8] (fun m e => m = .int .u64 (M : Int) ∧ e = .int .i64 (E : Int)) (fun _ _ => 0)
    case atStart => exact ⟨rfl, rfl⟩
    case round =>
      obtain ⟨rfl, rfl⟩ := hrel
      go_wp2_with (first | (with_reducible refine (hm _).mono ?_; rintro e w2 ⟨rfl, rfl⟩))
      go_ret
      exact ⟨rfl, rfl⟩
  · rw [show min (max k (-5000)) 5000 = k by omega] at hm
    go_enter Try.func19, Try.ntmps19
    go_wp2_with (first | (with_reducible refine (hp _).mono ?_; rintro e w2 ⟨rfl, rfl⟩) | (with_reducible refine (hs _).mono ?_; rintro e w2 ⟨rfl, rfl⟩))
    go_loop [7, 8] (fun m e => m = .int .u64 (M : Int) ∧ e = .int .i64 (E : Int)) (fun _ _ => 0)
    case atStart => exact ⟨rfl, rfl⟩
    case round =>
      obtain ⟨rfl, rfl⟩ := hrel
      go_wp2_with (first | (with_reducible refine (hm _).mono ?_; rintro e w2 ⟨rfl, rfl⟩))
      go_ret
      exact ⟨rfl, rfl⟩

theorem two_pow_lt_53 {r t M : Nat} (h : M = r * 2 ^ t) (h0 : 0 < r) (hM : M < 9007199254740992) : t < 53 := by
  rcases Nat.lt_or_ge t 53 with g | g
  · exact g
  · exfalso
    have a : 2 ^ 53 ≤ 2 ^ t := Nat.pow_le_pow_right (by omega) g
    have b : 2 ^ t ≤ r * 2 ^ t := Nat.le_mul_of_pos_left _ h0
    omega

set_option maxHeartbeats 2000000 in
theorem rScale_sub (x : Nat) (k : Int) (w : World) (hx : x < 18446744073709551616) (h0 : 0 < x % 9223372036854775808) (h1 : x % 9223372036854775808 < 4503599627370496) :
    Calls Try.prog 19 #[.int .u64 (x : Int), .int .i64 k] w fun e w' => e = .returned (.int .u64 (scaleW x k : Nat)) ∧ w = w' := by
  have hp := fun W => rPlain_any x W hx
  have hpx : plainW x = x := by unfold plainW; rw [if_neg (by omega), if_neg (by omega)]
  rw [hpx] at hp
  have hs := fun W => size_any x W hx
  have f3 : (x : Int) - ((x % 9223372036854775808 : Nat) : Int) = ((wordZ (negW x) 0 : Nat) : Int) := by
    unfold wordZ negW
    by_cases g : 9223372036854775808 ≤ x
    · simp [g]; omega
    · simp [g]; omega
  have f1 : ((x : Int) == 0) = false := by simp; omega
  have HM : ∀ (t M : Nat), M = x % 9223372036854775808 * 2 ^ t → 4503599627370496 ≤ M → M < 9007199254740992 → ∀ W, Calls Try.prog 32 #[.int .u64 (wordZ (negW x) 0 : Nat), .int .u64 (M : Int), .int .i64 (1 - (t : Int) + min (max k (-5000)) 5000)] W fun e w' => e = .returned (.int .u64 (scaleW x k : Nat)) ∧ W = w' := by
    intro t M hM a1 a2 W
    have ht := two_pow_lt_53 hM h0 a2
    have hm := made_any (negW x) M (1 - (t : Int) + min (max k (-5000)) 5000) W a1 a2 (by omega) (by omega)
    rw [← near_clamp (negW x) k a1 a2 (by omega) (by omega)] at hm
    have e : plainW (double.nearest (negW x) M (1 - (t : Int) - 1075 + min (max k (-2200)) 2200)) = scaleW x k := by
      unfold scaleW ldexpW
      rw [read_word hx, if_pos h1]
      show _ = plainW (if x % 9223372036854775808 = 0 then x else double.nearest (negW x) (x % 9223372036854775808) (-1074 + min (max k (-2200)) 2200))
      rw [if_neg (by omega), hM, ← nearest_shift (negW x) t (-1074 + min (max k (-2200)) 2200) h0]
      congr 2
      omega
    rw [e] at hm
    exact hm
  have f4 : ((x % 9223372036854775808 : Nat) : Int) % 4503599627370496 = ((x % 9223372036854775808 : Nat) : Int) := by omega
  have f5 : ((x % 9223372036854775808 : Nat) : Int) / 4503599627370496 = 0 := by omega
  have hr : x % 9223372036854775808 ≤ x := by omega
  generalize scaleW x k = R at *
  generalize wordZ (negW x) 0 = Z at *
  generalize x % 9223372036854775808 = r at *
  have g1 : (9218868437227405312 ≤ (r : Int)) = False := eq_false (by omega)
  have g1' : (9218868437227405312 ≤ r) = False := eq_false (by omega)
  have HM' := Lib.hid HM
  clear HM hpx
  rcases (by omega : k < -5000 ∨ 5000 < k ∨ (-5000 ≤ k ∧ k ≤ 5000)) with c | c | ⟨c, c'⟩
  ·
    have HK2 := Lib.hid (show min (max k (-5000)) 5000 = -5000 by omega)
    go_enter Try.func19, Try.ntmps19
    go_wp2_with (first | (with_reducible refine (hp _).mono ?_; rintro e w2 ⟨rfl, rfl⟩) | (with_reducible refine (hs _).mono ?_; rintro e w2 ⟨rfl, rfl⟩))
    go_loop [7, 8] (fun m e => ∃ M t : Nat, m = .int .u64 (M : Int) ∧ e = .int .i64 (1 - (t : Int)) ∧ Hid (M = r * 2 ^ t) ∧ M < 9007199254740992 ∧ 0 < M) (fun m _ => 4503599627370496 - (intOf m).toNat)
    case atStart => exact ⟨r, 0, rfl, rfl, by show r = r * 2 ^ 0; simp, by omega, by omega⟩
    case round =>
      obtain ⟨M, t, rfl, rfl, HMt, hM2, hM0⟩ := hrel
      have ht := two_pow_lt_53 HMt.out h0 hM2
      by_cases d : M < 4503599627370496
      · have g3 : ((M : Int) < 4503599627370496) = True := eq_true (by omega)
        have g3' : (M < 4503599627370496) = True := eq_true d
        clear d
        go_wp2_with fail
        go_round
        case rel => exact ⟨2 * M, t + 1, by go_num, by go_num, by show 2 * M = r * 2 ^ (t + 1); rw [HMt.out, Nat.pow_succ, Nat.mul_comm 2 (r * 2 ^ t), Nat.mul_assoc], by simp at g3'; omega, by omega⟩
        case measure => simp at g3'; simp [intOf]; omega
      · have g3 : ((M : Int) < 4503599627370496) = False := eq_false (by omega)
        have g3' : (M < 4503599627370496) = False := eq_false d
        have hm := HM'.out t M HMt.out (by omega) hM2
        rw [HK2.out] at hm
        clear d
        go_wp2_with (first | (with_reducible refine (hm _).mono ?_; rintro e w2 ⟨rfl, rfl⟩))
        go_ret
        exact ⟨rfl, rfl⟩
  ·
    have c' : -5000 ≤ k := by omega
    have HK2 := Lib.hid (show min (max k (-5000)) 5000 = 5000 by omega)
    go_enter Try.func19, Try.ntmps19
    go_wp2_with (first | (with_reducible refine (hp _).mono ?_; rintro e w2 ⟨rfl, rfl⟩) | (with_reducible refine (hs _).mono ?_; rintro e w2 ⟨rfl, rfl⟩))
    go_loop [7, 8] (fun m e => ∃ M t : Nat, m = .int .u64 (M : Int) ∧ e = .int .i64 (1 - (t : Int)) ∧ Hid (M = r * 2 ^ t) ∧ M < 9007199254740992 ∧ 0 < M) (fun m _ => 4503599627370496 - (intOf m).toNat)
    case atStart => exact ⟨r, 0, rfl, rfl, by show r = r * 2 ^ 0; simp, by omega, by omega⟩
    case round =>
      obtain ⟨M, t, rfl, rfl, HMt, hM2, hM0⟩ := hrel
      have ht := two_pow_lt_53 HMt.out h0 hM2
      by_cases d : M < 4503599627370496
      · have g3 : ((M : Int) < 4503599627370496) = True := eq_true (by omega)
        have g3' : (M < 4503599627370496) = True := eq_true d
        clear d
        go_wp2_with fail
        go_round
        case rel => exact ⟨2 * M, t + 1, by go_num, by go_num, by show 2 * M = r * 2 ^ (t + 1); rw [HMt.out, Nat.pow_succ, Nat.mul_comm 2 (r * 2 ^ t), Nat.mul_assoc], by simp at g3'; omega, by omega⟩
        case measure => simp at g3'; simp [intOf]; omega
      · have g3 : ((M : Int) < 4503599627370496) = False := eq_false (by omega)
        have g3' : (M < 4503599627370496) = False := eq_false d
        have hm := HM'.out t M HMt.out (by omega) hM2
        rw [HK2.out] at hm
        clear d
        go_wp2_with (first | (with_reducible refine (hm _).mono ?_; rintro e w2 ⟨rfl, rfl⟩))
        go_ret
        exact ⟨rfl, rfl⟩
  ·
    have HK2 := Lib.hid (show min (max k (-5000)) 5000 = k by omega)
    go_enter Try.func19, Try.ntmps19
    go_wp2_with (first | (with_reducible refine (hp _).mono ?_; rintro e w2 ⟨rfl, rfl⟩) | (with_reducible refine (hs _).mono ?_; rintro e w2 ⟨rfl, rfl⟩))
    go_loop [7, 8] (fun m e => ∃ M t : Nat, m = .int .u64 (M : Int) ∧ e = .int .i64 (1 - (t : Int)) ∧ Hid (M = r * 2 ^ t) ∧ M < 9007199254740992 ∧ 0 < M) (fun m _ => 4503599627370496 - (intOf m).toNat)
    case atStart => exact ⟨r, 0, rfl, rfl, by show r = r * 2 ^ 0; simp, by omega, by omega⟩
    case round =>
      obtain ⟨M, t, rfl, rfl, HMt, hM2, hM0⟩ := hrel
      have ht := two_pow_lt_53 HMt.out h0 hM2
      by_cases d : M < 4503599627370496
      · have g3 : ((M : Int) < 4503599627370496) = True := eq_true (by omega)
        have g3' : (M < 4503599627370496) = True := eq_true d
        clear d
        go_wp2_with fail
        go_round
        case rel => exact ⟨2 * M, t + 1, by go_num, by go_num, by show 2 * M = r * 2 ^ (t + 1); rw [HMt.out, Nat.pow_succ, Nat.mul_comm 2 (r * 2 ^ t), Nat.mul_assoc], by simp at g3'; omega, by omega⟩
        case measure => simp at g3'; simp [intOf]; omega
      · have g3 : ((M : Int) < 4503599627370496) = False := eq_false (by omega)
        have g3' : (M < 4503599627370496) = False := eq_false d
        have hm := HM'.out t M HMt.out (by omega) hM2
        rw [HK2.out] at hm
        clear d
        go_wp2_with (first | (with_reducible refine (hm _).mono ?_; rintro e w2 ⟨rfl, rfl⟩))
        go_ret
        exact ⟨rfl, rfl⟩

theorem rScale_any (x : Nat) (k : Int) (w : World) (hx : x < 18446744073709551616) :
    Calls Try.prog 19 #[.int .u64 (x : Int), .int .i64 k] w fun e w' => e = .returned (.int .u64 (scaleW x k : Nat)) ∧ w = w' := by
  by_cases h : x % 9223372036854775808 = 0 ∨ 9218868437227405312 ≤ x % 9223372036854775808
  · exact rScale_special x k w hx h
  · by_cases g : x % 9223372036854775808 < 4503599627370496
    · exact rScale_sub x k w hx (by omega) g
    · exact rScale_norm x k w hx (by omega) (by omega)
end Go.Proofs.Ytkpdfjpdjjjfiaa
