/- math.Ldexp and lag.Scale. -/
import Derived.Test.YtkpdfjpdjjjfiaaLagC
namespace Go.Proofs.Ytkpdfjpdjjjfiaa
open Go.RowKit Ieee

def ldexpW (x : Nat) (k : Int) : Nat :=
  match double.read x with
  | .number s m p => if m = 0 then x else double.nearest s m (p + k)
  | _ => x

theorem mul_pow (s : Bool) {M i jc c : Nat} (h1 : 4503599627370496 ≤ M) (h2 : M < 9007199254740992) (hi : i < 2046) (hc : double.read c = .number false 4503599627370496 (-1074 + (jc : Nat))) :
    floatBits .mul .f64 c (wordZ s (i * 4503599627370496 + M)) = some (double.nearest s M (-1074 + (i : Int) + (-1074 + (jc : Nat)) + 52)) := by
  show ((double.read c).product (double.read _)).map double.write = _
  rw [hc, read_full s i h1 h2 hi]
  show some (double.nearest (false ^^ s) (4503599627370496 * M) ((-1074 + (jc : Int)) + (-1074 + (i : Int)))) = _
  rw [Bool.false_xor, Nat.mul_comm, ← nearest_shift s 52 (-1074 + (i : Int) + (-1074 + (jc : Nat)) + 52) (by omega)]
  have e : (-1074 + (jc : Int)) + (-1074 + (i : Int)) = -1074 + (i : Int) + (-1074 + (jc : Nat)) + 52 - (52 : Nat) := by omega
  rw [e]
theorem or_word (s : Bool) {M E : Nat} (h1 : 4503599627370496 ≤ M) (h2 : M < 9007199254740992) (hE1 : 1 ≤ E) (hE2 : E < 2048) :
    bits .or .u64 (wordZ s (M - 4503599627370496) : Nat) ((E : Int) * 4503599627370496) = ((wordZ s ((E - 1) * 4503599627370496 + M) : Nat) : Int) := by
  have h := u64_or (a := wordZ s (M - 4503599627370496)) (b := E * 4503599627370496) (wordZ_lt s (by omega)) (by omega)
  rw [set_bits s hE2 (by omega)] at h
  have e : E * 4503599627370496 + (M - 4503599627370496) = (E - 1) * 4503599627370496 + M := by omega
  rw [e] at h
  rw [← h]
  rfl
theorem exp_word (s : Bool) {M j : Nat} (h1 : 4503599627370496 ≤ M) (h2 : M < 9007199254740992) (hj : j < 2046) :
    bits .and .i64 ((wordZ s (j * 4503599627370496 + M) : Int) / 4503599627370496) 2047 = ((j : Int) + 1) := by
  obtain ⟨q, hq⟩ : ∃ q : Nat, q = wordZ s (j * 4503599627370496 + M) / 4503599627370496 := ⟨_, rfl⟩
  have e : ((wordZ s (j * 4503599627370496 + M) : Nat) : Int) / 4503599627370496 = (q : Int) := by rw [hq]; omega
  have hlt : wordZ s (j * 4503599627370496 + M) < 18446744073709551616 := wordZ_lt s (by omega)
  rw [e, i64_and_low (by omega)]
  have : q % 2048 = j + 1 := by
    rw [hq]
    unfold wordZ
    split <;> omega
  rw [this]; omega
theorem frac_word (s : Bool) {M j : Nat} (h1 : 4503599627370496 ≤ M) (h2 : M < 9007199254740992) (hj : j < 2046) :
    bits .andNot .u64 (wordZ s (j * 4503599627370496 + M) : Int) 9218868437227405312 = ((wordZ s (M - 4503599627370496) : Nat) : Int) := by
  have h := u64_andNot (a := wordZ s (j * 4503599627370496 + M)) (b := 9218868437227405312) (wordZ_lt s (by omega)) (by omega)
  have e : j * 4503599627370496 + M = (j + 1) * 4503599627370496 + (M - 4503599627370496) := by omega
  have e2 : 18446744073709551615 - 9218868437227405312 = 9227875636482146303 := by rfl
  rw [e2, e, clear_bits s (by omega) (by omega)] at h
  rw [e]
  exact h
theorem neg_word (s : Bool) {r : Nat} (h1 : 0 < r) (h2 : r ≤ 9218868437227405312) : (double.order (wordZ s r) 0 == some .lt) = s := by
  rw [order_lt (wordZ_lt s (by omega)) (by omega) rfl]
  have r0 : rankW 0 = 9223372036854775808 := rfl
  unfold lessW
  rw [r0]
  have hp : plainW (wordZ s r) = wordZ s r := by
    unfold plainW
    rw [wordZ_mod s (by omega), if_neg (by omega), if_neg (by omega)]
  unfold rankW
  rw [hp]
  cases s
  · have e : wordZ false r = r := rfl
    rw [e, if_neg (by omega)]; simp
  · have e : wordZ true r = 9223372036854775808 + r := rfl
    rw [e, if_pos (by omega)]; simp; omega

set_option maxHeartbeats 1000000 in
theorem ldexp_any (x : Nat) (k : Int) (w : World) (hx : x < 18446744073709551616) (hk1 : -2200 ≤ k) (hk2 : k ≤ 2200) : Calls Try.prog 40 #[.float .f64 x, .int .i64 k] w fun e w' => e = .returned (.float .f64 (ldexpW x k)) ∧ w = w' := by
  have hk : FloatKind.f64.format = double := rfl
  have hz := order_zero hx
  by_cases z : x % 9223372036854775808 = 0
  · rw [decide_eq_true z] at hz
    have HW : Hid (ldexpW x k = x) := by
      show ldexpW x k = x
      unfold ldexpW
      rw [read_word hx, if_pos (by omega), z]; rfl
    go_enter Try.func40, Try.ntmps40
    go_wp2_with fail
    go_ret
    exact ⟨by rw [HW.out]; rfl, rfl⟩
  · rw [decide_eq_false z] at hz
    have hI := fun W => IsInf_any x W hx
    have hN := fun W => IsNaN_any x W hx
    by_cases g : x % 9223372036854775808 < 9218868437227405312
    · have nn : nanW x = false := by simp [nanW]; omega
      rw [nn] at hN
      rw [decide_eq_false (by omega)] at hI
      obtain ⟨M, j, e0, hM, hC⟩ := normalize_any x hx (by omega) g
      obtain ⟨h1, h2, h3, h4, m, p, hr, hm, hq⟩ := hM
      have HW : Hid (ldexpW x k = double.nearest (negW x) M (-1074 + j + e0 + k)) := by
        show ldexpW x k = _
        unfold ldexpW
        rw [hr]
        show (if m = 0 then x else _) = _
        rw [if_neg (by omega), hq]
      have he0 : -52 ≤ e0 ∧ e0 ≤ 0 := by omega
      clear hr hm hq nn g z
      generalize negW x = s at *
      have hb1 := exp_word s h1 h2 h3
      have hy : wordZ s (j * 4503599627370496 + M) < 18446744073709551616 := wordZ_lt s (by omega)
      have hb2 := frac_word s h1 h2 h3
      have hCS := fun W => Copysign_any s (j * 4503599627370496 + M) W (by omega)
      have hng := neg_word s (r := j * 4503599627370496 + M) (by omega) (by omega)
      generalize wordZ s (j * 4503599627370496 + M) = y at *
      by_cases c1 : k + e0 + (j + 1 - 1023) < -1075
      · have HR : Hid (wordZ s 0 = ldexpW x k) := by
          show _ = _
          rw [HW.out]
          obtain ⟨d, hd⟩ : ∃ d : Nat, -1074 + (j : Int) + e0 + k = -1074 - (d : Int) := ⟨(-(j + e0 + k)).toNat, by omega⟩
          rw [hd, nearest_low s d (by omega) h2, rne_small]
          have : 2 ^ 54 ≤ 2 ^ d := Nat.pow_le_pow_right (by omega) (by omega)
          omega
        generalize wordZ s 0 = R at *
        clear HW hng
        go_enter Try.func40, Try.ntmps40
        go_wp2_with fail
        with_reducible refine (hI _).mono ?_
        rintro e w1 ⟨rfl, rfl⟩
        go_wp2_with fail
        with_reducible refine (hN _).mono ?_
        rintro e w1 ⟨rfl, rfl⟩
        go_wp2_with fail
        with_reducible refine (hC _).mono ?_
        rintro e w1 ⟨rfl, rfl⟩
        have hf := run_frombits
        have ht := run_tobits
        go_wp2_with fail
        with_reducible refine (hCS _).mono ?_
        rintro e w1 ⟨rfl, rfl⟩
        go_wp2_with fail
        go_ret
        exact ⟨by rw [← HR.out]; rfl, rfl⟩
      · clear hCS
        by_cases c2 : 1023 < k + e0 + (j + 1 - 1023)
        · have HR : Hid (wordZ s 9218868437227405312 = ldexpW x k) := by
            show _ = _
            rw [HW.out]
            obtain ⟨d, hd⟩ : ∃ d : Nat, -1074 + (j : Int) + e0 + k = -1074 + (d : Int) := ⟨(j + e0 + k).toNat, by omega⟩
            rw [hd, nearest_high s d h1 h2 (by omega)]
          clear HW
          cases s
          ·
            go_enter Try.func40, Try.ntmps40
            go_wp2_with fail
            with_reducible refine (hI _).mono ?_
            rintro e w1 ⟨rfl, rfl⟩
            go_wp2_with fail
            with_reducible refine (hN _).mono ?_
            rintro e w1 ⟨rfl, rfl⟩
            go_wp2_with fail
            with_reducible refine (hC _).mono ?_
            rintro e w1 ⟨rfl, rfl⟩
            have hf := run_frombits
            have ht := run_tobits
            go_wp2_with fail
            with_reducible refine (Inf_pos _).mono ?_
            rintro e w1 ⟨rfl, rfl⟩
            go_wp2_with fail
            go_ret
            exact ⟨by rw [← HR.out]; rfl, rfl⟩
          ·
            go_enter Try.func40, Try.ntmps40
            go_wp2_with fail
            with_reducible refine (hI _).mono ?_
            rintro e w1 ⟨rfl, rfl⟩
            go_wp2_with fail
            with_reducible refine (hN _).mono ?_
            rintro e w1 ⟨rfl, rfl⟩
            go_wp2_with fail
            with_reducible refine (hC _).mono ?_
            rintro e w1 ⟨rfl, rfl⟩
            have hf := run_frombits
            have ht := run_tobits
            go_wp2_with fail
            with_reducible refine (Inf_neg _).mono ?_
            rintro e w1 ⟨rfl, rfl⟩
            go_wp2_with fail
            go_ret
            exact ⟨by rw [← HR.out]; rfl, rfl⟩
        · clear hng
          by_cases c3 : k + e0 + (j + 1 - 1023) < -1022
          ·
            obtain ⟨E, hE⟩ : ∃ E : Nat, (E : Int) = k + e0 + (j + 1 - 1023) + 53 + 1023 := ⟨(k + e0 + (j + 1 - 1023) + 53 + 1023).toNat, by omega⟩
            have hb3 := or_word s (M := M) (E := E) h1 h2 (by omega) (by omega)
            rw [hE] at hb3
            have hm := mul_pow s (i := E - 1) (jc := 969) h1 h2 (by omega) (by rfl : double.read 4368491638549381120 = .number false 4503599627370496 (-1074 + (969 : Nat)))
            have hop : ∀ t w, (binOp .mul t (.float .f64 4368491638549381120) (.float .f64 (wordZ s ((E - 1) * 4503599627370496 + M)))).run Try.prog w = .ok (.float .f64 (double.nearest s M (-1074 + ((E - 1 : Nat) : Int) + (-1074 + (969 : Nat)) + 52))) w := fun t w => run_float_arith w .mul t .f64 _ _ _ hm
            have HR : Hid (double.nearest s M (-1074 + ((E - 1 : Nat) : Int) + (-1074 + (969 : Nat)) + 52) = ldexpW x k) := by
              show _ = _
              rw [HW.out]
              congr 1
              omega
            generalize wordZ s ((E - 1) * 4503599627370496 + M) = y2 at *
            generalize double.nearest s M (-1074 + ((E - 1 : Nat) : Int) + (-1074 + (969 : Nat)) + 52) = R at *
            clear hm HW
            go_enter Try.func40, Try.ntmps40
            go_wp2_with fail
            with_reducible refine (hI _).mono ?_
            rintro e w1 ⟨rfl, rfl⟩
            go_wp2_with fail
            with_reducible refine (hN _).mono ?_
            rintro e w1 ⟨rfl, rfl⟩
            go_wp2_with fail
            with_reducible refine (hC _).mono ?_
            rintro e w1 ⟨rfl, rfl⟩
            have hf := run_frombits
            have ht := run_tobits
            go_wp2_with fail
            go_ret
            exact ⟨by rw [← HR.out]; rfl, rfl⟩
          ·
            obtain ⟨E, hE⟩ : ∃ E : Nat, (E : Int) = k + e0 + (j + 1 - 1023) + 1023 := ⟨(k + e0 + (j + 1 - 1023) + 1023).toNat, by omega⟩
            have hb3 := or_word s (M := M) (E := E) h1 h2 (by omega) (by omega)
            rw [hE] at hb3
            have hm := mul_pow s (i := E - 1) (jc := 1022) h1 h2 (by omega) (by rfl : double.read 4607182418800017408 = .number false 4503599627370496 (-1074 + (1022 : Nat)))
            have hop : ∀ t w, (binOp .mul t (.float .f64 4607182418800017408) (.float .f64 (wordZ s ((E - 1) * 4503599627370496 + M)))).run Try.prog w = .ok (.float .f64 (double.nearest s M (-1074 + ((E - 1 : Nat) : Int) + (-1074 + (1022 : Nat)) + 52))) w := fun t w => run_float_arith w .mul t .f64 _ _ _ hm
            have HR : Hid (double.nearest s M (-1074 + ((E - 1 : Nat) : Int) + (-1074 + (1022 : Nat)) + 52) = ldexpW x k) := by
              show _ = _
              rw [HW.out]
              congr 1
              omega
            generalize wordZ s ((E - 1) * 4503599627370496 + M) = y2 at *
            generalize double.nearest s M (-1074 + ((E - 1 : Nat) : Int) + (-1074 + (1022 : Nat)) + 52) = R at *
            clear hm HW
            go_enter Try.func40, Try.ntmps40
            go_wp2_with fail
            with_reducible refine (hI _).mono ?_
            rintro e w1 ⟨rfl, rfl⟩
            go_wp2_with fail
            with_reducible refine (hN _).mono ?_
            rintro e w1 ⟨rfl, rfl⟩
            go_wp2_with fail
            with_reducible refine (hC _).mono ?_
            rintro e w1 ⟨rfl, rfl⟩
            have hf := run_frombits
            have ht := run_tobits
            go_wp2_with fail
            go_ret
            exact ⟨by rw [← HR.out]; rfl, rfl⟩
    · have HW : Hid (ldexpW x k = x) := by
        show ldexpW x k = x
        unfold ldexpW
        rw [read_word hx, if_neg (by omega), if_neg g]
        by_cases g2 : x % 9223372036854775808 = 9218868437227405312
        · rw [if_pos g2]
        · rw [if_neg g2]
      by_cases g2 : x % 9223372036854775808 = 9218868437227405312
      · rw [decide_eq_true g2] at hI
        go_enter Try.func40, Try.ntmps40
        go_wp2_with fail
        with_reducible refine (hI _).mono ?_
        rintro e w1 ⟨rfl, rfl⟩
        go_wp2_with fail
        go_ret
        exact ⟨by rw [HW.out]; rfl, rfl⟩
      · have nn : nanW x = true := by simp [nanW]; omega
        rw [decide_eq_false g2] at hI
        rw [nn] at hN
        go_enter Try.func40, Try.ntmps40
        go_wp2_with fail
        with_reducible refine (hI _).mono ?_
        rintro e w1 ⟨rfl, rfl⟩
        go_wp2_with fail
        with_reducible refine (hN _).mono ?_
        rintro e w1 ⟨rfl, rfl⟩
        go_wp2_with fail
        go_ret
        exact ⟨by rw [HW.out]; rfl, rfl⟩

theorem nearest_lt64 (s : Bool) (m : Nat) (p : Int) : double.nearest s m p < 18446744073709551616 := by
  have h := double.nearest_lt s m p
  have e : 2 ^ double.width = 18446744073709551616 := by rfl
  rw [e] at h
  exact h
theorem ldexpW_lt {x : Nat} (k : Int) (hx : x < 18446744073709551616) : ldexpW x k < 18446744073709551616 := by
  unfold ldexpW
  split
  · split
    · exact hx
    · exact nearest_lt64 _ _ _
  · exact hx

theorem Ldexp_any (x : Nat) (k : Int) (w : World) (hx : x < 18446744073709551616) (hk1 : -2200 ≤ k) (hk2 : k ≤ 2200) : Calls Try.prog 31 #[.float .f64 x, .int .i64 k] w fun e w' => e = .returned (.float .f64 (ldexpW x k)) ∧ w = w' := by
  have h := fun W => ldexp_any x k W hx hk1 hk2
  go_enter Try.func31, Try.ntmps31
  go_wp2_with fail
  with_reducible refine (h _).mono ?_
  rintro e w1 ⟨rfl, rfl⟩
  go_wp2_with fail
  go_ret
  exact ⟨rfl, rfl⟩

def scaleW (x : Nat) (k : Int) : Nat := plainW (ldexpW x (min (max k (-2200)) 2200))
theorem Scale_any (x : Nat) (k : Int) (w : World) (hx : x < 18446744073709551616) : Calls Try.prog 18 #[.int .u64 (x : Int), .int .i64 k] w fun e w' => e = .returned (.int .u64 (scaleW x k : Nat)) ∧ w = w' := by
  have hL := fun W => Ldexp_any x (min (max k (-2200)) 2200) W hx (by omega) (by omega)
  have hW := fun W => wordOf_any (ldexpW x (min (max k (-2200)) 2200)) W (ldexpW_lt _ hx)
  have hS : plainW (ldexpW x (min (max k (-2200)) 2200)) = scaleW x k := rfl
  rw [hS] at hW
  clear hS
  generalize ldexpW x (min (max k (-2200)) 2200) = z at *
  generalize scaleW x k = R at *
  rcases (by omega : k < -2200 ∨ 2200 < k ∨ (-2200 ≤ k ∧ k ≤ 2200)) with h | h | ⟨h, h'⟩
  · rw [show min (max k (-2200)) 2200 = -2200 by omega] at hL
    go_enter Try.func18, Try.ntmps18
    go_wp2_with fail
    with_reducible refine (floatOf_any _ _).mono ?_
    rintro e w1 ⟨rfl, rfl⟩
    go_wp2_with fail
    with_reducible refine (hL _).mono ?_
    rintro e w1 ⟨rfl, rfl⟩
    go_wp2_with fail
    with_reducible refine (hW _).mono ?_
    rintro e w1 ⟨rfl, rfl⟩
    go_wp2_with fail
    go_ret
    exact ⟨rfl, rfl⟩
  · rw [show min (max k (-2200)) 2200 = 2200 by omega] at hL
    have h' : -2200 ≤ k := by omega
    go_enter Try.func18, Try.ntmps18
    go_wp2_with fail
    with_reducible refine (floatOf_any _ _).mono ?_
    rintro e w1 ⟨rfl, rfl⟩
    go_wp2_with fail
    with_reducible refine (hL _).mono ?_
    rintro e w1 ⟨rfl, rfl⟩
    go_wp2_with fail
    with_reducible refine (hW _).mono ?_
    rintro e w1 ⟨rfl, rfl⟩
    go_wp2_with fail
    go_ret
    exact ⟨rfl, rfl⟩
  · rw [show min (max k (-2200)) 2200 = k by omega] at hL
    go_enter Try.func18, Try.ntmps18
    go_wp2_with fail
    with_reducible refine (floatOf_any _ _).mono ?_
    rintro e w1 ⟨rfl, rfl⟩
    go_wp2_with fail
    with_reducible refine (hL _).mono ?_
    rintro e w1 ⟨rfl, rfl⟩
    go_wp2_with fail
    with_reducible refine (hW _).mono ?_
    rintro e w1 ⟨rfl, rfl⟩
    go_wp2_with fail
    go_ret
    exact ⟨rfl, rfl⟩
end Go.Proofs.Ytkpdfjpdjjjfiaa
