/- lag.Ticks, and math.Ceil. -/
import Derived.Test.YtkpdfjpdjjjfiaaLagA
namespace Go.Proofs.Ytkpdfjpdjjjfiaa
open Go.RowKit Ieee

def pw (k : Nat) : Nat := 2 ^ k
def U : Nat := pw 1074
theorem pw_pos (k : Nat) : 0 < pw k := Nat.two_pow_pos k
theorem pw_add (i j : Nat) : pw (i + j) = pw i * pw j := Nat.pow_add 2 i j
theorem U_pos : 0 < U := pw_pos 1074
theorem U_eq {i j : Nat} (h : i + j = 1074) : U = 2 ^ i * 2 ^ j := by
  unfold U
  rw [← h, pw_add]; rfl
theorem valN_of (e : Nat) {f : Nat} (hf : f < 4503599627370496) : valN ((e + 1) * 4503599627370496 + f) = (4503599627370496 + f) * pw e := by
  unfold valN
  rw [if_neg (by omega), rung_mod e hf, rung_div e hf]; rfl
def ceilD (n d : Nat) : Nat := (n + d - 1) / d

theorem ceilD_le {n d t : Nat} (hd : 0 < d) : ceilD n d ≤ t ↔ n ≤ t * d := by
  unfold ceilD
  rw [Nat.div_le_iff_le_mul_add_pred hd, Nat.mul_comm d t]
  omega
theorem ceilD_pos {n d : Nat} (hd : 0 < d) (hn : 0 < n) : 0 < ceilD n d := by
  have := @ceilD_le n d 0 hd
  omega
theorem ceilD_mul {n d c : Nat} (hd : 0 < d) (hc : 0 < c) : ceilD (n * c) (d * c) = ceilD n d := by
  have h1 : ceilD (n * c) (d * c) ≤ ceilD n d := by
    rw [ceilD_le (Nat.mul_pos hd hc), ← Nat.mul_assoc]
    exact Nat.mul_le_mul_right _ ((ceilD_le hd).1 (Nat.le_refl _))
  have h2 : ceilD n d ≤ ceilD (n * c) (d * c) := by
    rw [ceilD_le hd]
    have := (ceilD_le (n := n * c) (Nat.mul_pos hd hc)).1 (Nat.le_refl _)
    rw [← Nat.mul_assoc] at this
    exact Nat.le_of_mul_le_mul_right this hc
  omega

theorem cut_up (n d : Nat) : Toward.up.cut false n d = ceilD n (2 ^ d) := by
  unfold Toward.cut
  simp only [Nat.shiftLeft_eq, Nat.one_mul, Bool.not_false, Bool.true_and]
  have key : ∀ g, n / 2 ^ g + (n % 2 ^ g != 0).toNat = ceilD n (2 ^ g) := by
    intro g
    have hg : 0 < 2 ^ g := Nat.two_pow_pos _
    generalize 2 ^ g = G at *
    have h1 := Nat.div_add_mod n G
    have h2 := Nat.mod_lt n hg
    apply Nat.le_antisymm
    · have h3 := (ceilD_le (n := n) hg).1 (Nat.le_refl _)
      by_cases z : n % G = 0
      · simp only [z, bne_self_eq_false, Bool.toNat_false, Nat.add_zero]
        rw [Nat.mul_comm] at h3
        exact Nat.div_le_of_le_mul h3
      · have e : (n % G != 0) = true := by simpa using z
        rw [e]
        simp only [Bool.toNat_true]
        rcases Nat.lt_or_ge (n / G) (ceilD n G) with g1 | g1
        · exact g1
        · have h4 : ceilD n G * G ≤ n / G * G := Nat.mul_le_mul_right _ g1
          rw [Nat.mul_comm] at h1
          omega
    · rw [ceilD_le hg]
      by_cases z : n % G = 0
      · simp only [z, bne_self_eq_false, Bool.toNat_false, Nat.add_zero]
        rw [Nat.mul_comm] at h1; omega
      · have e : (n % G != 0) = true := by simpa using z
        rw [e]
        simp only [Bool.toNat_true]
        rw [Nat.mul_comm] at h1
        rw [Nat.add_mul, Nat.one_mul]; omega
  rw [key]
  rcases Nat.le_total d (n.log2 + 2) with h | h
  · rw [Nat.min_eq_left h]
  · rw [Nat.min_eq_right h]
    have hn : n < 2 ^ (n.log2 + 1) := Nat.lt_log2_self
    have h1 : 2 ^ (n.log2 + 2) = 2 * 2 ^ (n.log2 + 1) := by rw [Nat.pow_succ, Nat.mul_comm]
    have h2 : 2 ^ (n.log2 + 2) ≤ 2 ^ d := Nat.pow_le_pow_right (by omega) h
    have g1 : 0 < 2 ^ (n.log2 + 2) := Nat.two_pow_pos _
    have g2 : 0 < 2 ^ d := Nat.two_pow_pos _
    rcases Nat.eq_zero_or_pos n with z | z
    · subst z
      have a1 := (ceilD_le (n := 0) (t := 0) g1).2 (by omega)
      have a2 := (ceilD_le (n := 0) (t := 0) g2).2 (by omega)
      omega
    · have a1 := (ceilD_le (n := n) (t := 1) g1).2 (by omega)
      have a2 := (ceilD_le (n := n) (t := 1) g2).2 (by omega)
      have a3 := ceilD_pos g1 z
      have a4 := ceilD_pos g2 z
      omega

theorem cut_zero {n d : Nat} (s : Bool) (h : d ≤ n.log2 + 2) : Toward.zero.cut s n d = n / 2 ^ d := by
  unfold Toward.cut
  simp [Nat.shiftLeft_eq, Nat.min_eq_left h]

/- the word of a whole number that fits, as a whole number -/
theorem toInt_nearest {t : Nat} (h1 : 0 < t) (h2 : t < 9007199254740992) : floatToIntVal .f64 (double.nearest false t 0) .i64 = some (t : Int) := by
  obtain ⟨M, j, hM1, hM2, hj1, hj2, hM, hn⟩ := nearest_int false h1 h2
  have hr : (FloatKind.f64.decode (double.nearest false t 0)).toInt .zero = some (t : Int) := by
    show (double.read _).toInt .zero = _
    rw [hn, read_full false j hM1 hM2 (by omega)]
    show some (signed false (Toward.zero.cut false (M <<< (-1074 + (j : Int)).toNat) (-(-1074 + (j : Int))).toNat) 0) = _
    have e1 : (-1074 + (j : Int)).toNat = 0 := by omega
    have e2 : (-(-1074 + (j : Int))).toNat = 1074 - j := by omega
    have hl : M.log2 = 52 := (Nat.log2_eq_iff (by omega)).2 ⟨hM1, hM2⟩
    rw [e1, e2, Nat.shiftLeft_zero, cut_zero false (by omega), hM, Nat.mul_div_cancel _ (Nat.two_pow_pos _)]
    simp [signed]
  unfold floatToIntVal
  rw [hr]
  have : IntKind.i64.min ≤ (t : Int) ∧ (t : Int) ≤ IntKind.i64.max := by
    have a : IntKind.i64.min = -9223372036854775808 := by rfl
    have b : IntKind.i64.max = 9223372036854775807 := by rfl
    rw [a, b]; omega
  exact if_pos this

def ticksW (w : Nat) : Nat :=
  if nanW w then 0 else if 9223372036854775808 ≤ w ∨ w = 0 then 0 else if 4787326403894837248 < w then 1099511627776 else ceilD (valN w) U
def ticksE (w : Nat) : Int := if nanW w then 1 else 0

theorem valN_tick : valN 4787326403894837248 = 1099511627776 * U := by
  have h : (4787326403894837248 : Nat) = (1062 + 1) * 4503599627370496 + 0 := by rfl
  have h2 : U = pw 12 * pw 1062 := pw_add 12 1062
  have h3 : pw 12 = 4096 := by rfl
  rw [h, valN_of 1062 (by omega), h2, h3]
  generalize pw 1062 = z
  omega

theorem run_archCeil {x : Nat} (s : Bool) (m : Nat) (i : Int) (h : double.read x = .number s m i) (w : World) : (callFunc 36 #[.float .f64 x]).run Try.prog w = .ok (.value (.float .f64 (double.nearest s (Toward.up.cut s (m <<< i.toNat) (-i).toNat) 0))) w := by
  rw [run_callFunc_extern Try.func36 (by kernel_rfl) (by kernel_rfl) (by kernel_rfl) (e := Extern.MathFloor.toIntegral "math.archCeil" .up) (by kernel_rfl)]
  have h' : FloatKind.f64.decode x = .number s m i := h
  show Result.andThen (Sem.run Try.prog (match FloatKind.f64.decode x with
    | .nan s t => _
    | d => _) w) _ = _
  rw [h']
  rfl

/- a float above 0, at most 2^40: its ceiling -/
theorem ceil_word {x : Nat} (h0 : 0 < x) (h1 : x ≤ 4787326403894837248) : ∃ m i, double.read x = .number false m i ∧ Toward.up.cut false (m <<< i.toNat) (-i).toNat = ceilD (valN x) U ∧ 0 < ceilD (valN x) U ∧ ceilD (valN x) U ≤ 1099511627776 := by
  have hx : x % 9223372036854775808 = x := by omega
  have hs : negW x = false := by unfold negW; simp; omega
  have hpos : 0 < valN x := valN_pos h0
  have hle : valN x ≤ 1099511627776 * U := by rw [← valN_tick]; exact valN_le_iff.2 h1
  have hU := U_pos
  have key : ∃ m i : Nat, double.read x = .number false m (-1074 + i) ∧ i ≤ 1074 ∧ m * 2 ^ i = valN x := by
    rw [read_word (by omega), hx, hs]
    unfold valN
    split
    · exact ⟨_, 0, rfl, by omega, by simp⟩
    · rw [if_pos (by omega)]
      exact ⟨_, _, rfl, by omega, rfl⟩
  obtain ⟨m, i, hr, hi, hv⟩ := key
  refine ⟨m, _, hr, ?_, ceilD_pos hU hpos, (ceilD_le hU).2 hle⟩
  have e1 : (-1074 + (i : Int)).toNat = 0 := by omega
  have e2 : (-(-1074 + (i : Int))).toNat = 1074 - i := by omega
  rw [e1, e2, Nat.shiftLeft_zero, cut_up, ← hv]
  have e3 : U = 2 ^ (1074 - i) * 2 ^ i := U_eq (by omega)
  rw [e3, ceilD_mul (Nat.two_pow_pos _) (Nat.two_pow_pos _)]

theorem Ceil_any (x : Nat) (w : World) (h0 : 0 < x) (h1 : x ≤ 4787326403894837248) : Calls Try.prog 26 #[.float .f64 x] w fun e w' => e = .returned (.float .f64 (double.nearest false (ceilD (valN x) U) 0)) ∧ w = w' := by
  obtain ⟨m, i, hr, hc, -, -⟩ := ceil_word h0 h1
  have h := run_archCeil _ _ _ hr
  rw [hc] at h
  clear hr hc
  go_enter Try.func26, Try.ntmps26
  go_wp2
  go_ret
  exact ⟨rfl, rfl⟩

theorem order_leq0 {x : Nat} (hx : x < 18446744073709551616) (hn : nanW x = false) : (double.order x 0 == some .lt || double.order x 0 == some .eq) = decide (9223372036854775808 ≤ x ∨ x = 0) := by
  rw [order_words hx (by omega), hn]
  have h0 : nanW 0 = false := rfl
  have r0 : rankW 0 = 9223372036854775808 := rfl
  rw [h0, r0]
  simp only [nanW, decide_eq_false_iff_not] at hn
  simp only [Bool.or_self, Bool.false_eq_true, if_false, compare_nat]
  have rb : rankW x ≤ 9223372036854775808 ↔ 9223372036854775808 ≤ x ∨ x = 0 := by
    unfold rankW plainW
    rw [if_neg hn]
    split <;> split <;> omega
  by_cases g : 9223372036854775808 ≤ x ∨ x = 0
  · have := rb.2 g
    by_cases g2 : rankW x = 9223372036854775808
    · simp [g2, g]
    · have : rankW x < 9223372036854775808 := by omega
      simp [this, g]
  · have : ¬ rankW x ≤ 9223372036854775808 := fun h => g (rb.1 h)
    rw [if_neg (by omega), if_neg (by omega), decide_eq_false g]; rfl
theorem order_gtT {x : Nat} (hx : x < 9223372036854775808) (hn : nanW x = false) : (double.order x 4787326403894837248 == some .gt) = decide (4787326403894837248 < x) := by
  rw [order_words (by omega) (by omega), hn]
  have h0 : nanW 4787326403894837248 = false := rfl
  have r0 : rankW 4787326403894837248 = 14010698440749613056 := rfl
  rw [h0, r0]
  simp only [nanW, decide_eq_false_iff_not] at hn
  simp only [Bool.or_self, Bool.false_eq_true, if_false, compare_nat]
  have rb : rankW x = x + 9223372036854775808 := by
    unfold rankW plainW
    rw [if_neg hn]
    split <;> split <;> omega
  rw [rb]
  by_cases g : 4787326403894837248 < x
  · rw [if_neg (by omega), if_neg (by omega), decide_eq_true g]; rfl
  · rw [decide_eq_false g]
    by_cases g2 : x = 4787326403894837248
    · subst g2; rfl
    · rw [if_pos (by omega)]; rfl

theorem Ticks_any (x : Nat) (w : World) (hx : x < 18446744073709551616) : Calls Try.prog 11 #[.int .u64 (x : Int)] w fun e w' => e = .returned (.tuple #[.int .i64 (ticksW x : Nat), .int .i64 (ticksE x)]) ∧ w = w' := by
  have hk : FloatKind.f64.format = double := rfl
  cases hn : nanW x
  · have hle := order_leq0 hx hn
    by_cases z : 9223372036854775808 ≤ x ∨ x = 0
    · rw [decide_eq_true z] at hle
      have HW : Hid (ticksW x = 0) := by show ticksW x = 0; unfold ticksW; rw [hn, if_neg (by simp), if_pos z]
      have HE : Hid (ticksE x = 0) := by show ticksE x = 0; unfold ticksE; rw [hn]; rfl
      go_enter Try.func11, Try.ntmps11
      go_wp2_with fail
      with_reducible refine (floatOf_any _ _).mono ?_
      rintro e w1 ⟨rfl, rfl⟩
      go_wp2_with fail
      with_reducible refine (IsNaN_any _ _ hx).mono ?_
      rintro e w1 ⟨rfl, rfl⟩
      rw [hn]
      go_wp2_with fail
      go_ret2
      exact ⟨by rw [HW.out, HE.out]; rfl, rfl⟩
    · rw [decide_eq_false z] at hle
      have hgt := order_gtT (x := x) (by omega) hn
      by_cases g : 4787326403894837248 < x
      · rw [decide_eq_true g] at hgt
        have HW : Hid (ticksW x = 1099511627776) := by show ticksW x = 1099511627776; unfold ticksW; rw [hn, if_neg (by simp), if_neg z, if_pos g]
        have HE : Hid (ticksE x = 0) := by show ticksE x = 0; unfold ticksE; rw [hn]; rfl
        go_enter Try.func11, Try.ntmps11
        go_wp2_with fail
        with_reducible refine (floatOf_any _ _).mono ?_
        rintro e w1 ⟨rfl, rfl⟩
        go_wp2_with fail
        with_reducible refine (IsNaN_any _ _ hx).mono ?_
        rintro e w1 ⟨rfl, rfl⟩
        rw [hn]
        go_wp2_with fail
        go_ret2
        exact ⟨by rw [HW.out, HE.out]; rfl, rfl⟩
      · rw [decide_eq_false g] at hgt
        have HW : Hid (ticksW x = ceilD (valN x) U) := by show ticksW x = _; unfold ticksW; rw [hn, if_neg (by simp), if_neg z, if_neg g]
        have HE : Hid (ticksE x = 0) := by show ticksE x = 0; unfold ticksE; rw [hn]; rfl
        obtain ⟨m, i, -, -, hc1, hc2⟩ := ceil_word (x := x) (by omega) (by omega)
        have HT := toInt_nearest hc1 (by omega)
        have hC := fun W => Ceil_any x W (by omega) (by omega)
        generalize ceilD (valN x) U = t at *
        generalize double.nearest false t 0 = y at *
        have hc : ∀ w, (convert 41 3 (.float .f64 y)).run Try.prog w = .ok (.int .i64 (t : Int)) w := fun w => run_convert_float_int w 41 3 .f64 .i64 y t (by rw [Try.underlying41]; rfl) Try.underlying3 HT
        clear HT
        go_enter Try.func11, Try.ntmps11
        go_wp2_with fail
        with_reducible refine (floatOf_any _ _).mono ?_
        rintro e w1 ⟨rfl, rfl⟩
        go_wp2_with fail
        with_reducible refine (IsNaN_any _ _ hx).mono ?_
        rintro e w1 ⟨rfl, rfl⟩
        rw [hn]
        go_wp2_with fail
        with_reducible refine (hC _).mono ?_
        rintro e w1 ⟨rfl, rfl⟩
        go_wp2_with fail
        go_ret2
        exact ⟨by rw [HW.out, HE.out]; rfl, rfl⟩
  · have HW : Hid (ticksW x = 0) := by show ticksW x = 0; unfold ticksW; rw [hn, if_pos rfl]
    have HE : Hid (ticksE x = 1) := by show ticksE x = 1; unfold ticksE; rw [hn]; rfl
    go_enter Try.func11, Try.ntmps11
    go_wp2_with fail
    with_reducible refine (floatOf_any _ _).mono ?_
    rintro e w1 ⟨rfl, rfl⟩
    go_wp2_with fail
    with_reducible refine (IsNaN_any _ _ hx).mono ?_
    rintro e w1 ⟨rfl, rfl⟩
    rw [hn]
    go_wp2_with fail
    go_ret2
    exact ⟨by rw [HW.out, HE.out]; rfl, rfl⟩
end Go.Proofs.Ytkpdfjpdjjjfiaa
