/- The document's own answer for layer 3: the small functions. -/
import Derived.Test.YtkpdfjpdjjjfiaaLagG
import Derived.Test.YtkpdfjpdjjjfiaaLagJ
namespace Go.Proofs.Ytkpdfjpdjjjfiaa
open Go.RowKit Ieee

theorem size_any (x : Nat) (w : World) (hx : x < 18446744073709551616) : Calls Try.prog 27 #[.int .u64 (x : Int)] w fun e w' => e = .returned (.int .u64 ((x % 9223372036854775808 : Nat) : Int)) ∧ w = w' := by
  go_enter Try.func27, Try.ntmps27
  go_wp2
  go_ret
  exact ⟨rfl, rfl⟩

theorem rPlain_any (x : Nat) (w : World) (hx : x < 18446744073709551616) : Calls Try.prog 14 #[.int .u64 (x : Int)] w fun e w' => e = .returned (.int .u64 (plainW x : Nat)) ∧ w = w' := by
  have hs := fun W => size_any x W hx
  have HP : Hid (plainW x = if 9218868437227405312 < x % 9223372036854775808 then 9221120237041090561 else if x % 9223372036854775808 = 0 then 0 else x) := rfl
  generalize x % 9223372036854775808 = r at *
  by_cases h1 : 9218868437227405312 < r
  · have g1 : (9218868437227405312 < (r : Int)) = True := eq_true (by omega)
    have g1' : (9218868437227405312 < r) = True := eq_true (by omega)
    have HR : Hid (plainW x = 9221120237041090561) := by show _ = _; rw [HP.out, if_pos h1]
    clear HP h1
    go_enter Try.func14, Try.ntmps14
    go_wp2_with (first | (with_reducible refine (hs _).mono ?_; rintro e w2 ⟨rfl, rfl⟩))
    go_ret
    exact ⟨by rw [HR.out]; rfl, rfl⟩
  · have g1 : (9218868437227405312 < (r : Int)) = False := eq_false (by omega)
    have g1' : (9218868437227405312 < r) = False := eq_false (by omega)
    by_cases h2 : r = 0
    · have g2 : ((r : Int) == 0) = true := by simp; omega
      have HR : Hid (plainW x = 0) := by show _ = _; rw [HP.out, if_neg h1, if_pos h2]
      clear HP h1 h2
      go_enter Try.func14, Try.ntmps14
      go_wp2_with (first | (with_reducible refine (hs _).mono ?_; rintro e w2 ⟨rfl, rfl⟩))
      go_ret
      exact ⟨by rw [HR.out]; rfl, rfl⟩
    · have g2 : ((r : Int) == 0) = false := by simp; omega
      have HR : Hid (plainW x = x) := by show _ = _; rw [HP.out, if_neg h1, if_neg h2]
      clear HP h1 h2
      go_enter Try.func14, Try.ntmps14
      go_wp2_with (first | (with_reducible refine (hs _).mono ?_; rintro e w2 ⟨rfl, rfl⟩))
      go_ret
      exact ⟨by rw [HR.out]; rfl, rfl⟩

theorem u64_not {p : Nat} (h : p < 18446744073709551616) : bits .xor .u64 IntKind.u64.max (p : Int) = ((18446744073709551615 - p : Nat) : Int) := by
  show IntKind.u64.wrap ((BitVec.ofInt 64 ((18446744073709551615 : Nat) : Int) ^^^ BitVec.ofInt 64 (p : Int)).toNat : Int) = _
  have e : BitVec.ofInt 64 ((18446744073709551615 : Nat) : Int) = BitVec.allOnes 64 := by rfl
  rw [e, BitVec.allOnes_xor, BitVec.toNat_not, ofInt_nat64 h]
  exact wrap_u64_nat (by omega)

theorem rank_any (x : Nat) (w : World) (hx : x < 18446744073709551616) : Calls Try.prog 30 #[.int .u64 (x : Int)] w fun e w' => e = .returned (.int .u64 (rankW x : Nat)) ∧ w = w' := by
  have hp := fun W => rPlain_any x W hx
  have hl := plainW_lt hx
  have HP : Hid (rankW x = if 9223372036854775808 ≤ plainW x then 18446744073709551615 - plainW x else plainW x + 9223372036854775808) := rfl
  generalize plainW x = p at *
  by_cases h1 : 9223372036854775808 ≤ p
  · have g1 : (9223372036854775808 ≤ (p : Int)) = True := eq_true (by omega)
    have HR : Hid (rankW x = 18446744073709551615 - p) := by show _ = _; rw [HP.out, if_pos h1]
    clear HP h1
    go_enter Try.func30, Try.ntmps30
    go_wp2_with (first | (with_reducible refine (hp _).mono ?_; rintro e w2 ⟨rfl, rfl⟩))
    go_ret
    refine ⟨?_, rfl⟩
    rw [HR.out, ← u64_not hl]; rfl
  · have g1 : (9223372036854775808 ≤ (p : Int)) = False := eq_false (by omega)
    have HR : Hid (rankW x = p + 9223372036854775808) := by show _ = _; rw [HP.out, if_neg h1]
    have hadd : (p : Int) + 9223372036854775808 ≤ 18446744073709551615 := by omega
    clear HP h1
    go_enter Try.func30, Try.ntmps30
    go_wp2_with (first | (with_reducible refine (hp _).mono ?_; rintro e w2 ⟨rfl, rfl⟩))
    go_ret
    refine ⟨?_, rfl⟩
    rw [HR.out]
    rfl

theorem rLess_any (a b : Nat) (w : World) (ha : a < 18446744073709551616) (hb : b < 18446744073709551616) : Calls Try.prog 16 #[.int .u64 (a : Int), .int .u64 (b : Int)] w fun e w' => e = .returned (.bool (lessW a b)) ∧ w = w' := by
  have h1 := fun W => rank_any a W ha
  have h2 := fun W => rank_any b W hb
  have HL : Hid (lessW a b = decide (rankW a < rankW b)) := rfl
  generalize rankW a = ra at *
  generalize rankW b = rb at *
  go_enter Try.func16, Try.ntmps16
  go_wp2_with fail
  with_reducible refine (h1 _).mono ?_
  rintro e w2 ⟨rfl, rfl⟩
  go_wp2_with fail
  with_reducible refine (h2 _).mono ?_
  rintro e w2 ⟨rfl, rfl⟩
  go_wp2_with fail
  go_ret
  refine ⟨?_, rfl⟩
  rw [HL.out]
  simp

theorem shifted_zero (m : Nat) (w : World) : Calls Try.prog 34 #[.int .u64 (m : Int), .int .i64 0] w fun e w' => e = .returned (.int .u64 (rne m 0 : Nat)) ∧ w = w' := by
  have HR := Lib.hid (rne_zero m)
  go_enter Try.func34, Try.ntmps34
  go_wp2_with fail
  go_ret
  exact ⟨by rw [HR.out]; rfl, rfl⟩

set_option maxHeartbeats 1000000 in
theorem shifted_pos (m d : Nat) (w : World) (hm : m < 18446744073709551616) (h0 : 0 < d) (hd : d ≤ 63) : Calls Try.prog 34 #[.int .u64 (m : Int), .int .i64 (d : Int)] w fun e w' => e = .returned (.int .u64 (rne m d : Nat)) ∧ w = w' := by
  have hd0 : ((d : Int) == 0) = false := by simp; omega
  have HR : Hid (rne m d = m / 2 ^ d + if 2 ^ d < 2 * (m % 2 ^ d) ∨ (2 ^ d = 2 * (m % 2 ^ d) ∧ m / 2 ^ d % 2 = 1) then 1 else 0) := rfl
  have e2 : 2 ^ d = 2 * 2 ^ (d - 1) := by
    obtain ⟨c, rfl⟩ : ∃ c, d = c + 1 := ⟨d - 1, by omega⟩
    rw [Nat.pow_succ, Nat.mul_comm]; rfl
  have hh : 2 ^ (d - 1) < 18446744073709551616 := Nat.lt_of_le_of_lt (Nat.pow_le_pow_right (by omega) (show d - 1 ≤ 62 by omega)) (by decide)
  have hpos : 0 < 2 ^ d := Nat.two_pow_pos _
  have hdm := Nat.div_add_mod m (2 ^ d)
  have hlt := Nat.mod_lt m hpos
  have hle : 1 ≤ 2 ^ (d - 1) := Nat.two_pow_pos _
  have c1 : ((2 : Int) ^ d) = ((2 ^ d : Nat) : Int) := by rw [Int.natCast_pow]; rfl
  have c2 : ((2 : Int) ^ (d - 1)) = ((2 ^ (d - 1) : Nat) : Int) := by rw [Int.natCast_pow]; rfl
  have f1 : (m : Int) / 2 ^ d = ((m / 2 ^ d : Nat) : Int) := by rw [c1, Int.natCast_ediv]
  rw [Nat.mul_comm] at hdm
  have f2 : IntKind.u64.wrap (((m / 2 ^ d : Nat) : Int) * 2 ^ d) = ((m / 2 ^ d * 2 ^ d : Nat) : Int) := by
    rw [c1, ← Int.natCast_mul]
    exact wrap_u64_nat (by omega)
  have f4 : IntKind.u64.wrap (2 ^ (d - 1)) = ((2 ^ (d - 1) : Nat) : Int) := by rw [c2]; exact wrap_u64_nat hh
  clear c1 c2
  have f3 : IntKind.u64.wrap ((m : Int) - ((m / 2 ^ d * 2 ^ d : Nat) : Int)) = ((m % 2 ^ d : Nat) : Int) := by
    have : (m : Int) - ((m / 2 ^ d * 2 ^ d : Nat) : Int) = ((m % 2 ^ d : Nat) : Int) := by omega
    rw [this]
    exact wrap_u64_nat (by omega)
  have hq9 : m / 2 ^ d < 18446744073709551615 := by
    have : m / 2 ^ d ≤ m / 2 := Nat.div_le_div_left (by omega) (by omega)
    omega
  generalize m / 2 ^ d * 2 ^ d = G at *
  generalize m / 2 ^ d = q at *
  generalize m % 2 ^ d = r at *
  generalize hD : 2 ^ d = D at *
  generalize 2 ^ (d - 1) = h at *
  have f5 : IntKind.u64.wrap ((q : Int) + 1) = (q : Int) + 1 := by
    have : (q : Int) + 1 = ((q + 1 : Nat) : Int) := rfl
    rw [this]
    exact wrap_u64_nat (by omega)
  have f6 : (q : Int).tmod 2 = ((q % 2 : Nat) : Int) := by rw [Int.tmod_eq_emod_of_nonneg (by omega)]; omega
  have hD' := Lib.hid hD
  clear hD hdm hpos hle hlt hh
  rcases Nat.lt_trichotomy h r with g | g | g
  · have HV : Hid ((if D < 2 * r ∨ (D = 2 * r ∧ q % 2 = 1) then 1 else 0) = 1) := if_pos (.inl (by omega))
    have g1 : ((h : Int) < (r : Int)) = True := eq_true (by omega)
    have g2 : (h < r) = True := eq_true (by omega)
    have g3 : ((r : Int) == (h : Int)) = false := by simp; omega
    have g4 : (r = h) = False := eq_false (by omega)
    clear g e2
    go_enter Try.func34, Try.ntmps34
    go_wp2_with fail
    go_ret
    exact ⟨by rw [HR.out, HV.out]; rfl, rfl⟩
  · rcases Nat.mod_two_eq_zero_or_one q with o | o
    · have HV : Hid ((if D < 2 * r ∨ (D = 2 * r ∧ q % 2 = 1) then 1 else 0) = 0) := if_neg (by omega)
      have g1 : ((h : Int) < (r : Int)) = False := eq_false (by omega)
      have g2 : (h < r) = False := eq_false (by omega)
      have g3 : ((r : Int) == (h : Int)) = true := by simp; omega
      have g4 : (r = h) = True := eq_true (by omega)
      have g5 : (((q % 2 : Nat) : Int) == 1) = false := by simp; omega
      have g6 : (q % 2 = 1) = False := eq_false (by omega)
      clear g e2
      go_enter Try.func34, Try.ntmps34
      go_wp2_with fail
      go_ret
      exact ⟨by rw [HR.out, HV.out]; rfl, rfl⟩
    · have HV : Hid ((if D < 2 * r ∨ (D = 2 * r ∧ q % 2 = 1) then 1 else 0) = 1) := if_pos (.inr ⟨by omega, o⟩)
      have g1 : ((h : Int) < (r : Int)) = False := eq_false (by omega)
      have g2 : (h < r) = False := eq_false (by omega)
      have g3 : ((r : Int) == (h : Int)) = true := by simp; omega
      have g4 : (r = h) = True := eq_true (by omega)
      have g5 : (((q % 2 : Nat) : Int) == 1) = true := by simp; omega
      have g6 : (q % 2 = 1) = True := eq_true (by omega)
      clear g e2
      go_enter Try.func34, Try.ntmps34
      go_wp2_with fail
      go_ret
      exact ⟨by rw [HR.out, HV.out]; rfl, rfl⟩
  · have HV : Hid ((if D < 2 * r ∨ (D = 2 * r ∧ q % 2 = 1) then 1 else 0) = 0) := if_neg (by omega)
    have g1 : ((h : Int) < (r : Int)) = False := eq_false (by omega)
    have g2 : (h < r) = False := eq_false (by omega)
    have g3 : ((r : Int) == (h : Int)) = false := by simp; omega
    have g4 : (r = h) = False := eq_false (by omega)
    clear g e2
    go_enter Try.func34, Try.ntmps34
    go_wp2_with fail
    go_ret
    exact ⟨by rw [HR.out, HV.out]; rfl, rfl⟩
end Go.Proofs.Ytkpdfjpdjjjfiaa
