/- The small functions of package lag, and what they call of package math. -/
import Derived.Test.YthlajfoipafaaaaDoorProg
import Derived.Test.YthlajfoipafaaaaDoorLagQ
import Derived.Below
import Derived.WalkLawsBesides
import Derived.Lib.Hide
namespace Go.Proofs.YthlajfoipafaaaaDoor
open Go.RowKit

theorem run_frombits (n : Int) (w : World) : (callFunc 56 #[.int .u64 n]).run Tryd.prog w = .ok (.value (.float .f64 n.toNat)) w := by
  rw [run_callFunc_extern Tryd.func56 (by kernel_rfl) (by kernel_rfl) (by kernel_rfl) (e := Extern.MathFloatBits.float64frombits) (by kernel_rfl)]; rfl
theorem run_tobits (b : Nat) (w : World) : (callFunc 55 #[.float .f64 b]).run Tryd.prog w = .ok (.value (.int .u64 (b : Int))) w := by
  rw [run_callFunc_extern Tryd.func55 (by kernel_rfl) (by kernel_rfl) (by kernel_rfl) (e := Extern.MathFloatBits.float64bits) (by kernel_rfl)]; rfl

theorem order_self {b : Nat} (hb : b < 18446744073709551616) : (Ieee.double.order b b != some .eq) = nanW b := by
  rw [order_words hb hb]
  cases nanW b
  · simp
  · rfl
theorem order_lt {a b : Nat} (ha : a < 18446744073709551616) (hb : b < 18446744073709551616) (h : nanW b = false) : (Ieee.double.order a b == some .lt) = lessW a b := by
  rw [order_words ha hb, h]
  cases hn : nanW a
  · simp only [Bool.or_self, Bool.false_eq_true, if_false, lessW, compare_nat]
    by_cases g : rankW a < rankW b
    · simp [g]
    · by_cases g2 : rankW a = rankW b <;> simp [g, g2]
  · have ra : rankW a = 18444492273895866369 := by
      simp only [nanW, decide_eq_true_eq] at hn
      unfold rankW plainW
      rw [if_pos hn]; rfl
    have rb : rankW b ≤ 18444492273895866369 := by
      have := plainW_lt hb
      simp only [nanW, decide_eq_false_iff_not] at h
      unfold rankW plainW
      rw [if_neg h]
      split <;> split <;> omega
    simp [lessW, ra]; omega
theorem less_nan {a b : Nat} (ha : a < 18446744073709551616) (h : nanW b = true) : lessW a b = !nanW a := by
  have rb : rankW b = 18444492273895866369 := by
    simp only [nanW, decide_eq_true_eq] at h
    unfold rankW plainW
    rw [if_pos h]; rfl
  cases hn : nanW a
  · have ra : rankW a < 18444492273895866369 := by
      simp only [nanW, decide_eq_false_iff_not] at hn
      unfold rankW plainW
      rw [if_neg hn]
      split <;> split <;> omega
    simp [lessW, rb, ra]
  · have ra : rankW a = 18444492273895866369 := by
      simp only [nanW, decide_eq_true_eq] at hn
      unfold rankW plainW
      rw [if_pos hn]; rfl
    simp [lessW, rb, ra]
/- a word is a zero's just if its float is 0 -/
theorem order_zero {b : Nat} (hb : b < 18446744073709551616) : (Ieee.double.order b 0 == some .eq) = decide (b % 9223372036854775808 = 0) := by
  rw [order_words hb (by omega)]
  have h0 : nanW 0 = false := rfl
  have r0 : rankW 0 = 9223372036854775808 := rfl
  rw [h0, r0]
  cases hn : nanW b
  · simp only [nanW, decide_eq_false_iff_not] at hn
    simp only [Bool.or_self, Bool.false_eq_true, if_false, compare_nat]
    have rb : rankW b = 9223372036854775808 ↔ b % 9223372036854775808 = 0 := by
      unfold rankW plainW
      rw [if_neg hn]
      split <;> split <;> omega
    by_cases g : b % 9223372036854775808 = 0
    · simp [rb.2 g, g]
    · have g2 : ¬ rankW b = 9223372036854775808 := fun e => g (rb.1 e)
      by_cases g3 : rankW b < 9223372036854775808 <;> simp [g, g2, g3]
  · simp only [nanW, decide_eq_true_eq] at hn
    have : ¬ b % 9223372036854775808 = 0 := by omega
    simp [this]

theorem floatOf_any (b : Nat) (w : World) : Calls Tryd.prog 41 #[.int .u64 (b : Int)] w fun e w' => e = .returned (.float .f64 b) ∧ w = w' := by
  have h := run_frombits
  go_enter Tryd.func41, Tryd.ntmps41
  go_wp2
  go_ret
  exact ⟨by simp, rfl⟩

theorem IsNaN_any (b : Nat) (w : World) (hb : b < 18446744073709551616) : Calls Tryd.prog 54 #[.float .f64 b] w fun e w' => e = .returned (.bool (nanW b)) ∧ w = w' := by
  have HN := order_self hb
  have hf : FloatKind.f64.format = Ieee.double := rfl
  go_enter Tryd.func54, Tryd.ntmps54
  go_wp2
  go_ret
  refine ⟨?_, rfl⟩
  first | rfl | (rw [← HN]; rfl) | simp [HN]

theorem wordOf_any (b : Nat) (w : World) (hb : b < 18446744073709551616) : Calls Tryd.prog 40 #[.float .f64 b] w fun e w' => e = .returned (.int .u64 (plainW b : Nat)) ∧ w = w' := by
  have h := run_tobits
  have hz := order_zero hb
  have hf : FloatKind.f64.format = Ieee.double := rfl
  have HP : Hid (plainW b = if nanW b then 9221120237041090561 else if b % 9223372036854775808 = 0 then 0 else b) := by
    show plainW b = _
    unfold plainW nanW
    by_cases g : 9218868437227405312 < b % 9223372036854775808 <;> simp [g]
  cases hn : nanW b
  · by_cases z : b % 9223372036854775808 = 0
    · rw [decide_eq_true z] at hz
      go_enter Tryd.func40, Tryd.ntmps40
      go_wp2_with fail
      with_reducible refine (IsNaN_any _ _ hb).mono ?_
      rintro e w1 ⟨rfl, rfl⟩
      rw [hn]
      go_wp2_with fail
      go_ret
      exact ⟨by rw [HP.out]; simp [hn, z], rfl⟩
    · rw [decide_eq_false z] at hz
      go_enter Tryd.func40, Tryd.ntmps40
      go_wp2_with fail
      with_reducible refine (IsNaN_any _ _ hb).mono ?_
      rintro e w1 ⟨rfl, rfl⟩
      rw [hn]
      go_wp2_with fail
      go_ret
      exact ⟨by rw [HP.out]; simp [hn, z], rfl⟩
  · go_enter Tryd.func40, Tryd.ntmps40
    go_wp2_with fail
    with_reducible refine (IsNaN_any _ _ hb).mono ?_
    rintro e w1 ⟨rfl, rfl⟩
    rw [hn]
    go_wp2_with fail
    go_ret
    exact ⟨by rw [HP.out]; simp [hn], rfl⟩

theorem Plain_any (b : Nat) (w : World) (hb : b < 18446744073709551616) : Calls Tryd.prog 23 #[.int .u64 (b : Int)] w fun e w' => e = .returned (.int .u64 (plainW b : Nat)) ∧ w = w' := by
  go_enter Tryd.func23, Tryd.ntmps23
  go_wp2_with fail
  with_reducible refine (floatOf_any _ _).mono ?_
  rintro e w1 ⟨rfl, rfl⟩
  go_wp2_with fail
  with_reducible refine (wordOf_any _ _ hb).mono ?_
  rintro e w1 ⟨rfl, rfl⟩
  go_wp2_with fail
  go_ret
  exact ⟨rfl, rfl⟩

def ofW (n : Int) : Nat := plainW (floatOfInt .f64 n)
theorem floatOfInt_lt (n : Int) : floatOfInt .f64 n < 18446744073709551616 := by
  have h := Ieee.double.write_lt (.number (n < 0) n.natAbs 0)
  have e : 2 ^ Ieee.double.width = 18446744073709551616 := by rfl
  rw [e] at h
  exact h
end Go.Proofs.YthlajfoipafaaaaDoor
