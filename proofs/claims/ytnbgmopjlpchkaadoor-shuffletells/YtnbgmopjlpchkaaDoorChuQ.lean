/- Plain facts on sums of words, and on bytes that are unlike in one place (no program). -/
import Derived.Test.YtnbgmopjlpchkaaDoorOctP
import Derived.Test.YtnbgmopjlpchkaaDoorChuP
namespace Go.Proofs.YtnbgmopjlpchkaaDoor
open Go.RowKit

/- the sum of words, each by its eight bytes -/
def foldB (ws : List Nat) : Nat := moreH 14695981039346656037 (ws.flatMap fun w => leBytes w 8)
theorem foldB_lt (ws : List Nat) : foldB ws < 18446744073709551616 := moreH_lt (by decide) _
theorem foldB_nil : foldB [] = 14695981039346656037 := rfl
theorem foldB_snoc (ws : List Nat) (w : Nat) : foldB (ws ++ [w]) = moreH (foldB ws) (leBytes w 8) := by
  unfold foldB
  rw [List.flatMap_append, moreH_append]
  simp
theorem foldB_take (ws : List Nat) (k : Nat) (hk : k < ws.length) : moreH (foldB (ws.take k)) (leBytes ws[k] 8) = foldB (ws.take (k + 1)) := by
  rw [List.take_succ_eq_append_getElem hk, foldB_snoc]

/- one byte in place of another -/
theorem more_set {h : Nat} (hh : h < 18446744073709551616) (l : List UInt8) (j : Nat) (y : UInt8) : moreH h l = moreH h (l.set j y) ↔ l = l.set j y := by
  by_cases hj : j < l.length
  · have e1 : l = l.take j ++ l[j] :: l.drop (j + 1) := by simp
    have e2 : l.set j y = l.take j ++ y :: l.drop (j + 1) := by rw [List.set_eq_take_append_cons_drop, if_pos hj]
    constructor
    · intro e
      rw [e2] at e
      conv at e => lhs; rw [e1]
      have := (more_one hh _ _ _ _).1 e
      rw [← this]; simp
    · intro e; rw [← e]
  · rw [List.set_eq_of_length_le (by omega)]; simp

theorem byte_of_xor (h c i j : Nat) (hc : c < 256) (hij : i ≠ j) : (h ^^^ (c * 256 ^ j)) / 256 ^ i % 256 = h / 256 ^ i % 256 := by
  have e256 : (256 : Nat) = 2 ^ 8 := by decide
  have e1 : (h ^^^ (c * 256 ^ j)) / 256 ^ i = (h / 256 ^ i) ^^^ (c * 256 ^ j / 256 ^ i) := by
    rw [← pow_8 i, ← Nat.shiftRight_eq_div_pow, ← Nat.shiftRight_eq_div_pow, ← Nat.shiftRight_eq_div_pow, Nat.shiftRight_xor_distrib]
  have e2 : c * 256 ^ j / 256 ^ i % 256 = 0 := by
    rcases Nat.lt_or_gt_of_ne hij with h1 | h1
    · obtain ⟨d, rfl⟩ : ∃ d, j = i + d + 1 := ⟨j - i - 1, by omega⟩
      have : c * 256 ^ (i + d + 1) = (c * 256 ^ d * 256) * 256 ^ i := by
        rw [show i + d + 1 = d + 1 + i by omega, Nat.pow_add, Nat.pow_succ, ← Nat.mul_assoc, ← Nat.mul_assoc]
      rw [this, Nat.mul_div_cancel _ (Nat.pow_pos (by decide)), Nat.mul_mod_left]
    · obtain ⟨d, rfl⟩ : ∃ d, i = j + (d + 1) := ⟨i - j - 1, by omega⟩
      rw [Nat.pow_add, ← Nat.div_div_eq_div_mul, Nat.mul_div_cancel _ (Nat.pow_pos (by decide)), Nat.pow_succ, Nat.mul_comm, ← Nat.div_div_eq_div_mul, Nat.div_eq_of_lt hc]
      simp
  rw [e1]
  conv => lhs; rw [e256, Nat.xor_mod_two_pow]
  rw [← e256, e2, Nat.xor_zero]

theorem leBytes_xor (h c j : Nat) (hc : c < 256) (hj : j < 8) : leBytes (h ^^^ (c * 256 ^ j)) 8 = (leBytes h 8).set j (UInt8.ofNat ((h ^^^ (c * 256 ^ j)) / 256 ^ j)) := by
  apply List.ext_getElem?
  intro i
  by_cases hi : i < 8
  · rw [leBytes_get _ _ _ hi]
    by_cases hij : i = j
    · subst hij
      rw [List.getElem?_set_self (by rw [leBytes_length]; exact hi)]
    · rw [List.getElem?_set_ne (Ne.symm hij), leBytes_get _ _ _ hi]
      congr 1
      apply UInt8.toNat_inj.mp
      rw [UInt8.toNat_ofNat', UInt8.toNat_ofNat']
      exact byte_of_xor h c i j hc hij
  · rw [List.getElem?_eq_none (by rw [leBytes_length]; omega), List.getElem?_eq_none (by rw [List.length_set, leBytes_length]; omega)]

theorem leBytes_inj {a b : Nat} (ha : a < 18446744073709551616) (hb : b < 18446744073709551616) : leBytes a 8 = leBytes b 8 ↔ a = b := by
  constructor
  · intro e
    have h1 := leNum_leBytes 8 a
    have h2 := leNum_leBytes 8 b
    rw [e] at h1
    have e3 : (256 : Nat) ^ 8 = 18446744073709551616 := by decide
    rw [e3, Nat.mod_eq_of_lt ha] at h1
    rw [e3, Nat.mod_eq_of_lt hb] at h2
    omega
  · intro e; rw [e]

theorem fold_three (a b c : Nat) : foldB [a, b, c] = moreH (moreH (foldB [a]) (leBytes b 8)) (leBytes c 8) := by
  rw [show [a, b, c] = ([a] ++ [b]) ++ [c] from rfl, foldB_snoc, foldB_snoc]

theorem fold_mid (h c j x y : Nat) (hh : h < 18446744073709551616) (hc : c < 256) (hj : j < 8) (hw : h ^^^ (c * 256 ^ j) < 18446744073709551616) :
    foldB [x, h, y] = foldB [x, h ^^^ (c * 256 ^ j), y] ↔ h = h ^^^ (c * 256 ^ j) := by
  rw [fold_three, fold_three, more_inj (moreH_lt (foldB_lt _) _) (moreH_lt (foldB_lt _) _), ← leBytes_inj hh hw]
  conv => lhs; rhs; rw [leBytes_xor h c j hc hj]
  conv => rhs; rhs; rw [leBytes_xor h c j hc hj]
  exact more_set (foldB_lt _) _ _ _

theorem mod_twice (a n : Nat) : a % (2 * n) % n = a % n := by
  rw [Nat.mul_comm]; exact Nat.mod_mul_right_mod a n 2

end Go.Proofs.YtnbgmopjlpchkaaDoor
