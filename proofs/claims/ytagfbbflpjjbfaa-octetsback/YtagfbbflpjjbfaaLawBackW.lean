/- The walk of OctetsBack. -/
import Derived.Test.YtagfbbflpjjbfaaOctK
import Derived.OpenShut
namespace Go.Proofs.Ytagfbbflpjjbfaa
open Go.RowKit

theorem append_list (a b : ByteArray) : (a ++ b).data.toList = a.data.toList ++ b.data.toList := by simp
theorem bytes_ext {a b : ByteArray} (h : a.data.toList = b.data.toList) : a = b := WideShapes.bytes_inj h
theorem list_size (s : ByteArray) : s.size = s.data.toList.length := by simp

theorem take_put (x k : Nat) (t y : ByteArray) (hk : k < 8) (ht : t.data.toList = leBytes x (k + 1)) : takeOf (t ++ y) (1 + (k : Int)) = (x % 256 ^ (k + 1), y, 0) := by
  have hl : t.data.toList.length = k + 1 := by rw [ht, leBytes_length]
  have hsz : (t ++ y).size = k + 1 + y.size := by rw [list_size, append_list, List.length_append, hl, ← list_size]
  have e : (1 + (k : Int)).toNat = k + 1 := by omega
  unfold takeOf
  rw [if_pos (by omega), if_neg (by omega), e]
  have e1 : (t ++ y).data.toList.take (k + 1) = leBytes x (k + 1) := by
    rw [append_list, ht]; exact List.take_left' (leBytes_length _ _)
  have e2 : (t ++ y).extract (k + 1) (t ++ y).size = y := by
    apply bytes_ext
    rw [ext_list, append_list, ← hl, List.drop_left, List.take_of_length_le (by rw [hsz, hl, ← list_size]; omega)]
  rw [e1, e2, leNum_leBytes]

theorem shift_nat (x j d : Nat) : (x * 2 ^ d) % 2 ^ (j + d) / 2 ^ d = x % 2 ^ j := by
  rw [Nat.pow_add, Nat.mul_mod_mul_right, Nat.mul_div_cancel _ (Nat.two_pow_pos d)]

theorem shift_back (x k : Nat) (hk : k < 8) : ((x % 256 ^ (k + 1) : Nat) : Int) = IntKind.u64.wrap ((x : Int) * 2 ^ (64 - 8 * (1 + k))) / 2 ^ (64 - 8 * (1 + k)) := by
  have h := shift_nat x (8 * (k + 1)) (64 - 8 * (1 + k))
  have e64 : 8 * (k + 1) + (64 - 8 * (1 + k)) = 64 := by omega
  rw [e64, pow_8] at h
  rw [← h, IntKind.wrap_u64]
  generalize 64 - 8 * (1 + k) = d
  have e2 : (2 : Nat) ^ 64 = 18446744073709551616 := by decide
  rw [e2]
  rw [Int.natCast_ediv, Int.natCast_emod, Int.natCast_mul, Int.natCast_pow]
  rfl

theorem takeOf_short (y : ByteArray) (k : Nat) (hk : k < 8) (h : y.size < k + 1) : takeOf y (1 + (k : Int)) = (0, ⟨#[]⟩, 3) := by
  unfold takeOf
  rw [if_pos (by omega), if_pos (by omega)]
theorem takeOf_long (y : ByteArray) (k : Nat) (hk : k < 8) (h : k + 1 ≤ y.size) : takeOf y (1 + (k : Int)) = (leNum (y.data.toList.take (k + 1)), y.extract (k + 1) y.size, 0) := by
  unfold takeOf
  rw [if_pos (by omega), if_neg (by omega), show (1 + (k : Int)).toNat = k + 1 by omega]
theorem put_take (y : ByteArray) (k : Nat) (hk : k < 8) (h : k + 1 ≤ y.size) : putOf (leNum (y.data.toList.take (k + 1))) (1 + (k : Int)) = y.data.toList.take (k + 1) := by
  unfold putOf
  rw [if_pos (by omega), show (1 + (k : Int)).toNat = k + 1 by omega]
  have hl : (y.data.toList.take (k + 1)).length = k + 1 := by rw [List.length_take, ← list_size]; omega
  have := leBytes_leNum (y.data.toList.take (k + 1))
  rw [hl] at this
  exact this
theorem put_more (y : ByteArray) (k : Nat) (l : Text) (hl : l = y.data.toList.take (k + 1)) : ((⟨l.toArray⟩ : ByteArray) ++ y.extract (k + 1) y.size) = y := by
  apply bytes_ext
  rw [append_list, ext_list, hl]
  have e : (y.data.toList.drop (k + 1)).take (y.size - (k + 1)) = y.data.toList.drop (k + 1) := List.take_of_length_le (by rw [List.length_drop, ← list_size]; exact Nat.le_refl _)
  rw [e]
  exact List.take_append_drop _ _

set_option maxHeartbeats 1000000 in
set_option maxRecDepth 100000 in
theorem back_walk (x : Nat) (n : Int) (s : ByteArray) (w : World) (hn : -9223372036854775808 ≤ n ∧ n ≤ 9223372036854775807) (hs : s.size ≤ 9223372036854775807) :
    Calls Try.prog 5 #[.int .u64 x, .int .i64 n, .string s] w fun e w' => e = .returned (.bool true) ∧ Below w.heap.size w w' := by
  go_enter Try.func5, Try.ntmps5
  go_wp2_with fail
  with_reducible refine (awake_any _).mono ?_
  rintro e w1 ⟨rfl, hw1⟩
  go_wp2_with fail
  with_reducible refine (pick_any _ _ _ hn (by omega) (by omega)).mono ?_
  rintro e w2 ⟨rfl, rfl⟩
  obtain ⟨hk0, hk8⟩ := pickOf_bd n 8 (by omega)
  generalize pickOf n 8 = k0 at *
  obtain ⟨k, rfl⟩ := Int.eq_ofNat_of_zero_le hk0
  have hput : putOf x (1 + (k : Int)) = leBytes x (k + 1) := by
    unfold putOf; rw [if_pos (by omega)]; congr 1; omega
  have HP := Lib.hid hput
  clear hput hk0
  go_wp2_with fail
  with_reducible refine (Put_any _ _ _).mono ?_
  rintro e w2 ⟨rfl, hb2⟩
  have hw2 : Below w.heap.size w w2 := hw1.trans (hb2.mono hw1.size)
  clear hb2 hw1
  rw [HP.out]
  have hysz : (s.extract 0 (min (s.size : Int) 20).toNat).size ≤ 20 := by rw [ext_size _ _ _ (by omega)]; omega
  generalize s.extract 0 (min (s.size : Int) 20).toNat = y at *
  generalize ht : (⟨(leBytes x (k + 1)).toArray⟩ : ByteArray) = t at *
  have ht1 : t.data.toList = leBytes x (k + 1) := by rw [← ht]
  have ht2 : t.size = k + 1 := by rw [list_size, ht1, leBytes_length]
  have ht3 : t.size ≤ 8 := by omega
  have htk : ((t.size : Int) != 1 + (k : Int)) = false := by rw [ht2]; simp; omega
  have HT := Lib.hid (take_put x k t y (by omega) ht1)
  clear ht ht1 ht2 HP
  go_wp2_with fail
  with_reducible refine (Take_any _ _ _ ?_).mono ?_
  · rw [ByteArray.size_append]; omega
  rintro e w3 ⟨rfl, hb3⟩
  have hw3 : Below w.heap.size w w3 := hw2.trans (hb3.mono hw2.size)
  clear hb3 hw2
  rw [HT.out]
  generalize hm : x % 256 ^ (k + 1) = m
  have hsh : ((m : Int) != IntKind.u64.wrap ((x : Int) * 2 ^ (64 - 8 * (1 + k))) / 2 ^ (64 - 8 * (1 + k))) = false := by
    rw [← hm, ← shift_back x k (by omega)]; simp
  clear hm HT
  by_cases hyk : y.size < k + 1
  · have HS := Lib.hid (takeOf_short y k (by omega) hyk)
    have hlt : decide ((y.size : Int) < 1 + (k : Int)) = true := by simp; omega
    go_wp2_with fail
    with_reducible refine (Take_any _ _ _ (by omega)).mono ?_
    rintro e w4 ⟨rfl, hb4⟩
    have hw4 : Below w.heap.size w w4 := hw3.trans (hb4.mono hw3.size)
    clear hb4 hw3
    rw [HS.out]
    go_wp2_with fail
    go_ret
    exact ⟨rfl, hw4⟩
  · have HS := Lib.hid (takeOf_long y k (by omega) (by omega))
    have HU := Lib.hid (put_take y k (by omega) (by omega))
    have HW := Lib.hid (put_more y k _ rfl)
    have hlt : decide ((y.size : Int) < 1 + (k : Int)) = false := by simp; omega
    go_wp2_with fail
    with_reducible refine (Take_any _ _ _ (by omega)).mono ?_
    rintro e w4 ⟨rfl, hb4⟩
    have hw4 : Below w.heap.size w w4 := hw3.trans (hb4.mono hw3.size)
    clear hb4 hw3
    rw [HS.out]
    go_wp2_with fail
    with_reducible refine (Put_any _ _ _).mono ?_
    rintro e w5 ⟨rfl, hb5⟩
    have hw5 : Below w.heap.size w w5 := hw4.trans (hb5.mono hw4.size)
    clear hb5 hw4
    rw [HU.out]
    have hms : (y.extract (k + 1) y.size).size ≤ 20 := by rw [ext_size _ _ _ (Nat.le_refl _)]; omega
    generalize hz : y.extract (k + 1) y.size = z at *
    generalize hq : (⟨(y.data.toList.take (k + 1)).toArray⟩ : ByteArray) = q at *
    have hqs : q.size ≤ 8 := by rw [← hq, size_mk, List.length_take]; omega
    clear hz hq
    go_wp2_with fail
    go_ret
    have hb : ((q ++ z).toList == y.toList) = true := by rw [HW.out]; simp
    refine ⟨?_, hw5⟩
    show Ending.returned (Value.bool ((q ++ z).toList == y.toList)) = _
    rw [hb]

theorem back_calls (a0 : Int) (w0 : (Lit.int .u64 a0).wf = true) (a1 : Int) (w1 : (Lit.int .i64 a1).wf = true) (a2 : ByteArray) (w2 : a2.size ≤ maxLen) (w : World) :
    Calls Try.prog 5 #[.int .u64 a0, .int .i64 a1, .string a2] w fun e w' => e = .returned (.bool true) ∧ Below w.heap.size w w' := by
  obtain ⟨h0, h1⟩ := bounds_u64 w0
  obtain ⟨x, rfl⟩ := Int.eq_ofNat_of_zero_le h0
  exact back_walk x a1 a2 w (bounds_i64 w1) w2
end Go.Proofs.Ytagfbbflpjjbfaa
