/- churn.Draw, Bit, and the document's. -/
import Derived.Test.YtnbgmopjlpchkaaDoorChuC
namespace Go.Proofs.YtnbgmopjlpchkaaDoor
open Go.RowKit

/-- What Draw answers. -/
def drawOf (n : Int) (ws : List Nat) : Nat := if n < 1 then 0 else foldB ws % n.toNat
def bitOf (ws : List Nat) : Bool := foldB ws / 1099511627776 % 2 == 1

theorem draw_val (F n : Nat) (h1 : 1 ≤ n) (h2 : n < 9223372036854775808) : wrap64 ((F : Int) % (n : Int)) = ((F % n : Nat) : Int) := by
  have h := Nat.mod_lt F (show 0 < n by omega)
  rw [← Int.natCast_emod]
  unfold wrap64
  omega
theorem bit_val (F : Nat) (hF : F < 18446744073709551616) : (bits .and .u64 ((F : Int) / 1099511627776) 1 == 1) = (F / 1099511627776 % 2 == 1) := by
  have e := u64_and_nat (F / 1099511627776) 1 (by omega) (by decide)
  rw [Nat.and_one_is_mod, Int.natCast_ediv] at e
  rw [show bits .and .u64 ((F : Int) / 1099511627776) 1 = _ from e]
  generalize F / 1099511627776 % 2 = z
  rw [Bool.eq_iff_iff]; simp; omega
theorem rbit_val (F : Nat) : ((F : Int) / 1099511627776 % 2 == 1) = (F / 1099511627776 % 2 == 1) := by
  rw [Bool.eq_iff_iff]; simp; omega
theorem ret_bool {a b : Bool} (h : a = b) : Ending.returned (.bool a) = .returned (.bool b) := by rw [h]

set_option maxHeartbeats 400000 in
theorem Draw_no (n : Int) (v : Value) (w : World) (hn : n < 1) :
    Calls Tryd.prog 34 #[.int .i64 n, v] w fun e w' => e = .returned (.int .i64 0) ∧ w = w' := by
  go_enter Tryd.func34, Tryd.ntmps34
  go_wp2_with fail
  go_ret
  exact ⟨rfl, rfl⟩

set_option maxHeartbeats 400000 in
theorem Draw_yes (n : Nat) (ws : List Nat) (v : Value) (w : World) (hv : Words w w.heap.size v ws) (hl : ws.length ≤ 1000) (hT : Tab w) (h1 : 1 ≤ n) (h2 : n < 9223372036854775808) :
    Calls Tryd.prog 34 #[.int .i64 n, v] w fun e w' => e = .returned (.int .i64 (foldB ws % n : Nat)) ∧ Below w.heap.size w w' := by
  have cF := Fold_any ws v w hv hl hT
  have hF := foldB_lt ws
  generalize foldB ws = F at *
  go_enter Tryd.func34, Tryd.ntmps34
  go_wp2_with fail
  with_reducible refine cF.mono ?_
  rintro e w2 ⟨rfl, hb⟩
  clear cF
  go_wp2_with fail
  go_ret
  exact ⟨ret_int (draw_val F n h1 h2), hb⟩

set_option maxHeartbeats 400000 in
theorem Bit_any (ws : List Nat) (v : Value) (w : World) (hv : Words w w.heap.size v ws) (hl : ws.length ≤ 1000) (hT : Tab w) :
    Calls Tryd.prog 36 #[v] w fun e w' => e = .returned (.bool (bitOf ws)) ∧ Below w.heap.size w w' := by
  have cF := Fold_any ws v w hv hl hT
  unfold bitOf
  have hF := foldB_lt ws
  generalize foldB ws = F at *
  go_enter Tryd.func36, Tryd.ntmps36
  go_wp2_with fail
  with_reducible refine cF.mono ?_
  rintro e w2 ⟨rfl, hb⟩
  clear cF
  go_wp2_with fail
  go_ret
  exact ⟨ret_bool (bit_val F hF), hb⟩

theorem Draw_any (n : Int) (ws : List Nat) (v : Value) (w : World) (hv : Words w w.heap.size v ws) (hl : ws.length ≤ 1000) (hT : Tab w) (h2 : n < 9223372036854775808) :
    Calls Tryd.prog 34 #[.int .i64 n, v] w fun e w' => e = .returned (.int .i64 (drawOf n ws)) ∧ Below w.heap.size w w' := by
  unfold drawOf
  by_cases hn : n < 1
  · rw [if_pos hn]
    exact (Draw_no n v w hn).mono fun e w' ⟨he, hw⟩ => ⟨he, by rw [hw]; exact Below.refl _ _⟩
  · rw [if_neg hn]
    obtain ⟨k, rfl⟩ := Int.eq_ofNat_of_zero_le (by omega : 0 ≤ n)
    exact Draw_yes k ws v w hv hl hT (by omega) (by omega)

/- the document's -/
set_option maxHeartbeats 400000 in
theorem rDraw_no (n : Int) (v : Value) (w : World) (hn : n < 1) :
    Calls Tryd.prog 22 #[.int .i64 n, v] w fun e w' => e = .returned (.int .i64 0) ∧ w = w' := by
  go_enter Tryd.func22, Tryd.ntmps22
  go_wp2_with fail
  go_ret
  exact ⟨rfl, rfl⟩

set_option maxHeartbeats 400000 in
theorem rDraw_yes (n : Nat) (ws : List Nat) (v : Value) (w : World) (hv : Words w w.heap.size v ws) (hl : ws.length ≤ 100) (h1 : 1 ≤ n) (h2 : n < 9223372036854775808) :
    Calls Tryd.prog 22 #[.int .i64 n, v] w fun e w' => e = .returned (.int .i64 (foldB ws % n : Nat)) ∧ Below w.heap.size w w' := by
  have cF := rFold_any ws v w hv hl
  have hF := foldB_lt ws
  generalize foldB ws = F at *
  go_enter Tryd.func22, Tryd.ntmps22
  go_wp2_with fail
  with_reducible refine cF.mono ?_
  rintro e w2 ⟨rfl, hb⟩
  clear cF
  go_wp2_with fail
  go_ret
  exact ⟨ret_int (draw_val F n h1 h2), hb⟩
theorem rDraw_any (n : Int) (ws : List Nat) (v : Value) (w : World) (hv : Words w w.heap.size v ws) (hl : ws.length ≤ 100) (h2 : n < 9223372036854775808) :
    Calls Tryd.prog 22 #[.int .i64 n, v] w fun e w' => e = .returned (.int .i64 (drawOf n ws)) ∧ Below w.heap.size w w' := by
  unfold drawOf
  by_cases hn : n < 1
  · rw [if_pos hn]
    exact (rDraw_no n v w hn).mono fun e w' ⟨he, hw⟩ => ⟨he, by rw [hw]; exact Below.refl _ _⟩
  · rw [if_neg hn]
    obtain ⟨k, rfl⟩ := Int.eq_ofNat_of_zero_le (by omega : 0 ≤ n)
    exact rDraw_yes k ws v w hv hl (by omega) (by omega)

set_option maxHeartbeats 400000 in
theorem rBit_any (ws : List Nat) (v : Value) (w : World) (hv : Words w w.heap.size v ws) (hl : ws.length ≤ 100) :
    Calls Tryd.prog 23 #[v] w fun e w' => e = .returned (.bool (bitOf ws)) ∧ Below w.heap.size w w' := by
  have cF := rFold_any ws v w hv hl
  unfold bitOf
  have hF := foldB_lt ws
  generalize foldB ws = F at *
  go_enter Tryd.func23, Tryd.ntmps23
  go_wp2_with fail
  with_reducible refine cF.mono ?_
  rintro e w2 ⟨rfl, hb⟩
  clear cF
  go_wp2_with fail
  go_ret
  exact ⟨ret_bool (rbit_val F), hb⟩
end Go.Proofs.YtnbgmopjlpchkaaDoor
