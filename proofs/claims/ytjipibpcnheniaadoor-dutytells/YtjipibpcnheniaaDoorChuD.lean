/- churn.Fold, Draw, Bit, and the document's.
   churn.Draw, Bit, and the document's. -/
import Derived.Test.YtjipibpcnheniaaDoorChuB
import Derived.Test.YtjipibpcnheniaaDoorBitW
namespace Go.Proofs.YtjipibpcnheniaaDoor
open Go.RowKit

abbrev Words := Elems (fun n : Nat => Value.int .u64 (n : Int))
def Fits64 (ws : List Nat) : Prop := ∀ x ∈ ws, x < 18446744073709551616
theorem bstepH {w a b : World} {B : Nat} (h : Below B w a) (k : Below a.heap.size a b) (hB : B ≤ a.heap.size) : Below B w b := h.trans (k.mono hB)
theorem putOf_eight (m : Nat) : putOfH m 8 = leBytes m 8 := rfl
theorem PutH8 (m : Nat) (w : World) : Calls Tryd.prog 55 #[.int .u64 m, .int .i64 8] w fun e w' => e = .returned (.string ⟨(leBytes m 8).toArray⟩) ∧ Below w.heap.size w w' := PutH_any m 8 w
theorem rPutH8 (m : Nat) (w : World) : Calls Tryd.prog 57 #[.int .u64 m, .int .i64 8] w fun e w' => e = .returned (.string ⟨(leBytes m 8).toArray⟩) ∧ Below w.heap.size w w' := refPut_any m 8 w
theorem size_leH (l : List UInt8) : (⟨l.toArray⟩ : ByteArray).size = l.length := by simp [ByteArray.size]

set_option maxHeartbeats 400000 in
theorem Fold_any (ws : List Nat) (v : Value) (w : World) (hv : Words w w.heap.size v ws) (hl : ws.length ≤ 1000) (hT : Tab w) :
    Calls Tryd.prog 25 #[v] w fun e w' => e = .returned (.int .u64 (foldB ws)) ∧ Below w.heap.size w w' := by
  obtain ⟨A, c, rfl, hc⟩ := hv.form
  have cS : Calls Tryd.prog 47 #[.string ⟨#[]⟩] w fun e w' => e = .returned (.int .u64 14695981039346656037) ∧ Below w.heap.size w w' := Sum_any ⟨#[]⟩ w (by decide) hT
  go_enter Tryd.func25, Tryd.ntmps25
  go_wp2_with fail
  with_reducible refine cS.mono ?_
  rintro e w1 ⟨rfl, hb1⟩
  go_wp2_with fail
  go_loopw [3, 9] (fun x i wr => ∃ k : Nat, k ≤ ws.length ∧ i = .int .i64 k ∧ x = .int .u64 (foldB (ws.take k)) ∧ Below w.heap.size w wr) (fun _ i _ => ws.length - (intOf i).toNat)
  case atStart => exact ⟨0, Nat.zero_le _, rfl, rfl, hb1⟩
  case round =>
    obtain ⟨k, hk, rfl, rfl, hb⟩ := hrel
    by_cases hlt : k < ws.length
    · obtain ⟨ad, rfl, hbl, hcell⟩ := (hv.below hb (Nat.le_refl _)).at_ hlt
      have hT1 := hT.below hb hT.lt
      go_wp2_with fail
      with_reducible refine (PutH8 _ _).mono ?_
      rintro e w2 ⟨rfl, hb2⟩
      have cM : Calls Tryd.prog 54 #[.int .u64 (foldB (ws.take k)), .string ⟨(leBytes ws[k] 8).toArray⟩] w2 fun e w' => e = .returned (.int .u64 (foldB (ws.take (k + 1)))) ∧ Below w2.heap.size w2 w' := by
        have := More_any (foldB (ws.take k)) ⟨(leBytes ws[k] 8).toArray⟩ w2 (foldB_lt _) (by rw [size_leH, leBytes_length]; decide) (hT1.on hb2)
        rwa [show (⟨(leBytes ws[k] 8).toArray⟩ : ByteArray).data.toList = leBytes ws[k] 8 from rfl, foldB_take ws k hlt] at this
      have hw2 := bstepH hb hb2 hb.size
      clear hcell hb2 hT1
      go_wp2_with fail
      with_reducible refine cM.mono ?_
      rintro e w3 ⟨rfl, hb3⟩
      have hw3 := bstepH hw2 hb3 hw2.size
      clear cM hb3 hw2 hb
      go_wp2_with fail
      go_roundw
      case rel => exact ⟨k + 1, by omega, by go_num, rfl, hw3⟩
      case measure => simp [intOf]; omega
    · go_wp2_with fail
      go_ret
      exact ⟨ret_intH (by rw [List.take_of_length_le (by omega)]), hb⟩

def wordsB (ws : List Nat) : ByteArray := ⟨(ws.flatMap fun w => leBytes w 8).toArray⟩
theorem wordsB_take (ws : List Nat) (k : Nat) (hk : k < ws.length) : wordsB (ws.take k) ++ ⟨(leBytes ws[k] 8).toArray⟩ = wordsB (ws.take (k + 1)) := by
  unfold wordsB
  rw [List.take_succ_eq_append_getElem hk, List.flatMap_append]
  apply ByteArray.ext
  simp
theorem wordsB_size : ∀ ws : List Nat, (wordsB ws).size = 8 * ws.length
  | [] => rfl
  | w :: ws => by
    have := wordsB_size ws
    simp [wordsB, ByteArray.size, leBytes_length] at this ⊢
    omega
theorem wordsB_more (ws : List Nat) : moreH 14695981039346656037 (wordsB ws).data.toList = foldB ws := by simp [wordsB, foldB]

set_option maxHeartbeats 400000 in
theorem rFold_any (ws : List Nat) (v : Value) (w : World) (hv : Words w w.heap.size v ws) (hl : ws.length ≤ 100) :
    Calls Tryd.prog 33 #[v] w fun e w' => e = .returned (.int .u64 (foldB ws)) ∧ Below w.heap.size w w' := by
  obtain ⟨A, c, rfl, hc⟩ := hv.form
  have cS : ∀ W, Calls Tryd.prog 49 #[.string (wordsB ws)] W fun e w' => e = .returned (.int .u64 (foldB ws)) ∧ W = w' := fun W => by
    have := rSum_any (wordsB ws) W (by rw [wordsB_size]; omega)
    rwa [wordsB_more] at this
  go_enter Tryd.func33, Tryd.ntmps33
  go_wp2_with fail
  go_loopw [3, 4] (fun x i wr => ∃ k : Nat, k ≤ ws.length ∧ i = .int .i64 k ∧ x = .string (wordsB (ws.take k)) ∧ Below w.heap.size w wr) (fun _ i _ => ws.length - (intOf i).toNat)
  case atStart => exact ⟨0, Nat.zero_le _, rfl, rfl, Below.refl _ _⟩
  case round =>
    obtain ⟨k, hk, rfl, rfl, hb⟩ := hrel
    by_cases hlt : k < ws.length
    · obtain ⟨ad, rfl, hbl, hcell⟩ := (hv.below hb (Nat.le_refl _)).at_ hlt
      have hs1 : (wordsB (ws.take k)).size ≤ 800 := by rw [wordsB_size, List.length_take]; omega
      have hs2 : (⟨(leBytes ws[k] 8).toArray⟩ : ByteArray).size = 8 := by rw [size_leH, leBytes_length]
      have ht := wordsB_take ws k hlt
      go_wp2_with fail
      with_reducible refine (rPutH8 _ _).mono ?_
      rintro e w2 ⟨rfl, hb2⟩
      have hw2 := bstepH hb hb2 hb.size
      clear hcell hb2 hb
      go_wp2_with fail
      go_roundw
      case rel => exact ⟨k + 1, by omega, by go_num, rfl, hw2⟩
      case measure => simp [intOf]; omega
    · obtain rfl : k = ws.length := by omega
      rw [List.take_length]
      go_wp2_with fail
      with_reducible refine (cS _).mono ?_
      rintro e w2 ⟨rfl, rfl⟩
      go_wp2_with fail
      go_ret
      exact ⟨rfl, hb⟩
end Go.Proofs.YtjipibpcnheniaaDoor

namespace Go.Proofs.YtjipibpcnheniaaDoor
open Go.RowKit

/-- What Draw answers. -/
def drawOf (n : Int) (ws : List Nat) : Nat := if n < 1 then 0 else foldB ws % n.toNat
def bitOf (ws : List Nat) : Bool := foldB ws / 1099511627776 % 2 == 1

theorem draw_val (F n : Nat) (h1 : 1 ≤ n) (h2 : n < 9223372036854775808) : wrap64 ((F : Int) % (n : Int)) = ((F % n : Nat) : Int) := by
  have h := Nat.mod_lt F (show 0 < n by omega)
  rw [← Int.natCast_emod]
  unfold wrap64
  omega
theorem bit_val (F : Nat) (hF : F < 18446744073709551616) : (bits .and .u64 ((F : Int) / 1099511627776) 1 == 1) = (F / 1099511627776 % 2 == 1) := by
  have e := u64_and_nat (F / 1099511627776) 1 (by omega) (by decide)
  rw [Nat.and_one_is_mod, Int.natCast_ediv] at e
  rw [show bits .and .u64 ((F : Int) / 1099511627776) 1 = _ from e]
  generalize F / 1099511627776 % 2 = z
  rw [Bool.eq_iff_iff]; simp; omega
theorem rbit_val (F : Nat) : ((F : Int) / 1099511627776 % 2 == 1) = (F / 1099511627776 % 2 == 1) := by
  rw [Bool.eq_iff_iff]; simp; omega
theorem ret_bool {a b : Bool} (h : a = b) : Ending.returned (.bool a) = .returned (.bool b) := by rw [h]

set_option maxHeartbeats 400000 in
theorem Draw_no (n : Int) (v : Value) (w : World) (hn : n < 1) :
    Calls Tryd.prog 83 #[.int .i64 n, v] w fun e w' => e = .returned (.int .i64 0) ∧ w = w' := by
  go_enter Tryd.func83, Tryd.ntmps83
  go_wp2_with fail
  go_ret
  exact ⟨rfl, rfl⟩

set_option maxHeartbeats 400000 in
theorem Draw_yes (n : Nat) (ws : List Nat) (v : Value) (w : World) (hv : Words w w.heap.size v ws) (hl : ws.length ≤ 1000) (hT : Tab w) (h1 : 1 ≤ n) (h2 : n < 9223372036854775808) :
    Calls Tryd.prog 83 #[.int .i64 n, v] w fun e w' => e = .returned (.int .i64 (foldB ws % n : Nat)) ∧ Below w.heap.size w w' := by
  have cF := Fold_any ws v w hv hl hT
  have hF := foldB_lt ws
  generalize foldB ws = F at *
  go_enter Tryd.func83, Tryd.ntmps83
  go_wp2_with fail
  with_reducible refine cF.mono ?_
  rintro e w2 ⟨rfl, hb⟩
  clear cF
  go_wp2_with fail
  go_ret
  exact ⟨ret_intH (draw_val F n h1 h2), hb⟩

set_option maxHeartbeats 400000 in
theorem Bit_any (ws : List Nat) (v : Value) (w : World) (hv : Words w w.heap.size v ws) (hl : ws.length ≤ 1000) (hT : Tab w) :
    Calls Tryd.prog 85 #[v] w fun e w' => e = .returned (.bool (bitOf ws)) ∧ Below w.heap.size w w' := by
  have cF := Fold_any ws v w hv hl hT
  unfold bitOf
  have hF := foldB_lt ws
  generalize foldB ws = F at *
  go_enter Tryd.func85, Tryd.ntmps85
  go_wp2_with fail
  with_reducible refine cF.mono ?_
  rintro e w2 ⟨rfl, hb⟩
  clear cF
  go_wp2_with fail
  go_ret
  exact ⟨ret_bool (bit_val F hF), hb⟩

theorem Draw_any (n : Int) (ws : List Nat) (v : Value) (w : World) (hv : Words w w.heap.size v ws) (hl : ws.length ≤ 1000) (hT : Tab w) (h2 : n < 9223372036854775808) :
    Calls Tryd.prog 83 #[.int .i64 n, v] w fun e w' => e = .returned (.int .i64 (drawOf n ws)) ∧ Below w.heap.size w w' := by
  unfold drawOf
  by_cases hn : n < 1
  · rw [if_pos hn]
    exact (Draw_no n v w hn).mono fun e w' ⟨he, hw⟩ => ⟨he, by rw [hw]; exact Below.refl _ _⟩
  · rw [if_neg hn]
    obtain ⟨k, rfl⟩ := Int.eq_ofNat_of_zero_le (by omega : 0 ≤ n)
    exact Draw_yes k ws v w hv hl hT (by omega) (by omega)

/- the document's -/
set_option maxHeartbeats 400000 in
theorem rDraw_no (n : Int) (v : Value) (w : World) (hn : n < 1) :
    Calls Tryd.prog 76 #[.int .i64 n, v] w fun e w' => e = .returned (.int .i64 0) ∧ w = w' := by
  go_enter Tryd.func76, Tryd.ntmps76
  go_wp2_with fail
  go_ret
  exact ⟨rfl, rfl⟩

set_option maxHeartbeats 400000 in
theorem rDraw_yes (n : Nat) (ws : List Nat) (v : Value) (w : World) (hv : Words w w.heap.size v ws) (hl : ws.length ≤ 100) (h1 : 1 ≤ n) (h2 : n < 9223372036854775808) :
    Calls Tryd.prog 76 #[.int .i64 n, v] w fun e w' => e = .returned (.int .i64 (foldB ws % n : Nat)) ∧ Below w.heap.size w w' := by
  have cF := rFold_any ws v w hv hl
  have hF := foldB_lt ws
  generalize foldB ws = F at *
  go_enter Tryd.func76, Tryd.ntmps76
  go_wp2_with fail
  with_reducible refine cF.mono ?_
  rintro e w2 ⟨rfl, hb⟩
  clear cF
  go_wp2_with fail
  go_ret
  exact ⟨ret_intH (draw_val F n h1 h2), hb⟩
theorem rDraw_any (n : Int) (ws : List Nat) (v : Value) (w : World) (hv : Words w w.heap.size v ws) (hl : ws.length ≤ 100) (h2 : n < 9223372036854775808) :
    Calls Tryd.prog 76 #[.int .i64 n, v] w fun e w' => e = .returned (.int .i64 (drawOf n ws)) ∧ Below w.heap.size w w' := by
  unfold drawOf
  by_cases hn : n < 1
  · rw [if_pos hn]
    exact (rDraw_no n v w hn).mono fun e w' ⟨he, hw⟩ => ⟨he, by rw [hw]; exact Below.refl _ _⟩
  · rw [if_neg hn]
    obtain ⟨k, rfl⟩ := Int.eq_ofNat_of_zero_le (by omega : 0 ≤ n)
    exact rDraw_yes k ws v w hv hl (by omega) (by omega)

set_option maxHeartbeats 400000 in
theorem rBit_any (ws : List Nat) (v : Value) (w : World) (hv : Words w w.heap.size v ws) (hl : ws.length ≤ 100) :
    Calls Tryd.prog 77 #[v] w fun e w' => e = .returned (.bool (bitOf ws)) ∧ Below w.heap.size w w' := by
  have cF := rFold_any ws v w hv hl
  unfold bitOf
  have hF := foldB_lt ws
  generalize foldB ws = F at *
  go_enter Tryd.func77, Tryd.ntmps77
  go_wp2_with fail
  with_reducible refine cF.mono ?_
  rintro e w2 ⟨rfl, hb⟩
  clear cF
  go_wp2_with fail
  go_ret
  exact ⟨ret_bool (rbit_val F), hb⟩
end Go.Proofs.YtjipibpcnheniaaDoor
