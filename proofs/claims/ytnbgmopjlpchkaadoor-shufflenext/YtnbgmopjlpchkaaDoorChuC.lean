/- churn.Fold, Draw, Bit, and the document's. -/
import Derived.Test.YtnbgmopjlpchkaaDoorChuB
import Derived.Test.YtnbgmopjlpchkaaDoorBitW
namespace Go.Proofs.YtnbgmopjlpchkaaDoor
open Go.RowKit

abbrev Words := Elems (fun n : Nat => Value.int .u64 (n : Int))
def Fits64 (ws : List Nat) : Prop := ∀ x ∈ ws, x < 18446744073709551616
theorem bstep {w a b : World} {B : Nat} (h : Below B w a) (k : Below a.heap.size a b) (hB : B ≤ a.heap.size) : Below B w b := h.trans (k.mono hB)
theorem putOf_eight (m : Nat) : putOf m 8 = leBytes m 8 := rfl
theorem Put8 (m : Nat) (w : World) : Calls Tryd.prog 43 #[.int .u64 m, .int .i64 8] w fun e w' => e = .returned (.string ⟨(leBytes m 8).toArray⟩) ∧ Below w.heap.size w w' := Put_any m 8 w
theorem rPut8 (m : Nat) (w : World) : Calls Tryd.prog 37 #[.int .u64 m, .int .i64 8] w fun e w' => e = .returned (.string ⟨(leBytes m 8).toArray⟩) ∧ Below w.heap.size w w' := refPut_any m 8 w
theorem size_le (l : List UInt8) : (⟨l.toArray⟩ : ByteArray).size = l.length := by simp [ByteArray.size]

set_option maxHeartbeats 400000 in
theorem Fold_any (ws : List Nat) (v : Value) (w : World) (hv : Words w w.heap.size v ws) (hl : ws.length ≤ 1000) (hT : Tab w) :
    Calls Tryd.prog 39 #[v] w fun e w' => e = .returned (.int .u64 (foldB ws)) ∧ Below w.heap.size w w' := by
  obtain ⟨A, c, rfl, hc⟩ := hv.form
  have cS : Calls Tryd.prog 41 #[.string ⟨#[]⟩] w fun e w' => e = .returned (.int .u64 14695981039346656037) ∧ Below w.heap.size w w' := Sum_any ⟨#[]⟩ w (by decide) hT
  go_enter Tryd.func39, Tryd.ntmps39
  go_wp2_with fail
  with_reducible refine cS.mono ?_
  rintro e w1 ⟨rfl, hb1⟩
  go_wp2_with fail
  go_loopw [3, 9] (fun x i wr => ∃ k : Nat, k ≤ ws.length ∧ i = .int .i64 k ∧ x = .int .u64 (foldB (ws.take k)) ∧ Below w.heap.size w wr) (fun _ i _ => ws.length - (intOf i).toNat)
  case atStart => exact ⟨0, Nat.zero_le _, rfl, rfl, hb1⟩
  case round =>
    obtain ⟨k, hk, rfl, rfl, hb⟩ := hrel
    by_cases hlt : k < ws.length
    · obtain ⟨ad, rfl, hbl, hcell⟩ := (hv.below hb (Nat.le_refl _)).at_ hlt
      have hT1 := hT.below hb hT.lt
      go_wp2_with fail
      with_reducible refine (Put8 _ _).mono ?_
      rintro e w2 ⟨rfl, hb2⟩
      have cM : Calls Tryd.prog 42 #[.int .u64 (foldB (ws.take k)), .string ⟨(leBytes ws[k] 8).toArray⟩] w2 fun e w' => e = .returned (.int .u64 (foldB (ws.take (k + 1)))) ∧ Below w2.heap.size w2 w' := by
        have := More_any (foldB (ws.take k)) ⟨(leBytes ws[k] 8).toArray⟩ w2 (foldB_lt _) (by rw [size_le, leBytes_length]; decide) (hT1.on hb2)
        rwa [show (⟨(leBytes ws[k] 8).toArray⟩ : ByteArray).data.toList = leBytes ws[k] 8 from rfl, foldB_take ws k hlt] at this
      have hw2 := bstep hb hb2 hb.size
      clear hcell hb2 hT1
      go_wp2_with fail
      with_reducible refine cM.mono ?_
      rintro e w3 ⟨rfl, hb3⟩
      have hw3 := bstep hw2 hb3 hw2.size
      clear cM hb3 hw2 hb
      go_wp2_with fail
      go_roundw
      case rel => exact ⟨k + 1, by omega, by go_num, rfl, hw3⟩
      case measure => simp [intOf]; omega
    · go_wp2_with fail
      go_ret
      exact ⟨ret_int (by rw [List.take_of_length_le (by omega)]), hb⟩

def wordsB (ws : List Nat) : ByteArray := ⟨(ws.flatMap fun w => leBytes w 8).toArray⟩
theorem wordsB_take (ws : List Nat) (k : Nat) (hk : k < ws.length) : wordsB (ws.take k) ++ ⟨(leBytes ws[k] 8).toArray⟩ = wordsB (ws.take (k + 1)) := by
  unfold wordsB
  rw [List.take_succ_eq_append_getElem hk, List.flatMap_append]
  apply ByteArray.ext
  simp
theorem wordsB_size : ∀ ws : List Nat, (wordsB ws).size = 8 * ws.length
  | [] => rfl
  | w :: ws => by
    have := wordsB_size ws
    simp [wordsB, ByteArray.size, leBytes_length] at this ⊢
    omega
theorem wordsB_more (ws : List Nat) : moreH 14695981039346656037 (wordsB ws).data.toList = foldB ws := by simp [wordsB, foldB]

set_option maxHeartbeats 400000 in
theorem rFold_any (ws : List Nat) (v : Value) (w : World) (hv : Words w w.heap.size v ws) (hl : ws.length ≤ 100) :
    Calls Tryd.prog 31 #[v] w fun e w' => e = .returned (.int .u64 (foldB ws)) ∧ Below w.heap.size w w' := by
  obtain ⟨A, c, rfl, hc⟩ := hv.form
  have cS : ∀ W, Calls Tryd.prog 38 #[.string (wordsB ws)] W fun e w' => e = .returned (.int .u64 (foldB ws)) ∧ W = w' := fun W => by
    have := rSum_any (wordsB ws) W (by rw [wordsB_size]; omega)
    rwa [wordsB_more] at this
  go_enter Tryd.func31, Tryd.ntmps31
  go_wp2_with fail
  go_loopw [3, 4] (fun x i wr => ∃ k : Nat, k ≤ ws.length ∧ i = .int .i64 k ∧ x = .string (wordsB (ws.take k)) ∧ Below w.heap.size w wr) (fun _ i _ => ws.length - (intOf i).toNat)
  case atStart => exact ⟨0, Nat.zero_le _, rfl, rfl, Below.refl _ _⟩
  case round =>
    obtain ⟨k, hk, rfl, rfl, hb⟩ := hrel
    by_cases hlt : k < ws.length
    · obtain ⟨ad, rfl, hbl, hcell⟩ := (hv.below hb (Nat.le_refl _)).at_ hlt
      have hs1 : (wordsB (ws.take k)).size ≤ 800 := by rw [wordsB_size, List.length_take]; omega
      have hs2 : (⟨(leBytes ws[k] 8).toArray⟩ : ByteArray).size = 8 := by rw [size_le, leBytes_length]
      have ht := wordsB_take ws k hlt
      go_wp2_with fail
      with_reducible refine (rPut8 _ _).mono ?_
      rintro e w2 ⟨rfl, hb2⟩
      have hw2 := bstep hb hb2 hb.size
      clear hcell hb2 hb
      go_wp2_with fail
      go_roundw
      case rel => exact ⟨k + 1, by omega, by go_num, rfl, hw2⟩
      case measure => simp [intOf]; omega
    · obtain rfl : k = ws.length := by omega
      rw [List.take_length]
      go_wp2_with fail
      with_reducible refine (cS _).mono ?_
      rintro e w2 ⟨rfl, rfl⟩
      go_wp2_with fail
      go_ret
      exact ⟨rfl, hb⟩
end Go.Proofs.YtnbgmopjlpchkaaDoor
