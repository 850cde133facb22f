/- octets.Take.
   octets.Put. -/
import Derived.Test.YtjipibpcnheniaaDoorOctB
import Derived.Test.YtjipibpcnheniaaDoorOctW
import Derived.Test.YtjipibpcnheniaaDoorShelf
import Derived.Deep.RegionWith
import Derived.Laws.IdiomStrings
namespace Go.Proofs.YtjipibpcnheniaaDoor
open Go.RowKit

theorem ext_size (s : ByteArray) (i j : Nat) (h : j ≤ s.size) : (s.extract i j).size = j - i := by
  rw [ByteArray.size_extract]; omega

/-- What Take answers: the number, what stands behind, the error. -/
def takeOf (s : ByteArray) (n : Int) : Nat × ByteArray × Int :=
  if 1 ≤ n ∧ n ≤ 8 then (if (s.size : Int) < n then (0, ⟨#[]⟩, 3) else (leNum (s.data.toList.take n.toNat), s.extract n.toNat s.size, 0)) else (0, ⟨#[]⟩, 1)

end Go.Proofs.YtjipibpcnheniaaDoor

namespace Go.Proofs.YtjipibpcnheniaaDoor
open Go.RowKit

theorem info_byte : (Tryd.prog.info? 5).map (fun i => (i.zero, i.size, i.bytes)) = some (some (.int .u8 0), 1, 1) := by kernel_rfl

set_option maxHeartbeats 400000 in
theorem Put_no (x n : Int) (w : World) (h : ¬ (1 ≤ n ∧ n ≤ 8)) :
    Calls Tryd.prog 55 #[.int .u64 x, .int .i64 n] w fun e w' => e = .returned (.string ⟨#[]⟩) ∧ Below w.heap.size w w' := by
  have hf : fits n = false := by
    cases e : fits n
    · rfl
    · exact absurd ((fits_iff _).1 e) h
  go_enter Tryd.func55, Tryd.ntmps55
  go_wp2_with fail
  refine (fitsWord_any _ _).mono ?_
  rintro e w1 ⟨rfl, rfl⟩
  rw [hf]
  go_wp2
  go_ret
  exact ⟨rfl, Below.refl _ _⟩

set_option maxHeartbeats 400000 in
theorem Put_yes (x n : Nat) (w : World) (h1 : 1 ≤ n) (h8 : n ≤ 8) :
    Calls Tryd.prog 55 #[.int .u64 x, .int .i64 n] w fun e w' => e = .returned (.string ⟨(leBytes x n).toArray⟩) ∧ Below w.heap.size w w' := by
  have hf : fits (n : Int) = true := (fits_iff _).2 ⟨by omega, by omega⟩
  obtain ⟨i0, hi, hz0, hz1, hz2⟩ := info_parts info_byte
  obtain ⟨M, hM⟩ : ∃ M, M = madeCells (Value.int .u8 0).cells (n * i0.size) := ⟨_, rfl⟩
  have hMs : M.toList = List.replicate n (.int .u8 0) := by rw [hM, hz1, Nat.mul_one]; exact toList_madeCells_one _ _
  have hmk : ∀ W : World, (Instr.makeSlice 94 (.int .i64 (n : Int)) (.int .i64 (n : Int))).run Tryd.prog W = .ok (.slice (some ⟨W.heap.size, 0, none⟩) n n) (W.alloc (.cells M 5)) := fun W => by
    have hr := run_make (P := Tryd.prog) W 94 5 i0 (.int .u8 0) Tryd.underlying94 hi hz0 .i64 .i64 (n : Int) (n : Int) (by omega) (by omega) (by rw [hz2]; omega) (by omega)
    rw [hM]
    simpa using hr
  clear hM hi hz0 hz1 hz2
  go_enter Tryd.func55, Tryd.ntmps55
  go_wp2_with fail
  refine (fitsWord_any _ _).mono ?_
  rintro e w1 ⟨rfl, rfl⟩
  rw [hf]
  go_wp2
  go_loopw [14] (fun i wr => ∃ k : Nat, k ≤ n ∧ i = .int .i64 k ∧ RowAt wr w.heap.size 5 (byteVals (leBytes x k) ++ List.replicate (n - k) (.int .u8 0)) ∧ Below w.heap.size w wr) (fun i _ => n - (intOf i).toNat)
  case atStart => exact ⟨0, Nat.zero_le _, rfl, by simpa [byteVals, leBytes, hMs] using RowAt.new w 5 M, (Below.refl _ _).alloc (Nat.le_refl _) _⟩
  case round =>
    obtain ⟨k, hk, rfl, hrow, hb⟩ := hrel
    by_cases hlt : k < n
    · have hc : wr.cell? ⟨w.heap.size, k, none⟩ = some (.int .u8 0) := by
        rw [hrow.cell, put_cell x n k hlt]
      have hf := hrow.frozen k
      have R := hrow.set k (.int .u8 ((x : Int) / 2 ^ (8 * k) % 256))
      rw [put_step x n k hlt] at R
      have hb2 := hb.setCell (p := ⟨w.heap.size, k, none⟩) (Nat.le_refl _) (.int .u8 ((x : Int) / 2 ^ (8 * k) % 256))
      clear hrow hb
      go_wp2
      go_roundw
      case rel => exact ⟨k + 1, by omega, by go_num, R, hb2⟩
      case measure => simp [intOf]; omega
    · obtain rfl : k = n := by omega
      have hcv := run_convert_bytes_back (P := Tryd.prog) wr 94 9 5 ⟨w.heap.size, 0, none⟩ k (leBytes x k) Tryd.underlying94 Tryd.underlying5 Tryd.underlying9 (fun j hj => by
        have e1 : (⟨w.heap.size, 0, none⟩ : Addr).add j = ⟨w.heap.size, j, none⟩ := by unfold Addr.add; split <;> simp_all
        rw [e1, hrow.cell, List.getElem?_append_left (by rw [byteVals_length]; exact hj)]
        simp [byteVals, List.getElem?_eq_getElem hj])
      rw [leBytes_length] at hcv
      clear hrow
      go_wp2
      go_ret
      exact ⟨rfl, hb⟩

/-- What Put answers. -/
def putOf (x : Nat) (n : Int) : List UInt8 := if 1 ≤ n ∧ n ≤ 8 then leBytes x n.toNat else []

theorem Put_any (x : Nat) (n : Int) (w : World) :
    Calls Tryd.prog 55 #[.int .u64 x, .int .i64 n] w fun e w' => e = .returned (.string ⟨(putOf x n).toArray⟩) ∧ Below w.heap.size w w' := by
  unfold putOf
  by_cases h : 1 ≤ n ∧ n ≤ 8
  · obtain ⟨k, rfl⟩ := Int.eq_ofNat_of_zero_le (by omega : 0 ≤ n)
    have := Put_yes x k w (by omega) (by omega)
    simpa [h] using this
  · have := Put_no x n w h
    simpa [h] using this

theorem Put_int (x : Int) (m : Nat) (n : Int) (w : World) (hx : x = (m : Int)) :
    Calls Tryd.prog 55 #[.int .u64 x, .int .i64 n] w fun e w' => e = .returned (.string ⟨(putOf m n).toArray⟩) ∧ Below w.heap.size w w' := by
  subst hx; exact Put_any m n w
theorem putOf_four (m : Nat) : putOf m 4 = leBytes m 4 := rfl
end Go.Proofs.YtjipibpcnheniaaDoor
