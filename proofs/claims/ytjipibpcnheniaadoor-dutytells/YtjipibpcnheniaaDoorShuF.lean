/- The statements' own small functions of layer 9, awake, and the calls in a world behind others. -/
import Derived.Test.YtjipibpcnheniaaDoorShuE
import Derived.Test.YtjipibpcnheniaaDoorChuF
import Derived.Maps.AppendAt
namespace Go.Proofs.YtjipibpcnheniaaDoor
open Go.RowKit

/-- pick: which of n things a raw number speaks of. -/
def pickS (c n : Int) : Nat := ((if c < 0 then -(c + 1) else c) % n).toNat
theorem pickS_lt (c n : Int) (hn : 0 < n) : (pickS c n : Int) < n := by
  have h0 := Int.emod_nonneg (if c < 0 then -(c + 1) else c) (show n ≠ 0 by omega)
  have h1 := Int.emod_lt_of_pos (if c < 0 then -(c + 1) else c) hn
  unfold pickS
  omega
theorem pickS_eq (c n : Int) (hn : 0 < n) : (if c < 0 then -(c + 1) else c) % n = (pickS c n : Int) := by
  have h0 := Int.emod_nonneg (if c < 0 then -(c + 1) else c) (show n ≠ 0 by omega)
  unfold pickS
  omega
theorem takes_step {α : Type} (a b : List α) (k : Nat) (h1 : k < a.length) (h2 : k < b.length) (h : a.take k = b.take k) (he : a[k] = b[k]) : a.take (k + 1) = b.take (k + 1) := by
  rw [List.take_succ_eq_append_getElem h1, List.take_succ_eq_append_getElem h2, h, he]

set_option maxHeartbeats 1000000 in
/-- Two lists that are the same. -/
theorem Ints_same (va vb : Value) (l : List Int) (w : World) (ha : Ints w w.heap.size va l) (hb : Ints w w.heap.size vb l) (h9 : l.length ≤ 1000000) :
    Calls Tryd.prog 18 #[va, vb] w fun e w' => e = .returned (.bool true) ∧ Below w.heap.size w w' := by
  obtain ⟨A, c, rfl, hc⟩ := ha.form
  obtain ⟨A', c', rfl, hc'⟩ := hb.form
  go_enter Tryd.func18, Tryd.ntmps18
  go_wp2_with fail
  go_loopw [5] (fun i wr => ∃ k : Nat, k ≤ l.length ∧ i = .int .i64 k ∧ Below w.heap.size w wr) (fun i _ => l.length - (intOf i).toNat)
  case atStart => exact ⟨0, Nat.zero_le _, rfl, Below.refl _ _⟩
  case round =>
    obtain ⟨k, hk, rfl, hw⟩ := hrel
    by_cases hlt : k < l.length
    · obtain ⟨ad, rfl, hbl, hcell⟩ := (ha.below hw (Nat.le_refl _)).at_ hlt
      obtain ⟨ad', rfl, hbl', hcell'⟩ := (hb.below hw (Nat.le_refl _)).at_ hlt
      go_wp2_with fail
      go_region
      all_goals go_wp2_with fail
      all_goals go_roundw
      case rel => exact ⟨k + 1, by omega, by go_num, hw.drew⟩
      case measure => simp [intOf]; omega
    · obtain rfl : k = l.length := by omega
      go_wp2_with fail
      go_ret
      exact ⟨rfl, hw⟩
theorem ints_row {w : World} {g : Nat} {l : List Nat} (h : RowAt w g 3 (intsV l)) : Ints w w.heap.size (.slice (some ⟨g, 0, none⟩) l.length l.length) (l.map fun n : Nat => (n : Int)) := by
  have e : (l.map fun n : Nat => (n : Int)).map (Value.int .i64) = intsV l := by simp [intsV]
  have := Elems.row (enc := Value.int .i64) (xs := l.map fun n : Nat => (n : Int)) (g := g) (t := 3) (w := w) (by rw [e]; exact h)
  simpa using this
end Go.Proofs.YtjipibpcnheniaaDoor
