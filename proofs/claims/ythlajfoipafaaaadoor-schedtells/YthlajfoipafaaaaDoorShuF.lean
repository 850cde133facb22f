/- The statements' own small functions of layer 9, awake, and the calls in a world behind others. -/
import Derived.Test.YthlajfoipafaaaaDoorShuE
import Derived.Test.YthlajfoipafaaaaDoorChuF
import Derived.Maps.AppendAt
namespace Go.Proofs.YthlajfoipafaaaaDoor
open Go.RowKit

/-- pick: which of n things a raw number speaks of. -/
def pickS (c n : Int) : Nat := ((if c < 0 then -(c + 1) else c) % n).toNat
theorem pickS_lt (c n : Int) (hn : 0 < n) : (pickS c n : Int) < n := by
  have h0 := Int.emod_nonneg (if c < 0 then -(c + 1) else c) (show n ≠ 0 by omega)
  have h1 := Int.emod_lt_of_pos (if c < 0 then -(c + 1) else c) hn
  unfold pickS
  omega
theorem pickS_eq (c n : Int) (hn : 0 < n) : (if c < 0 then -(c + 1) else c) % n = (pickS c n : Int) := by
  have h0 := Int.emod_nonneg (if c < 0 then -(c + 1) else c) (show n ≠ 0 by omega)
  unfold pickS
  omega
theorem takes_step {α : Type} (a b : List α) (k : Nat) (h1 : k < a.length) (h2 : k < b.length) (h : a.take k = b.take k) (he : a[k] = b[k]) : a.take (k + 1) = b.take (k + 1) := by
  rw [List.take_succ_eq_append_getElem h1, List.take_succ_eq_append_getElem h2, h, he]

theorem ints_row {w : World} {g : Nat} {l : List Nat} (h : RowAt w g 3 (intsV l)) : Ints w w.heap.size (.slice (some ⟨g, 0, none⟩) l.length l.length) (l.map fun n : Nat => (n : Int)) := by
  have e : (l.map fun n : Nat => (n : Int)).map (Value.int .i64) = intsV l := by simp [intsV]
  have := Elems.row (enc := Value.int .i64) (xs := l.map fun n : Nat => (n : Int)) (g := g) (t := 3) (w := w) (by rw [e]; exact h)
  simpa using this
end Go.Proofs.YthlajfoipafaaaaDoor
