/- Steps of the rows' proofs that all laws share: a list of texts that came in, opened. -/
import Derived.Test.YtcamhaeelkjigaaRows
import Derived.Test.YtcamhaeelkjigaaOctW
import Derived.WalkKit
import Derived.ProofKit
import Derived.OpenShut
import Derived.ShutString
import Derived.SliceStrings
import Derived.ChangeOld
import Derived.Below
namespace Go.Proofs.Ytcamhaeelkjigaa
open Go.ChangeShapes Go.WideShapes Go.ChangeAt Go.RowKit

theorem own : ownKnob Try.prog.godebug = none := by kernel_rfl
theorem laidOut : laidOutB Try.prog = true := by kernel_rfl

theorem strs_of_trod {H : Type} {enc : TypeId × Value → H} {P : Program} {W : World} {t e : TypeId} {A : Option Addr} {len cap : Nat} {d : DataW H} {ps : List MemPlace}
    (ht : P.underlying t = some (.slice e)) (he : P.underlying e = some .string) (hc : P.cellsOf e = 1)
    (h : DataW.Trod enc P W 0 (fun _ => true) true t (.slice A len cap) d ps) : ∃ ss, Strs W W.heap.size (.slice A len cap) ss ∧ ∀ s ∈ ss, s.size ≤ maxLen := by
  obtain ⟨fuel, hf⟩ := h
  rcases open_strings ht he hc hf with ⟨hcs, _⟩ | ⟨x, l, c, ss, hcs, _, hl, _, hz, _, hcell, hws⟩
  · simp [Value.cells] at hcs
    obtain ⟨rfl, rfl, rfl⟩ := hcs
    exact ⟨[], Strs.nil _ _, fun s hs => absurd hs (by simp)⟩
  · simp [Value.cells] at hcs
    obtain ⟨rfl, rfl, rfl⟩ := hcs
    simp only [if_true] at hz
    have hlen : (ss.take len).length = len := by rw [List.length_take]; omega
    refine ⟨ss.take len, ⟨some x, cap, by rw [hlen], by omega, fun h0 => ⟨x, rfl, ?_, fun j s hs => ?_⟩⟩, fun s hs => hws s (List.mem_of_mem_take hs)⟩
    · have := World.block_lt_of_cell? W _ (hcell 0 (by omega))
      rw [add_block] at this
      exact this
    · have hj : j < len := by
        rcases Nat.lt_or_ge j (ss.take len).length with k | k
        · omega
        · rw [List.getElem?_eq_none k] at hs; cases hs
      rw [hcell j (by omega)]
      rw [List.getElem?_take_of_lt hj] at hs
      simp [List.getD, hs]
end Go.Proofs.Ytcamhaeelkjigaa
