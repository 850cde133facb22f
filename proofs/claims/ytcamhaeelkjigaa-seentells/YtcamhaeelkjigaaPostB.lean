/- Steps of the rows' proofs: a list of ints that came in, opened. -/
import Derived.Test.YtcamhaeelkjigaaPost
import Derived.Test.YtcamhaeelkjigaaBitW
import Derived.ChangeSlices
namespace Go.Proofs.Ytcamhaeelkjigaa
open Go.ChangeShapes Go.WideShapes Go.ChangeAt Go.RowKit

theorem ints_of_trod {H : Type} {enc : TypeId × Value → H} {P : Program} {W : World} {t e : TypeId} {A : Option Addr} {len cap : Nat} {d : DataW H} {ps : List MemPlace}
    (ht : P.underlying t = some (.slice e)) (he : P.underlying e = some (.int .i64)) (hc : P.cellsOf e = 1)
    (h : DataW.Trod enc P W 0 (fun _ => true) true t (.slice A len cap) d ps) : ∃ xs : List Int, Ints W W.heap.size (.slice A len cap) xs ∧ (∀ x ∈ xs, -9223372036854775808 ≤ x ∧ x ≤ 9223372036854775807) ∧ xs.length ≤ maxLen := by
  obtain ⟨fuel, hf⟩ := h
  rcases open_ints ht he hc hf with ⟨hcs, _⟩ | ⟨x, l, c, zs, hcs, _, hl, hm, hz, _, hcell, hws⟩
  · simp [Value.cells] at hcs
    obtain ⟨rfl, rfl, rfl⟩ := hcs
    exact ⟨[], Elems.nil _ _ _, fun s hs => absurd hs (by simp), by simp⟩
  · simp [Value.cells] at hcs
    obtain ⟨rfl, rfl, rfl⟩ := hcs
    simp only [if_true] at hz
    have hlen : (zs.take len).length = len := by rw [List.length_take]; omega
    refine ⟨zs.take len, ⟨some x, cap, by rw [hlen], by omega, fun h0 => ⟨x, rfl, ?_, fun j s hs => ?_⟩⟩, fun s hs => bounds_i64 (hws s (List.mem_of_mem_take hs)), by omega⟩
    · have := World.block_lt_of_cell? W _ (hcell 0 (by omega))
      rw [add_block] at this
      exact this
    · have hj : j < len := by
        rcases Nat.lt_or_ge j (zs.take len).length with k | k
        · omega
        · rw [List.getElem?_eq_none k] at hs; cases hs
      rw [hcell j (by omega)]
      rw [List.getElem?_take_of_lt hj] at hs
      simp [List.getD, hs]
end Go.Proofs.Ytcamhaeelkjigaa
