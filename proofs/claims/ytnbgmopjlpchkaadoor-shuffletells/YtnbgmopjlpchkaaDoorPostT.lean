/- Steps of the rows' proofs that the laws over the table share. -/
import Derived.Test.YtnbgmopjlpchkaaDoorRows
import Derived.Test.YtnbgmopjlpchkaaDoorChuF
import Derived.WalkKit
import Derived.ProofKit
import Derived.LaidMore
import Derived.Lib.LaidTab
import Derived.OpenShut
import Derived.ShutString
import Derived.ChangeOld
import Derived.ChangeSlices
import Derived.Below
import Derived.Stop.Joined
namespace Go.Proofs.YtnbgmopjlpchkaaDoor
open Go.ChangeShapes Go.WideShapes Go.ChangeAt Go.RowKit

theorem own : ownKnob Tryd.prog.godebug = none := by kernel_rfl
theorem laidOut : laidOutB Tryd.prog = true := by kernel_rfl
abbrev laidT : List (String × DataW Unit) := [("mootbell/churn.table", Rows.laid_mootbell_churn_table)]
theorem gTable : Tryd.prog.globalNamed "mootbell/churn.table" = some 0 := by kernel_rfl
theorem tTable : (Tryd.prog.globals[0]?).map (·.type) = some 63 := by kernel_rfl

/-- The heap that the variables' own initialisers leave meets the condition. -/
theorem door_met (os : Os) (args : Array Value) : laidMetH Tryd.prog laidT ((World.doorLaid Tryd.prog 14 os).forCall (fun _ _ => 0) ⟨#[], args, []⟩).memory :=
  laidMetH_of_parts3 (fuel := 8) (laidMet_of_run' 8 (by kernel_rfl) (by kernel_rfl)) (by kernel_rfl) (by kernel_rfl)

/-- What the condition gives the walks: the table's three cells. -/
theorem tab_of_laid {W : World} (h : laidMetH Tryd.prog laidT W) : Tab W := by
  rw [MakeChecks.laidMetH_plain _ _ _ (by kernel_rfl)] at h
  have hT : Lib.TabIs Tryd.prog W "mootbell/churn.table" .u64 [14695981039346656037, 1099511628211, 14886173955864302971] :=
    Lib.tabIs_of_head gTable tTable Tryd.underlying63 Tryd.underlying22 (by kernel_rfl) (by kernel_rfl) h
  exact ⟨hT.cell gTable 0 (by decide), hT.cell gTable 1 (by decide), hT.cell gTable 2 (by decide)⟩

theorem words_of_trod {H : Type} {enc : TypeId × Value → H} {P : Program} {W : World} {t e : TypeId} {A : Option Addr} {len cap : Nat} {d : DataW H} {ps : List MemPlace}
    (ht : P.underlying t = some (.slice e)) (he : P.underlying e = some (.int .u64)) (hc : P.cellsOf e = 1)
    (h : DataW.Trod enc P W 0 (fun _ => true) true t (.slice A len cap) d ps) : ∃ xs : List Nat, Words W W.heap.size (.slice A len cap) xs ∧ Fits64 xs ∧ xs.length ≤ maxLen := by
  obtain ⟨fuel, hf⟩ := h
  rcases open_ints ht he hc hf with ⟨hcs, _⟩ | ⟨x, l, c, zs, hcs, _, hl, hm, hz, _, hcell, hws⟩
  · simp [Value.cells] at hcs
    obtain ⟨rfl, rfl, rfl⟩ := hcs
    exact ⟨[], Elems.nil _ _ _, fun s hs => absurd hs (by simp), by simp⟩
  · simp [Value.cells] at hcs
    obtain ⟨rfl, rfl, rfl⟩ := hcs
    simp only [if_true] at hz
    have hlen : ((zs.take len).map Int.toNat).length = len := by rw [List.length_map, List.length_take]; omega
    refine ⟨(zs.take len).map Int.toNat, ⟨some x, cap, by rw [hlen], by omega, fun h0 => ⟨x, rfl, ?_, fun j s hs => ?_⟩⟩, fun s hs => ?_, by omega⟩
    · have := World.block_lt_of_cell? W _ (hcell 0 (by omega))
      rw [add_block] at this
      exact this
    · have hj : j < len := by
        rcases Nat.lt_or_ge j ((zs.take len).map Int.toNat).length with k | k
        · omega
        · rw [List.getElem?_eq_none k] at hs; cases hs
      rw [hcell j (by omega)]
      rw [List.getElem?_map, List.getElem?_take_of_lt hj] at hs
      obtain ⟨z, hz2, rfl⟩ := Option.map_eq_some_iff.1 hs
      obtain ⟨n, rfl, hn⟩ := u64_of_wf (hws z (List.mem_of_getElem? hz2))
      simp [List.getD, hz2]
    · obtain ⟨z, hz2, rfl⟩ := List.mem_map.1 hs
      obtain ⟨n, rfl, hn⟩ := u64_of_wf (hws z (List.mem_of_mem_take hz2))
      simpa using hn
end Go.Proofs.YtnbgmopjlpchkaaDoor
