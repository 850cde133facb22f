/- Steps of the rows' proofs that the laws over the table share. -/
import Derived.Test.YtblpdhnifleioaaDoorRows
import Derived.Test.YtblpdhnifleioaaDoorChuX
import Derived.WalkKit
import Derived.ProofKit
import Derived.LaidMore
import Derived.Lib.LaidTab
import Derived.OpenShut
import Derived.ShutString
import Derived.ChangeOld
import Derived.ChangeSlices
import Derived.Below
import Derived.Stop.Joined
import Derived.Deep.Fields
namespace Go.Proofs.YtblpdhnifleioaaDoor
open Go.ChangeShapes Go.WideShapes Go.ChangeAt Go.RowKit

theorem own : ownKnob Tryd.prog.godebug = none := by kernel_rfl
theorem laidOut : laidOutB Tryd.prog = true := by kernel_rfl
abbrev laidT : List (String × DataW Unit) := [("mootbell/churn.table", Rows.laid_mootbell_churn_table)]
theorem gTable : Tryd.prog.globalNamed "mootbell/churn.table" = some 0 := by kernel_rfl
theorem tTable : (Tryd.prog.globals[0]?).map (·.type) = some 67 := by kernel_rfl

/-- The heap that the variables' own initialisers leave meets the condition. -/
theorem door_met (os : Os) (args : Array Value) : laidMetH Tryd.prog laidT ((World.doorLaid Tryd.prog 14 os).forCall (fun _ _ => 0) ⟨#[], args, []⟩).memory :=
  laidMetH_of_parts3 (fuel := 8) (laidMet_of_run' 8 (by kernel_rfl) (by kernel_rfl)) (by kernel_rfl) (by kernel_rfl)

/-- What the condition gives the walks: the table's three cells. -/
theorem tab_of_laid {W : World} (h : laidMetH Tryd.prog laidT W) : Tab W := by
  rw [MakeChecks.laidMetH_plain _ _ _ (by kernel_rfl)] at h
  have hT : Lib.TabIs Tryd.prog W "mootbell/churn.table" .u64 [14695981039346656037, 1099511628211, 14886173955864302971] :=
    Lib.tabIs_of_head gTable tTable Tryd.underlying67 Tryd.underlying22 (by kernel_rfl) (by kernel_rfl) h
  exact ⟨hT.cell gTable 0 (by decide), hT.cell gTable 1 (by decide), hT.cell gTable 2 (by decide)⟩

theorem one_cell {α : Type} {l : List α} {j : Nat} {c : α} (h : l[j]? = some c) : (l.drop j).take 1 = [c] := by
  obtain ⟨hj, rfl⟩ := List.getElem?_eq_some_iff.1 h
  rw [List.drop_eq_getElem_cons hj]; rfl
theorem array5 {α : Type} {cs : Array α} (h : cs.size = 5) : ∃ c0 c1 c2 c3 c4, cs = #[c0, c1, c2, c3, c4] := by
  obtain ⟨l⟩ := cs
  match l, h with
  | [c0, c1, c2, c3, c4], _ => exact ⟨c0, c1, c2, c3, c4, rfl⟩
/-- Data that came in by value, opened. -/
theorem data_of_trod {H : Type} {enc : TypeId × Value → H} {P : Program} {W : World} {r : Reach} {b0 : Nat} {t tu : TypeId} {fs : Array Field} {v : Value} {d : DataW H} {ps : List MemPlace}
    (ht : P.underlying t = some (.struct fs)) (hone : Go.Deep.oneCellFields P fs = true) (hn : fs.size = 5) (hC : P.cellsOf t = 5) (uu : P.underlying tu = some (.int .u64)) (htu : ∀ (i : Nat) (f : Field), i < 5 → fs[i]? = some f → f.type = tu)
    (hv : Value.okWide P W r b0 t v) (h : DataW.Trod enc P W 0 (fun _ => true) true t v d ps) :
    ∃ n0 n1 n2 n3 n4 : Nat, v = .agg #[.int .u64 (n0 : Int), .int .u64 (n1 : Int), .int .u64 (n2 : Int), .int .u64 (n3 : Int), .int .u64 (n4 : Int)] ∧ n0 < 18446744073709551616 ∧ n1 < 18446744073709551616 ∧ n2 < 18446744073709551616 ∧ n3 < 18446744073709551616 ∧ n4 < 18446744073709551616 := by
  obtain ⟨cs, rfl, hsz⟩ := okWide_struct ht hv
  obtain ⟨c0, c1, c2, c3, c4, rfl⟩ := array5 (hsz.trans hC)
  obtain ⟨fuel, hf⟩ := h
  obtain ⟨xs, m, -, -, -, hl, hr⟩ := DataW.trod_struct ht hf
  have one : ∀ (j : Nat) (c : Value), j < 5 → (#[c0, c1, c2, c3, c4] : Array Value).toList[j]? = some c → ∃ n : Nat, c = .int .u64 (n : Int) ∧ n < 18446744073709551616 := by
    intro j c hj hc
    have hfi : fs[j]? = some (fs[j]'(by omega)) := Array.getElem?_eq_getElem (by omega)
    obtain ⟨ho, hcl⟩ := Go.Deep.hone_of hone j _ hfi
    have h1 := hr j _ hfi
    have hy : xs[j]? = some (xs[j]'(by omega)) := List.getElem?_eq_getElem (by omega)
    rw [hy, ho, hcl, one_cell (show (Value.agg #[c0, c1, c2, c3, c4]).cells.toList[j]? = some c from hc), htu j _ hj hfi] at h1
    obtain ⟨n, e, -, w⟩ := DataW.trod_int uu h1
    simp at e
    have := bounds_u64 w
    exact ⟨n.toNat, by rw [e, Int.toNat_of_nonneg this.1], by omega⟩
  obtain ⟨n0, rfl, g0⟩ := one 0 c0 (by omega) rfl
  obtain ⟨n1, rfl, g1⟩ := one 1 c1 (by omega) rfl
  obtain ⟨n2, rfl, g2⟩ := one 2 c2 (by omega) rfl
  obtain ⟨n3, rfl, g3⟩ := one 3 c3 (by omega) rfl
  obtain ⟨n4, rfl, g4⟩ := one 4 c4 (by omega) rfl
  exact ⟨n0, n1, n2, n3, n4, rfl, g0, g1, g2, g3, g4⟩
end Go.Proofs.YtblpdhnifleioaaDoor
