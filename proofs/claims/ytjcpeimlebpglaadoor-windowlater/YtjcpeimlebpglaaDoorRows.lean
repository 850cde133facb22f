/-
  NARROWER THAN 'FOR EVERY INPUT', by the rows' own cells (each row's printed sentence says how): WindowTells: laid · WindowSpan: laid · WindowTurns: laid · WindowLater: laid · WindowEdges: laid.
  DERIVED. THE GIVEN ROWS OF THIS SEAT. 5 by the template 'for every input the law returns true; each argument reads behind the call as it read before'; 0 by the template 'total and deterministic' (their statements: YtjcpeimlebpglaaDoorTotals.lean).
  GIVEN WITH THE SEED: the statements are not yours to turn. If you find one false, say at which input.
  Laid BY PROGRAM, IN A SANDBOX (cutbox-rows.mjs): the forced cells as the released guide's own fill.sh prints them over the translation 18bd6f3ba2406ae5… (all of the seat's roots in one cut). By AI agents, Wed Nov 11 2026. No macro, syntax, notation, axiom, sorry.
-/
import Derived.Test.YtjcpeimlebpglaaDoorChecked
import GoSem.Claim
import GoSem.ClaimJoined
import GoSem.ClaimMapViews
import Derived.JoinedTies
import Derived.KernelRfl
namespace Go.Proofs.YtjcpeimlebpglaaDoor
/- THE CELL 'sum', in the pinned program and in every row, IS THE sha256 OF THE DUMP (.gsa) THAT YtjcpeimlebpglaaDoorProg.lean LOADS. Nothing in Lean hashes anything: it is a label: what it is worth is what the hold of that sum in a sandbox is worth. -/
noncomputable def Tryd.pinned : Pinned := { name := "ytjcpeimlebpglaadoor", sum := "18bd6f3ba2406ae5476daa1f1100cd8f744bf4ee415d353f0704ef27c9439577", checked := Tryd.checked }
namespace Rows
def none {H : Type} : Left H := { results := [], args := [] }

/- WHAT THE LISTED PACKAGE-LEVEL VARIABLES READ AS WHEN THE CALL BEGINS. Each datum BY PROGRAM (the guide's laid-datum.mjs) off the statement by which the dump's own 'gosem.cut.vars' lays the variable. In a bare row this is a premise. The card (YtjcpeimlebpglaaDoorCards.lean) ties it to the program's text. -/
def laid_mootbell_clock_spans {H : Type} : DataW H := .agg [.agg [.lit (.int .i64 1), .lit (.int .i64 1024)], .agg [.lit (.int .i64 1), .lit (.int .i64 32)], .agg [.lit (.int .i64 1), .lit (.int .i64 8)], .agg [.lit (.int .i64 1), .lit (.int .i64 64)], .agg [.lit (.int .i64 1), .lit (.int .i64 1000)], .agg [.lit (.int .i64 1), .lit (.int .i64 64)], .agg [.lit (.int .i64 0), .lit (.int .i64 90)], .agg [.lit (.int .i64 1), .lit (.int .i64 16)]]

/-- 'mootbelllaw12.WindowTells': WHATEVER THE INPUT: true; the input reads as it did. -/
def windowTellsSpec : ChangeSpec := { name := "windowTells", fn := fun _ => fun
  | [d1, d2, d3, d4] => { results := [.lit (.bool true)], args := [d1, d2, d3, d4] }
  | _ => none }
def windowTellsRow : OpenClaim := { program := "ytjcpeimlebpglaadoor", sum := "18bd6f3ba2406ae5476daa1f1100cd8f744bf4ee415d353f0704ef27c9439577", func := "mootbell/mootbelllaw12.WindowTells", spec := "windowTells", unfollowed := true, recurses := true, named := ["mootbell/clock.spans"], apart := false, laid := [("mootbell/clock.spans", laid_mootbell_clock_spans)] }
def WindowTellsSaid : Prop := windowTellsRow.holds Tryd.pinned (OpenSpec.ofChange windowTellsSpec)

/-- ITS FALSE NEIGHBOUR: 'it returns false'. Refute it at one input. -/
def windowTellsWrong : ChangeSpec := { name := "windowTells", fn := fun _ => fun
  | [d1, d2, d3, d4] => { results := [.lit (.bool false)], args := [d1, d2, d3, d4] }
  | _ => none }
def WindowTellsWrongFalsely : Prop := windowTellsRow.holds Tryd.pinned (OpenSpec.ofChange windowTellsWrong)

/-- 'mootbelllaw12.WindowSpan': WHATEVER THE INPUT: true; the input reads as it did. -/
def windowSpanSpec : ChangeSpec := { name := "windowSpan", fn := fun _ => fun
  | [d1, d2, d3] => { results := [.lit (.bool true)], args := [d1, d2, d3] }
  | _ => none }
def windowSpanRow : OpenClaim := { program := "ytjcpeimlebpglaadoor", sum := "18bd6f3ba2406ae5476daa1f1100cd8f744bf4ee415d353f0704ef27c9439577", func := "mootbell/mootbelllaw12.WindowSpan", spec := "windowSpan", unfollowed := true, recurses := true, named := ["mootbell/clock.spans"], apart := false, laid := [("mootbell/clock.spans", laid_mootbell_clock_spans)] }
def WindowSpanSaid : Prop := windowSpanRow.holds Tryd.pinned (OpenSpec.ofChange windowSpanSpec)

/-- ITS FALSE NEIGHBOUR: 'it returns false'. Refute it at one input. -/
def windowSpanWrong : ChangeSpec := { name := "windowSpan", fn := fun _ => fun
  | [d1, d2, d3] => { results := [.lit (.bool false)], args := [d1, d2, d3] }
  | _ => none }
def WindowSpanWrongFalsely : Prop := windowSpanRow.holds Tryd.pinned (OpenSpec.ofChange windowSpanWrong)

/-- 'mootbelllaw12.WindowTurns': WHATEVER THE INPUT: true; the input reads as it did. -/
def windowTurnsSpec : ChangeSpec := { name := "windowTurns", fn := fun _ => fun
  | [d1, d2, d3, d4] => { results := [.lit (.bool true)], args := [d1, d2, d3, d4] }
  | _ => none }
def windowTurnsRow : OpenClaim := { program := "ytjcpeimlebpglaadoor", sum := "18bd6f3ba2406ae5476daa1f1100cd8f744bf4ee415d353f0704ef27c9439577", func := "mootbell/mootbelllaw12.WindowTurns", spec := "windowTurns", unfollowed := true, recurses := true, named := ["mootbell/clock.spans"], apart := false, laid := [("mootbell/clock.spans", laid_mootbell_clock_spans)] }
def WindowTurnsSaid : Prop := windowTurnsRow.holds Tryd.pinned (OpenSpec.ofChange windowTurnsSpec)

/-- ITS FALSE NEIGHBOUR: 'it returns false'. Refute it at one input. -/
def windowTurnsWrong : ChangeSpec := { name := "windowTurns", fn := fun _ => fun
  | [d1, d2, d3, d4] => { results := [.lit (.bool false)], args := [d1, d2, d3, d4] }
  | _ => none }
def WindowTurnsWrongFalsely : Prop := windowTurnsRow.holds Tryd.pinned (OpenSpec.ofChange windowTurnsWrong)

/-- 'mootbelllaw12.WindowLater': WHATEVER THE INPUT: true; the input reads as it did. -/
def windowLaterSpec : ChangeSpec := { name := "windowLater", fn := fun _ => fun
  | [d1, d2, d3] => { results := [.lit (.bool true)], args := [d1, d2, d3] }
  | _ => none }
def windowLaterRow : OpenClaim := { program := "ytjcpeimlebpglaadoor", sum := "18bd6f3ba2406ae5476daa1f1100cd8f744bf4ee415d353f0704ef27c9439577", func := "mootbell/mootbelllaw12.WindowLater", spec := "windowLater", unfollowed := true, recurses := true, named := ["mootbell/clock.spans"], apart := false, laid := [("mootbell/clock.spans", laid_mootbell_clock_spans)] }
def WindowLaterSaid : Prop := windowLaterRow.holds Tryd.pinned (OpenSpec.ofChange windowLaterSpec)

/-- ITS FALSE NEIGHBOUR: 'it returns false'. Refute it at one input. -/
def windowLaterWrong : ChangeSpec := { name := "windowLater", fn := fun _ => fun
  | [d1, d2, d3] => { results := [.lit (.bool false)], args := [d1, d2, d3] }
  | _ => none }
def WindowLaterWrongFalsely : Prop := windowLaterRow.holds Tryd.pinned (OpenSpec.ofChange windowLaterWrong)

/-- 'mootbelllaw12.WindowEdges': WHATEVER THE INPUT: true; the input reads as it did. -/
def windowEdgesSpec : ChangeSpec := { name := "windowEdges", fn := fun _ => fun
  | [d1, d2] => { results := [.lit (.bool true)], args := [d1, d2] }
  | _ => none }
def windowEdgesRow : OpenClaim := { program := "ytjcpeimlebpglaadoor", sum := "18bd6f3ba2406ae5476daa1f1100cd8f744bf4ee415d353f0704ef27c9439577", func := "mootbell/mootbelllaw12.WindowEdges", spec := "windowEdges", unfollowed := true, recurses := true, named := ["mootbell/clock.spans"], apart := false, laid := [("mootbell/clock.spans", laid_mootbell_clock_spans)] }
def WindowEdgesSaid : Prop := windowEdgesRow.holds Tryd.pinned (OpenSpec.ofChange windowEdgesSpec)

/-- ITS FALSE NEIGHBOUR: 'it returns false'. Refute it at one input. -/
def windowEdgesWrong : ChangeSpec := { name := "windowEdges", fn := fun _ => fun
  | [d1, d2] => { results := [.lit (.bool false)], args := [d1, d2] }
  | _ => none }
def WindowEdgesWrongFalsely : Prop := windowEdgesRow.holds Tryd.pinned (OpenSpec.ofChange windowEdgesWrong)

/- THE SECOND FORM. 'bulk': how many values and letters a reading holds, each counted each time it is reached (what is shared counts as often as it is met; a slice's spare places count too). A statement '..UptoSaid' is the law's where the arguments, and the package variables that the reading takes, are together of bulk at most 1048576: NARROWER than '..Said'. Prove '..Said' where nothing that the law and all that it calls make is longer than what came in: it says more and counts as full. Else prove '..UptoSaid'. A law counts once. -/
mutual
def uptoBulk {H : Type} : DataW H → Nat
  | .lit (.string bytes) => bytes.length + 1
  | .lit _ => 1
  | .nil => 1
  | .ptr d => uptoBulk d + 1
  | .slice elems spare => uptoBulkAll elems + uptoBulkAll spare + 1
  | .agg parts => uptoBulkAll parts + 1
  | .iface _ d => uptoBulk d + 1
  | .map entries => uptoBulkEntries entries + 1
  | .held _ => 1
def uptoBulkAll {H : Type} : List (DataW H) → Nat
  | [] => 0
  | d :: r => uptoBulk d + uptoBulkAll r
def uptoBulkEntries {H : Type} : List (Lit × DataW H) → Nat
  | [] => 0
  | x :: r => uptoBulkEntry x + uptoBulkEntries r
def uptoBulkEntry {H : Type} : Lit × DataW H → Nat
  | (.string bytes, d) => bytes.length + uptoBulk d + 1
  | (_, d) => uptoBulk d + 1
 end
def uptoSmall : (H : Type) → List (DataW H) → Bool := fun _ ds => decide (uptoBulkAll ds ≤ 1048576)
def OpenSpec.upto (s : _root_.Go.ChangeSpec) : _root_.Go.OpenSpec := { _root_.Go.OpenSpec.ofChange s with cond := some uptoSmall }

/-- 'mootbelllaw12.WindowTells', WHERE WHAT IT READS IS OF BULK AT MOST 1048576: true; the input reads as it did. -/
def windowTellsUptoRow : OpenClaim := { program := "ytjcpeimlebpglaadoor", sum := "18bd6f3ba2406ae5476daa1f1100cd8f744bf4ee415d353f0704ef27c9439577", func := "mootbell/mootbelllaw12.WindowTells", spec := "windowTells", unfollowed := true, recurses := true, named := ["mootbell/clock.spans"], apart := false, laid := [("mootbell/clock.spans", laid_mootbell_clock_spans)], narrowed := true }
def WindowTellsUptoSaid : Prop := windowTellsUptoRow.holds Tryd.pinned (OpenSpec.upto windowTellsSpec)

/-- 'mootbelllaw12.WindowSpan', WHERE WHAT IT READS IS OF BULK AT MOST 1048576: true; the input reads as it did. -/
def windowSpanUptoRow : OpenClaim := { program := "ytjcpeimlebpglaadoor", sum := "18bd6f3ba2406ae5476daa1f1100cd8f744bf4ee415d353f0704ef27c9439577", func := "mootbell/mootbelllaw12.WindowSpan", spec := "windowSpan", unfollowed := true, recurses := true, named := ["mootbell/clock.spans"], apart := false, laid := [("mootbell/clock.spans", laid_mootbell_clock_spans)], narrowed := true }
def WindowSpanUptoSaid : Prop := windowSpanUptoRow.holds Tryd.pinned (OpenSpec.upto windowSpanSpec)

/-- 'mootbelllaw12.WindowTurns', WHERE WHAT IT READS IS OF BULK AT MOST 1048576: true; the input reads as it did. -/
def windowTurnsUptoRow : OpenClaim := { program := "ytjcpeimlebpglaadoor", sum := "18bd6f3ba2406ae5476daa1f1100cd8f744bf4ee415d353f0704ef27c9439577", func := "mootbell/mootbelllaw12.WindowTurns", spec := "windowTurns", unfollowed := true, recurses := true, named := ["mootbell/clock.spans"], apart := false, laid := [("mootbell/clock.spans", laid_mootbell_clock_spans)], narrowed := true }
def WindowTurnsUptoSaid : Prop := windowTurnsUptoRow.holds Tryd.pinned (OpenSpec.upto windowTurnsSpec)

/-- 'mootbelllaw12.WindowLater', WHERE WHAT IT READS IS OF BULK AT MOST 1048576: true; the input reads as it did. -/
def windowLaterUptoRow : OpenClaim := { program := "ytjcpeimlebpglaadoor", sum := "18bd6f3ba2406ae5476daa1f1100cd8f744bf4ee415d353f0704ef27c9439577", func := "mootbell/mootbelllaw12.WindowLater", spec := "windowLater", unfollowed := true, recurses := true, named := ["mootbell/clock.spans"], apart := false, laid := [("mootbell/clock.spans", laid_mootbell_clock_spans)], narrowed := true }
def WindowLaterUptoSaid : Prop := windowLaterUptoRow.holds Tryd.pinned (OpenSpec.upto windowLaterSpec)

/-- 'mootbelllaw12.WindowEdges', WHERE WHAT IT READS IS OF BULK AT MOST 1048576: true; the input reads as it did. -/
def windowEdgesUptoRow : OpenClaim := { program := "ytjcpeimlebpglaadoor", sum := "18bd6f3ba2406ae5476daa1f1100cd8f744bf4ee415d353f0704ef27c9439577", func := "mootbell/mootbelllaw12.WindowEdges", spec := "windowEdges", unfollowed := true, recurses := true, named := ["mootbell/clock.spans"], apart := false, laid := [("mootbell/clock.spans", laid_mootbell_clock_spans)], narrowed := true }
def WindowEdgesUptoSaid : Prop := windowEdgesUptoRow.holds Tryd.pinned (OpenSpec.upto windowEdgesSpec)

end Rows
end Go.Proofs.YtjcpeimlebpglaaDoor
