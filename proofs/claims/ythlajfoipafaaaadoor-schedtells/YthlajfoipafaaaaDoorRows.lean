/-
  NARROWER THAN 'FOR EVERY INPUT', by the rows' own cells (each row's printed sentence says how): SchedTells: laid · SchedStays: laid · SchedMany: laid · SchedRecord: laid · SchedAll: laid.
  DERIVED. THE GIVEN ROWS OF THIS SEAT. 5 by the template 'for every input the law returns true; each argument reads behind the call as it read before'; 0 by the template 'total and deterministic' (their statements: YthlajfoipafaaaaDoorTotals.lean).
  GIVEN WITH THE SEED: the statements are not yours to turn. If you find one false, say at which input.
  Laid BY PROGRAM, IN A SANDBOX (cutbox-rows.mjs): the forced cells as the released guide's own fill.sh prints them over the translation a36b9b0571b81b7a… (all of the seat's roots in one cut). By AI agents, Wed Nov 11 2026. No macro, syntax, notation, axiom, sorry.
-/
import Derived.Test.YthlajfoipafaaaaDoorChecked
import GoSem.Claim
import GoSem.ClaimJoined
import GoSem.ClaimMapViews
import Derived.JoinedTies
import Derived.KernelRfl
namespace Go.Proofs.YthlajfoipafaaaaDoor
/- THE CELL 'sum', in the pinned program and in every row, IS THE sha256 OF THE DUMP (.gsa) THAT YthlajfoipafaaaaDoorProg.lean LOADS. Nothing in Lean hashes anything: it is a label: what it is worth is what the hold of that sum in a sandbox is worth. -/
noncomputable def Tryd.pinned : Pinned := { name := "ythlajfoipafaaaadoor", sum := "a36b9b0571b81b7a3acc30aa92be143650f6b40131f49195d4b2d65675d40174", checked := Tryd.checked }
namespace Rows
def none {H : Type} : Left H := { results := [], args := [] }

/- WHAT THE LISTED PACKAGE-LEVEL VARIABLES READ AS WHEN THE CALL BEGINS. Each datum BY PROGRAM (the guide's laid-datum.mjs) off the statement by which the dump's own 'gosem.cut.vars' lays the variable. In a bare row this is a premise. The card (YthlajfoipafaaaaDoorCards.lean) ties it to the program's text. -/
def laid_mootbell_clock_spans {H : Type} : DataW H := .agg [.agg [.lit (.int .i64 1), .lit (.int .i64 1024)], .agg [.lit (.int .i64 1), .lit (.int .i64 32)], .agg [.lit (.int .i64 1), .lit (.int .i64 8)], .agg [.lit (.int .i64 1), .lit (.int .i64 64)], .agg [.lit (.int .i64 1), .lit (.int .i64 1000)], .agg [.lit (.int .i64 1), .lit (.int .i64 64)], .agg [.lit (.int .i64 0), .lit (.int .i64 90)], .agg [.lit (.int .i64 1), .lit (.int .i64 16)]]
def laid_mootbell_churn_table {H : Type} : DataW H := .agg [.lit (.int .u64 14695981039346656037), .lit (.int .u64 1099511628211), .lit (.int .u64 14886173955864302971)]

/-- 'mootbelllaw11.SchedTells': WHATEVER THE INPUT: true; the input reads as it did. -/
def schedTellsSpec : ChangeSpec := { name := "schedTells", fn := fun _ => fun
  | [d1, d2, d3, d4, d5, d6, d7, d8] => { results := [.lit (.bool true)], args := [d1, d2, d3, d4, d5, d6, d7, d8] }
  | _ => none }
def schedTellsRow : OpenClaim := { program := "ythlajfoipafaaaadoor", sum := "a36b9b0571b81b7a3acc30aa92be143650f6b40131f49195d4b2d65675d40174", func := "mootbell/mootbelllaw11.SchedTells", spec := "schedTells", inPlace := ["math.Float64frombits", "math.Float64bits"], unfollowed := true, recurses := true, named := ["mootbell/clock.spans", "mootbell/churn.table"], apart := false, laid := [("mootbell/clock.spans", laid_mootbell_clock_spans), ("mootbell/churn.table", laid_mootbell_churn_table)] }
def SchedTellsSaid : Prop := schedTellsRow.holds Tryd.pinned (OpenSpec.ofChange schedTellsSpec)

/-- ITS FALSE NEIGHBOUR: 'it returns false'. Refute it at one input. -/
def schedTellsWrong : ChangeSpec := { name := "schedTells", fn := fun _ => fun
  | [d1, d2, d3, d4, d5, d6, d7, d8] => { results := [.lit (.bool false)], args := [d1, d2, d3, d4, d5, d6, d7, d8] }
  | _ => none }
def SchedTellsWrongFalsely : Prop := schedTellsRow.holds Tryd.pinned (OpenSpec.ofChange schedTellsWrong)

/-- 'mootbelllaw11.SchedStays': WHATEVER THE INPUT: true; the input reads as it did. -/
def schedStaysSpec : ChangeSpec := { name := "schedStays", fn := fun _ => fun
  | [d1, d2, d3, d4, d5, d6] => { results := [.lit (.bool true)], args := [d1, d2, d3, d4, d5, d6] }
  | _ => none }
def schedStaysRow : OpenClaim := { program := "ythlajfoipafaaaadoor", sum := "a36b9b0571b81b7a3acc30aa92be143650f6b40131f49195d4b2d65675d40174", func := "mootbell/mootbelllaw11.SchedStays", spec := "schedStays", inPlace := ["math.Float64frombits", "math.Float64bits"], unfollowed := true, recurses := true, named := ["mootbell/clock.spans", "mootbell/churn.table"], apart := false, laid := [("mootbell/clock.spans", laid_mootbell_clock_spans), ("mootbell/churn.table", laid_mootbell_churn_table)] }
def SchedStaysSaid : Prop := schedStaysRow.holds Tryd.pinned (OpenSpec.ofChange schedStaysSpec)

/-- ITS FALSE NEIGHBOUR: 'it returns false'. Refute it at one input. -/
def schedStaysWrong : ChangeSpec := { name := "schedStays", fn := fun _ => fun
  | [d1, d2, d3, d4, d5, d6] => { results := [.lit (.bool false)], args := [d1, d2, d3, d4, d5, d6] }
  | _ => none }
def SchedStaysWrongFalsely : Prop := schedStaysRow.holds Tryd.pinned (OpenSpec.ofChange schedStaysWrong)

/-- 'mootbelllaw11.SchedMany': WHATEVER THE INPUT: true; the input reads as it did. -/
def schedManySpec : ChangeSpec := { name := "schedMany", fn := fun _ => fun
  | [d1, d2, d3, d4, d5] => { results := [.lit (.bool true)], args := [d1, d2, d3, d4, d5] }
  | _ => none }
def schedManyRow : OpenClaim := { program := "ythlajfoipafaaaadoor", sum := "a36b9b0571b81b7a3acc30aa92be143650f6b40131f49195d4b2d65675d40174", func := "mootbell/mootbelllaw11.SchedMany", spec := "schedMany", inPlace := ["math.Float64frombits", "math.Float64bits"], unfollowed := true, recurses := true, named := ["mootbell/clock.spans", "mootbell/churn.table"], apart := false, laid := [("mootbell/clock.spans", laid_mootbell_clock_spans), ("mootbell/churn.table", laid_mootbell_churn_table)] }
def SchedManySaid : Prop := schedManyRow.holds Tryd.pinned (OpenSpec.ofChange schedManySpec)

/-- ITS FALSE NEIGHBOUR: 'it returns false'. Refute it at one input. -/
def schedManyWrong : ChangeSpec := { name := "schedMany", fn := fun _ => fun
  | [d1, d2, d3, d4, d5] => { results := [.lit (.bool false)], args := [d1, d2, d3, d4, d5] }
  | _ => none }
def SchedManyWrongFalsely : Prop := schedManyRow.holds Tryd.pinned (OpenSpec.ofChange schedManyWrong)

/-- 'mootbelllaw11.SchedRecord': WHATEVER THE INPUT: true; the input reads as it did. -/
def schedRecordSpec : ChangeSpec := { name := "schedRecord", fn := fun _ => fun
  | [d1, d2, d3, d4, d5, d6] => { results := [.lit (.bool true)], args := [d1, d2, d3, d4, d5, d6] }
  | _ => none }
def schedRecordRow : OpenClaim := { program := "ythlajfoipafaaaadoor", sum := "a36b9b0571b81b7a3acc30aa92be143650f6b40131f49195d4b2d65675d40174", func := "mootbell/mootbelllaw11.SchedRecord", spec := "schedRecord", inPlace := ["math.Float64frombits", "math.Float64bits"], unfollowed := true, recurses := true, named := ["mootbell/clock.spans", "mootbell/churn.table"], apart := false, laid := [("mootbell/clock.spans", laid_mootbell_clock_spans), ("mootbell/churn.table", laid_mootbell_churn_table)] }
def SchedRecordSaid : Prop := schedRecordRow.holds Tryd.pinned (OpenSpec.ofChange schedRecordSpec)

/-- ITS FALSE NEIGHBOUR: 'it returns false'. Refute it at one input. -/
def schedRecordWrong : ChangeSpec := { name := "schedRecord", fn := fun _ => fun
  | [d1, d2, d3, d4, d5, d6] => { results := [.lit (.bool false)], args := [d1, d2, d3, d4, d5, d6] }
  | _ => none }
def SchedRecordWrongFalsely : Prop := schedRecordRow.holds Tryd.pinned (OpenSpec.ofChange schedRecordWrong)

/-- 'mootbelllaw11.SchedAll': WHATEVER THE INPUT: true; the input reads as it did. -/
def schedAllSpec : ChangeSpec := { name := "schedAll", fn := fun _ => fun
  | [d1, d2, d3, d4, d5] => { results := [.lit (.bool true)], args := [d1, d2, d3, d4, d5] }
  | _ => none }
def schedAllRow : OpenClaim := { program := "ythlajfoipafaaaadoor", sum := "a36b9b0571b81b7a3acc30aa92be143650f6b40131f49195d4b2d65675d40174", func := "mootbell/mootbelllaw11.SchedAll", spec := "schedAll", inPlace := ["math.Float64frombits", "math.Float64bits"], unfollowed := true, recurses := true, named := ["mootbell/clock.spans", "mootbell/churn.table"], apart := false, laid := [("mootbell/clock.spans", laid_mootbell_clock_spans), ("mootbell/churn.table", laid_mootbell_churn_table)] }
def SchedAllSaid : Prop := schedAllRow.holds Tryd.pinned (OpenSpec.ofChange schedAllSpec)

/-- ITS FALSE NEIGHBOUR: 'it returns false'. Refute it at one input. -/
def schedAllWrong : ChangeSpec := { name := "schedAll", fn := fun _ => fun
  | [d1, d2, d3, d4, d5] => { results := [.lit (.bool false)], args := [d1, d2, d3, d4, d5] }
  | _ => none }
def SchedAllWrongFalsely : Prop := schedAllRow.holds Tryd.pinned (OpenSpec.ofChange schedAllWrong)

/- THE SECOND FORM. 'bulk': how many values and letters a reading holds, each counted each time it is reached (what is shared counts as often as it is met; a slice's spare places count too). A statement '..UptoSaid' is the law's where the arguments, and the package variables that the reading takes, are together of bulk at most 1048576: NARROWER than '..Said'. Prove '..Said' where nothing that the law and all that it calls make is longer than what came in: it says more and counts as full. Else prove '..UptoSaid'. A law counts once. -/
mutual
def uptoBulk {H : Type} : DataW H → Nat
  | .lit (.string bytes) => bytes.length + 1
  | .lit _ => 1
  | .nil => 1
  | .ptr d => uptoBulk d + 1
  | .slice elems spare => uptoBulkAll elems + uptoBulkAll spare + 1
  | .agg parts => uptoBulkAll parts + 1
  | .iface _ d => uptoBulk d + 1
  | .map entries => uptoBulkEntries entries + 1
  | .held _ => 1
def uptoBulkAll {H : Type} : List (DataW H) → Nat
  | [] => 0
  | d :: r => uptoBulk d + uptoBulkAll r
def uptoBulkEntries {H : Type} : List (Lit × DataW H) → Nat
  | [] => 0
  | x :: r => uptoBulkEntry x + uptoBulkEntries r
def uptoBulkEntry {H : Type} : Lit × DataW H → Nat
  | (.string bytes, d) => bytes.length + uptoBulk d + 1
  | (_, d) => uptoBulk d + 1
 end
def uptoSmall : (H : Type) → List (DataW H) → Bool := fun _ ds => decide (uptoBulkAll ds ≤ 1048576)
def OpenSpec.upto (s : _root_.Go.ChangeSpec) : _root_.Go.OpenSpec := { _root_.Go.OpenSpec.ofChange s with cond := some uptoSmall }

/-- 'mootbelllaw11.SchedTells', WHERE WHAT IT READS IS OF BULK AT MOST 1048576: true; the input reads as it did. -/
def schedTellsUptoRow : OpenClaim := { program := "ythlajfoipafaaaadoor", sum := "a36b9b0571b81b7a3acc30aa92be143650f6b40131f49195d4b2d65675d40174", func := "mootbell/mootbelllaw11.SchedTells", spec := "schedTells", inPlace := ["math.Float64frombits", "math.Float64bits"], unfollowed := true, recurses := true, named := ["mootbell/clock.spans", "mootbell/churn.table"], apart := false, laid := [("mootbell/clock.spans", laid_mootbell_clock_spans), ("mootbell/churn.table", laid_mootbell_churn_table)], narrowed := true }
def SchedTellsUptoSaid : Prop := schedTellsUptoRow.holds Tryd.pinned (OpenSpec.upto schedTellsSpec)

/-- 'mootbelllaw11.SchedStays', WHERE WHAT IT READS IS OF BULK AT MOST 1048576: true; the input reads as it did. -/
def schedStaysUptoRow : OpenClaim := { program := "ythlajfoipafaaaadoor", sum := "a36b9b0571b81b7a3acc30aa92be143650f6b40131f49195d4b2d65675d40174", func := "mootbell/mootbelllaw11.SchedStays", spec := "schedStays", inPlace := ["math.Float64frombits", "math.Float64bits"], unfollowed := true, recurses := true, named := ["mootbell/clock.spans", "mootbell/churn.table"], apart := false, laid := [("mootbell/clock.spans", laid_mootbell_clock_spans), ("mootbell/churn.table", laid_mootbell_churn_table)], narrowed := true }
def SchedStaysUptoSaid : Prop := schedStaysUptoRow.holds Tryd.pinned (OpenSpec.upto schedStaysSpec)

/-- 'mootbelllaw11.SchedMany', WHERE WHAT IT READS IS OF BULK AT MOST 1048576: true; the input reads as it did. -/
def schedManyUptoRow : OpenClaim := { program := "ythlajfoipafaaaadoor", sum := "a36b9b0571b81b7a3acc30aa92be143650f6b40131f49195d4b2d65675d40174", func := "mootbell/mootbelllaw11.SchedMany", spec := "schedMany", inPlace := ["math.Float64frombits", "math.Float64bits"], unfollowed := true, recurses := true, named := ["mootbell/clock.spans", "mootbell/churn.table"], apart := false, laid := [("mootbell/clock.spans", laid_mootbell_clock_spans), ("mootbell/churn.table", laid_mootbell_churn_table)], narrowed := true }
def SchedManyUptoSaid : Prop := schedManyUptoRow.holds Tryd.pinned (OpenSpec.upto schedManySpec)

/-- 'mootbelllaw11.SchedRecord', WHERE WHAT IT READS IS OF BULK AT MOST 1048576: true; the input reads as it did. -/
def schedRecordUptoRow : OpenClaim := { program := "ythlajfoipafaaaadoor", sum := "a36b9b0571b81b7a3acc30aa92be143650f6b40131f49195d4b2d65675d40174", func := "mootbell/mootbelllaw11.SchedRecord", spec := "schedRecord", inPlace := ["math.Float64frombits", "math.Float64bits"], unfollowed := true, recurses := true, named := ["mootbell/clock.spans", "mootbell/churn.table"], apart := false, laid := [("mootbell/clock.spans", laid_mootbell_clock_spans), ("mootbell/churn.table", laid_mootbell_churn_table)], narrowed := true }
def SchedRecordUptoSaid : Prop := schedRecordUptoRow.holds Tryd.pinned (OpenSpec.upto schedRecordSpec)

/-- 'mootbelllaw11.SchedAll', WHERE WHAT IT READS IS OF BULK AT MOST 1048576: true; the input reads as it did. -/
def schedAllUptoRow : OpenClaim := { program := "ythlajfoipafaaaadoor", sum := "a36b9b0571b81b7a3acc30aa92be143650f6b40131f49195d4b2d65675d40174", func := "mootbell/mootbelllaw11.SchedAll", spec := "schedAll", inPlace := ["math.Float64frombits", "math.Float64bits"], unfollowed := true, recurses := true, named := ["mootbell/clock.spans", "mootbell/churn.table"], apart := false, laid := [("mootbell/clock.spans", laid_mootbell_clock_spans), ("mootbell/churn.table", laid_mootbell_churn_table)], narrowed := true }
def SchedAllUptoSaid : Prop := schedAllUptoRow.holds Tryd.pinned (OpenSpec.upto schedAllSpec)

end Rows
end Go.Proofs.YthlajfoipafaaaaDoor
