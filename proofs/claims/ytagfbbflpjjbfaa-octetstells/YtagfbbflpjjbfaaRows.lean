/-
  No cell of these rows narrows 'for every input' (looked for: loops, veiled, ifaces, maps, wideKeys, modest, calm, conditions, laid).
  DERIVED. THE GIVEN ROWS OF THIS SEAT. 5 by the template 'for every input the law returns true; each argument reads behind the call as it read before'; 0 by the template 'total and deterministic' (their statements: YtagfbbflpjjbfaaTotals.lean).
  GIVEN WITH THE SEED: the statements are not yours to turn. If you find one false, say at which input.
  Laid BY PROGRAM, IN A SANDBOX (cutbox-rows.mjs): the forced cells as the released guide's own fill.sh prints them over the translation 682be14b7828d8d0… (all of the seat's roots in one cut). By AI agents, Wed Nov 11 2026. No macro, syntax, notation, axiom, sorry.
-/
import Derived.Test.YtagfbbflpjjbfaaChecked
import GoSem.Claim
import GoSem.ClaimJoined
import GoSem.ClaimMapViews
import Derived.JoinedTies
import Derived.KernelRfl
namespace Go.Proofs.Ytagfbbflpjjbfaa
/- THE CELL 'sum', in the pinned program and in every row, IS THE sha256 OF THE DUMP (.gsa) THAT YtagfbbflpjjbfaaProg.lean LOADS. Nothing in Lean hashes anything: it is a label: what it is worth is what the hold of that sum in a sandbox is worth. -/
noncomputable def Try.pinned : Pinned := { name := "ytagfbbflpjjbfaa", sum := "682be14b7828d8d09f0dff3ba68b387ba60a4b7af2c086b0e9f56d030b23b718", checked := Try.checked }
namespace Rows
def none {H : Type} : Left H := { results := [], args := [] }

/-- 'mootbelllaw01.OctetsTells': WHATEVER THE INPUT: true; the input reads as it did. -/
def octetsTellsSpec : ChangeSpec := { name := "octetsTells", fn := fun _ => fun
  | [d1, d2, d3, d4, d5, d6, d7, d8] => { results := [.lit (.bool true)], args := [d1, d2, d3, d4, d5, d6, d7, d8] }
  | _ => none }
def octetsTellsRow : OpenClaim := { program := "ytagfbbflpjjbfaa", sum := "682be14b7828d8d09f0dff3ba68b387ba60a4b7af2c086b0e9f56d030b23b718", func := "mootbell/mootbelllaw01.OctetsTells", spec := "octetsTells", inPlace := ["internal/abi.NoEscape"], unfollowed := true, recurses := true, apart := false }
def OctetsTellsSaid : Prop := octetsTellsRow.holds Try.pinned (OpenSpec.ofChange octetsTellsSpec)

/-- ITS FALSE NEIGHBOUR: 'it returns false'. Refute it at one input. -/
def octetsTellsWrong : ChangeSpec := { name := "octetsTells", fn := fun _ => fun
  | [d1, d2, d3, d4, d5, d6, d7, d8] => { results := [.lit (.bool false)], args := [d1, d2, d3, d4, d5, d6, d7, d8] }
  | _ => none }
def OctetsTellsWrongFalsely : Prop := octetsTellsRow.holds Try.pinned (OpenSpec.ofChange octetsTellsWrong)

/-- 'mootbelllaw01.OctetsLong': WHATEVER THE INPUT: true; the input reads as it did. -/
def octetsLongSpec : ChangeSpec := { name := "octetsLong", fn := fun _ => fun
  | [d1, d2] => { results := [.lit (.bool true)], args := [d1, d2] }
  | _ => none }
def octetsLongRow : OpenClaim := { program := "ytagfbbflpjjbfaa", sum := "682be14b7828d8d09f0dff3ba68b387ba60a4b7af2c086b0e9f56d030b23b718", func := "mootbell/mootbelllaw01.OctetsLong", spec := "octetsLong", inPlace := ["internal/abi.NoEscape"], unfollowed := true, recurses := true, apart := false }
def OctetsLongSaid : Prop := octetsLongRow.holds Try.pinned (OpenSpec.ofChange octetsLongSpec)

/-- ITS FALSE NEIGHBOUR: 'it returns false'. Refute it at one input. -/
def octetsLongWrong : ChangeSpec := { name := "octetsLong", fn := fun _ => fun
  | [d1, d2] => { results := [.lit (.bool false)], args := [d1, d2] }
  | _ => none }
def OctetsLongWrongFalsely : Prop := octetsLongRow.holds Try.pinned (OpenSpec.ofChange octetsLongWrong)

/-- 'mootbelllaw01.OctetsBack': WHATEVER THE INPUT: true; the input reads as it did. -/
def octetsBackSpec : ChangeSpec := { name := "octetsBack", fn := fun _ => fun
  | [d1, d2, d3] => { results := [.lit (.bool true)], args := [d1, d2, d3] }
  | _ => none }
def octetsBackRow : OpenClaim := { program := "ytagfbbflpjjbfaa", sum := "682be14b7828d8d09f0dff3ba68b387ba60a4b7af2c086b0e9f56d030b23b718", func := "mootbell/mootbelllaw01.OctetsBack", spec := "octetsBack", inPlace := ["internal/abi.NoEscape"], unfollowed := true, recurses := true, apart := false }
def OctetsBackSaid : Prop := octetsBackRow.holds Try.pinned (OpenSpec.ofChange octetsBackSpec)

/-- ITS FALSE NEIGHBOUR: 'it returns false'. Refute it at one input. -/
def octetsBackWrong : ChangeSpec := { name := "octetsBack", fn := fun _ => fun
  | [d1, d2, d3] => { results := [.lit (.bool false)], args := [d1, d2, d3] }
  | _ => none }
def OctetsBackWrongFalsely : Prop := octetsBackRow.holds Try.pinned (OpenSpec.ofChange octetsBackWrong)

/-- 'mootbelllaw01.OctetsSplit': WHATEVER THE INPUT: true; the input reads as it did. -/
def octetsSplitSpec : ChangeSpec := { name := "octetsSplit", fn := fun _ => fun
  | [d1, d2] => { results := [.lit (.bool true)], args := [d1, d2] }
  | _ => none }
def octetsSplitRow : OpenClaim := { program := "ytagfbbflpjjbfaa", sum := "682be14b7828d8d09f0dff3ba68b387ba60a4b7af2c086b0e9f56d030b23b718", func := "mootbell/mootbelllaw01.OctetsSplit", spec := "octetsSplit", inPlace := ["internal/abi.NoEscape"], unfollowed := true, recurses := true, apart := false }
def OctetsSplitSaid : Prop := octetsSplitRow.holds Try.pinned (OpenSpec.ofChange octetsSplitSpec)

/-- ITS FALSE NEIGHBOUR: 'it returns false'. Refute it at one input. -/
def octetsSplitWrong : ChangeSpec := { name := "octetsSplit", fn := fun _ => fun
  | [d1, d2] => { results := [.lit (.bool false)], args := [d1, d2] }
  | _ => none }
def OctetsSplitWrongFalsely : Prop := octetsSplitRow.holds Try.pinned (OpenSpec.ofChange octetsSplitWrong)

/-- 'mootbelllaw01.OctetsJoin': WHATEVER THE INPUT: true; the input reads as it did. -/
def octetsJoinSpec : ChangeSpec := { name := "octetsJoin", fn := fun _ => fun
  | [d1, d2, d3, d4, d5, d6] => { results := [.lit (.bool true)], args := [d1, d2, d3, d4, d5, d6] }
  | _ => none }
def octetsJoinRow : OpenClaim := { program := "ytagfbbflpjjbfaa", sum := "682be14b7828d8d09f0dff3ba68b387ba60a4b7af2c086b0e9f56d030b23b718", func := "mootbell/mootbelllaw01.OctetsJoin", spec := "octetsJoin", inPlace := ["internal/abi.NoEscape"], unfollowed := true, recurses := true, apart := false }
def OctetsJoinSaid : Prop := octetsJoinRow.holds Try.pinned (OpenSpec.ofChange octetsJoinSpec)

/-- ITS FALSE NEIGHBOUR: 'it returns false'. Refute it at one input. -/
def octetsJoinWrong : ChangeSpec := { name := "octetsJoin", fn := fun _ => fun
  | [d1, d2, d3, d4, d5, d6] => { results := [.lit (.bool false)], args := [d1, d2, d3, d4, d5, d6] }
  | _ => none }
def OctetsJoinWrongFalsely : Prop := octetsJoinRow.holds Try.pinned (OpenSpec.ofChange octetsJoinWrong)

/- THE SECOND FORM. 'bulk': how many values and letters a reading holds, each counted each time it is reached (what is shared counts as often as it is met; a slice's spare places count too). A statement '..UptoSaid' is the law's where the arguments, and the package variables that the reading takes, are together of bulk at most 1048576: NARROWER than '..Said'. Prove '..Said' where nothing that the law and all that it calls make is longer than what came in: it says more and counts as full. Else prove '..UptoSaid'. A law counts once. -/
mutual
def uptoBulk {H : Type} : DataW H → Nat
  | .lit (.string bytes) => bytes.length + 1
  | .lit _ => 1
  | .nil => 1
  | .ptr d => uptoBulk d + 1
  | .slice elems spare => uptoBulkAll elems + uptoBulkAll spare + 1
  | .agg parts => uptoBulkAll parts + 1
  | .iface _ d => uptoBulk d + 1
  | .map entries => uptoBulkEntries entries + 1
  | .held _ => 1
def uptoBulkAll {H : Type} : List (DataW H) → Nat
  | [] => 0
  | d :: r => uptoBulk d + uptoBulkAll r
def uptoBulkEntries {H : Type} : List (Lit × DataW H) → Nat
  | [] => 0
  | x :: r => uptoBulkEntry x + uptoBulkEntries r
def uptoBulkEntry {H : Type} : Lit × DataW H → Nat
  | (.string bytes, d) => bytes.length + uptoBulk d + 1
  | (_, d) => uptoBulk d + 1
 end
def uptoSmall : (H : Type) → List (DataW H) → Bool := fun _ ds => decide (uptoBulkAll ds ≤ 1048576)
def OpenSpec.upto (s : _root_.Go.ChangeSpec) : _root_.Go.OpenSpec := { _root_.Go.OpenSpec.ofChange s with cond := some uptoSmall }

/-- 'mootbelllaw01.OctetsTells', WHERE WHAT IT READS IS OF BULK AT MOST 1048576: true; the input reads as it did. -/
def octetsTellsUptoRow : OpenClaim := { program := "ytagfbbflpjjbfaa", sum := "682be14b7828d8d09f0dff3ba68b387ba60a4b7af2c086b0e9f56d030b23b718", func := "mootbell/mootbelllaw01.OctetsTells", spec := "octetsTells", inPlace := ["internal/abi.NoEscape"], unfollowed := true, recurses := true, apart := false, narrowed := true }
def OctetsTellsUptoSaid : Prop := octetsTellsUptoRow.holds Try.pinned (OpenSpec.upto octetsTellsSpec)

/-- 'mootbelllaw01.OctetsLong', WHERE WHAT IT READS IS OF BULK AT MOST 1048576: true; the input reads as it did. -/
def octetsLongUptoRow : OpenClaim := { program := "ytagfbbflpjjbfaa", sum := "682be14b7828d8d09f0dff3ba68b387ba60a4b7af2c086b0e9f56d030b23b718", func := "mootbell/mootbelllaw01.OctetsLong", spec := "octetsLong", inPlace := ["internal/abi.NoEscape"], unfollowed := true, recurses := true, apart := false, narrowed := true }
def OctetsLongUptoSaid : Prop := octetsLongUptoRow.holds Try.pinned (OpenSpec.upto octetsLongSpec)

/-- 'mootbelllaw01.OctetsBack', WHERE WHAT IT READS IS OF BULK AT MOST 1048576: true; the input reads as it did. -/
def octetsBackUptoRow : OpenClaim := { program := "ytagfbbflpjjbfaa", sum := "682be14b7828d8d09f0dff3ba68b387ba60a4b7af2c086b0e9f56d030b23b718", func := "mootbell/mootbelllaw01.OctetsBack", spec := "octetsBack", inPlace := ["internal/abi.NoEscape"], unfollowed := true, recurses := true, apart := false, narrowed := true }
def OctetsBackUptoSaid : Prop := octetsBackUptoRow.holds Try.pinned (OpenSpec.upto octetsBackSpec)

/-- 'mootbelllaw01.OctetsSplit', WHERE WHAT IT READS IS OF BULK AT MOST 1048576: true; the input reads as it did. -/
def octetsSplitUptoRow : OpenClaim := { program := "ytagfbbflpjjbfaa", sum := "682be14b7828d8d09f0dff3ba68b387ba60a4b7af2c086b0e9f56d030b23b718", func := "mootbell/mootbelllaw01.OctetsSplit", spec := "octetsSplit", inPlace := ["internal/abi.NoEscape"], unfollowed := true, recurses := true, apart := false, narrowed := true }
def OctetsSplitUptoSaid : Prop := octetsSplitUptoRow.holds Try.pinned (OpenSpec.upto octetsSplitSpec)

/-- 'mootbelllaw01.OctetsJoin', WHERE WHAT IT READS IS OF BULK AT MOST 1048576: true; the input reads as it did. -/
def octetsJoinUptoRow : OpenClaim := { program := "ytagfbbflpjjbfaa", sum := "682be14b7828d8d09f0dff3ba68b387ba60a4b7af2c086b0e9f56d030b23b718", func := "mootbell/mootbelllaw01.OctetsJoin", spec := "octetsJoin", inPlace := ["internal/abi.NoEscape"], unfollowed := true, recurses := true, apart := false, narrowed := true }
def OctetsJoinUptoSaid : Prop := octetsJoinUptoRow.holds Try.pinned (OpenSpec.upto octetsJoinSpec)

end Rows
end Go.Proofs.Ytagfbbflpjjbfaa
