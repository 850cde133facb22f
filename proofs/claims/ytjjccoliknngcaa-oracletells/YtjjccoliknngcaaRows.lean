/-
  No cell of these rows narrows 'for every input' (looked for: loops, veiled, ifaces, maps, wideKeys, modest, calm, conditions, laid).
  DERIVED. THE GIVEN ROWS OF THIS SEAT. 6 by the template 'for every input the law returns true; each argument reads behind the call as it read before'; 0 by the template 'total and deterministic' (their statements: YtjjccoliknngcaaTotals.lean).
  GIVEN WITH THE SEED: the statements are not yours to turn. If you find one false, say at which input.
  Laid BY PROGRAM, IN A SANDBOX (cutbox-rows.mjs): the forced cells as the released guide's own fill.sh prints them over the translation e8ea82dc5420dd62… (all of the seat's roots in one cut). By AI agents, Wed Nov 11 2026. No macro, syntax, notation, axiom, sorry.
-/
import Derived.Test.YtjjccoliknngcaaChecked
import GoSem.Claim
import GoSem.ClaimJoined
import GoSem.ClaimMapViews
import Derived.JoinedTies
import Derived.KernelRfl
namespace Go.Proofs.Ytjjccoliknngcaa
/- THE CELL 'sum', in the pinned program and in every row, IS THE sha256 OF THE DUMP (.gsa) THAT YtjjccoliknngcaaProg.lean LOADS. Nothing in Lean hashes anything: it is a label: what it is worth is what the hold of that sum in a sandbox is worth. -/
noncomputable def Try.pinned : Pinned := { name := "ytjjccoliknngcaa", sum := "e8ea82dc5420dd62212c9531aa884d561aee243b814d6e10eaa690eacdba3b07", checked := Try.checked }
namespace Rows
def none {H : Type} : Left H := { results := [], args := [] }

/-- 'mootbelllaw07.OracleTells': WHATEVER THE INPUT: true; the input reads as it did. -/
def oracleTellsSpec : ChangeSpec := { name := "oracleTells", fn := fun _ => fun
  | [d1, d2, d3, d4, d5, d6, d7, d8, d9] => { results := [.lit (.bool true)], args := [d1, d2, d3, d4, d5, d6, d7, d8, d9] }
  | _ => none }
def oracleTellsRow : OpenClaim := { program := "ytjjccoliknngcaa", sum := "e8ea82dc5420dd62212c9531aa884d561aee243b814d6e10eaa690eacdba3b07", func := "mootbell/mootbelllaw07.OracleTells", spec := "oracleTells", unfollowed := true, recurses := true, apart := false }
def OracleTellsSaid : Prop := oracleTellsRow.holds Try.pinned (OpenSpec.ofChange oracleTellsSpec)

/-- ITS FALSE NEIGHBOUR: 'it returns false'. Refute it at one input. -/
def oracleTellsWrong : ChangeSpec := { name := "oracleTells", fn := fun _ => fun
  | [d1, d2, d3, d4, d5, d6, d7, d8, d9] => { results := [.lit (.bool false)], args := [d1, d2, d3, d4, d5, d6, d7, d8, d9] }
  | _ => none }
def OracleTellsWrongFalsely : Prop := oracleTellsRow.holds Try.pinned (OpenSpec.ofChange oracleTellsWrong)

/-- 'mootbelllaw07.OracleOne': WHATEVER THE INPUT: true; the input reads as it did. -/
def oracleOneSpec : ChangeSpec := { name := "oracleOne", fn := fun _ => fun
  | [d1, d2, d3, d4, d5, d6] => { results := [.lit (.bool true)], args := [d1, d2, d3, d4, d5, d6] }
  | _ => none }
def oracleOneRow : OpenClaim := { program := "ytjjccoliknngcaa", sum := "e8ea82dc5420dd62212c9531aa884d561aee243b814d6e10eaa690eacdba3b07", func := "mootbell/mootbelllaw07.OracleOne", spec := "oracleOne", unfollowed := true, recurses := true, apart := false }
def OracleOneSaid : Prop := oracleOneRow.holds Try.pinned (OpenSpec.ofChange oracleOneSpec)

/-- ITS FALSE NEIGHBOUR: 'it returns false'. Refute it at one input. -/
def oracleOneWrong : ChangeSpec := { name := "oracleOne", fn := fun _ => fun
  | [d1, d2, d3, d4, d5, d6] => { results := [.lit (.bool false)], args := [d1, d2, d3, d4, d5, d6] }
  | _ => none }
def OracleOneWrongFalsely : Prop := oracleOneRow.holds Try.pinned (OpenSpec.ofChange oracleOneWrong)

/-- 'mootbelllaw07.OracleForged': WHATEVER THE INPUT: true; the input reads as it did. -/
def oracleForgedSpec : ChangeSpec := { name := "oracleForged", fn := fun _ => fun
  | [d1, d2, d3, d4, d5] => { results := [.lit (.bool true)], args := [d1, d2, d3, d4, d5] }
  | _ => none }
def oracleForgedRow : OpenClaim := { program := "ytjjccoliknngcaa", sum := "e8ea82dc5420dd62212c9531aa884d561aee243b814d6e10eaa690eacdba3b07", func := "mootbell/mootbelllaw07.OracleForged", spec := "oracleForged", unfollowed := true, recurses := true, apart := false }
def OracleForgedSaid : Prop := oracleForgedRow.holds Try.pinned (OpenSpec.ofChange oracleForgedSpec)

/-- ITS FALSE NEIGHBOUR: 'it returns false'. Refute it at one input. -/
def oracleForgedWrong : ChangeSpec := { name := "oracleForged", fn := fun _ => fun
  | [d1, d2, d3, d4, d5] => { results := [.lit (.bool false)], args := [d1, d2, d3, d4, d5] }
  | _ => none }
def OracleForgedWrongFalsely : Prop := oracleForgedRow.holds Try.pinned (OpenSpec.ofChange oracleForgedWrong)

/-- 'mootbelllaw07.OracleMore': WHATEVER THE INPUT: true; the input reads as it did. -/
def oracleMoreSpec : ChangeSpec := { name := "oracleMore", fn := fun _ => fun
  | [d1, d2, d3, d4, d5] => { results := [.lit (.bool true)], args := [d1, d2, d3, d4, d5] }
  | _ => none }
def oracleMoreRow : OpenClaim := { program := "ytjjccoliknngcaa", sum := "e8ea82dc5420dd62212c9531aa884d561aee243b814d6e10eaa690eacdba3b07", func := "mootbell/mootbelllaw07.OracleMore", spec := "oracleMore", unfollowed := true, recurses := true, apart := false }
def OracleMoreSaid : Prop := oracleMoreRow.holds Try.pinned (OpenSpec.ofChange oracleMoreSpec)

/-- ITS FALSE NEIGHBOUR: 'it returns false'. Refute it at one input. -/
def oracleMoreWrong : ChangeSpec := { name := "oracleMore", fn := fun _ => fun
  | [d1, d2, d3, d4, d5] => { results := [.lit (.bool false)], args := [d1, d2, d3, d4, d5] }
  | _ => none }
def OracleMoreWrongFalsely : Prop := oracleMoreRow.holds Try.pinned (OpenSpec.ofChange oracleMoreWrong)

/-- 'mootbelllaw07.OracleMerge': WHATEVER THE INPUT: true; the input reads as it did. -/
def oracleMergeSpec : ChangeSpec := { name := "oracleMerge", fn := fun _ => fun
  | [d1, d2, d3, d4] => { results := [.lit (.bool true)], args := [d1, d2, d3, d4] }
  | _ => none }
def oracleMergeRow : OpenClaim := { program := "ytjjccoliknngcaa", sum := "e8ea82dc5420dd62212c9531aa884d561aee243b814d6e10eaa690eacdba3b07", func := "mootbell/mootbelllaw07.OracleMerge", spec := "oracleMerge", unfollowed := true, recurses := true, apart := false }
def OracleMergeSaid : Prop := oracleMergeRow.holds Try.pinned (OpenSpec.ofChange oracleMergeSpec)

/-- ITS FALSE NEIGHBOUR: 'it returns false'. Refute it at one input. -/
def oracleMergeWrong : ChangeSpec := { name := "oracleMerge", fn := fun _ => fun
  | [d1, d2, d3, d4] => { results := [.lit (.bool false)], args := [d1, d2, d3, d4] }
  | _ => none }
def OracleMergeWrongFalsely : Prop := oracleMergeRow.holds Try.pinned (OpenSpec.ofChange oracleMergeWrong)

/-- 'mootbelllaw07.OracleSign': WHATEVER THE INPUT: true; the input reads as it did. -/
def oracleSignSpec : ChangeSpec := { name := "oracleSign", fn := fun _ => fun
  | [d1, d2, d3] => { results := [.lit (.bool true)], args := [d1, d2, d3] }
  | _ => none }
def oracleSignRow : OpenClaim := { program := "ytjjccoliknngcaa", sum := "e8ea82dc5420dd62212c9531aa884d561aee243b814d6e10eaa690eacdba3b07", func := "mootbell/mootbelllaw07.OracleSign", spec := "oracleSign", unfollowed := true, recurses := true, apart := false }
def OracleSignSaid : Prop := oracleSignRow.holds Try.pinned (OpenSpec.ofChange oracleSignSpec)

/-- ITS FALSE NEIGHBOUR: 'it returns false'. Refute it at one input. -/
def oracleSignWrong : ChangeSpec := { name := "oracleSign", fn := fun _ => fun
  | [d1, d2, d3] => { results := [.lit (.bool false)], args := [d1, d2, d3] }
  | _ => none }
def OracleSignWrongFalsely : Prop := oracleSignRow.holds Try.pinned (OpenSpec.ofChange oracleSignWrong)

/- THE SECOND FORM. 'bulk': how many values and letters a reading holds, each counted each time it is reached (what is shared counts as often as it is met; a slice's spare places count too). A statement '..UptoSaid' is the law's where the arguments, and the package variables that the reading takes, are together of bulk at most 1048576: NARROWER than '..Said'. Prove '..Said' where nothing that the law and all that it calls make is longer than what came in: it says more and counts as full. Else prove '..UptoSaid'. A law counts once. -/
mutual
def uptoBulk {H : Type} : DataW H → Nat
  | .lit (.string bytes) => bytes.length + 1
  | .lit _ => 1
  | .nil => 1
  | .ptr d => uptoBulk d + 1
  | .slice elems spare => uptoBulkAll elems + uptoBulkAll spare + 1
  | .agg parts => uptoBulkAll parts + 1
  | .iface _ d => uptoBulk d + 1
  | .map entries => uptoBulkEntries entries + 1
  | .held _ => 1
def uptoBulkAll {H : Type} : List (DataW H) → Nat
  | [] => 0
  | d :: r => uptoBulk d + uptoBulkAll r
def uptoBulkEntries {H : Type} : List (Lit × DataW H) → Nat
  | [] => 0
  | x :: r => uptoBulkEntry x + uptoBulkEntries r
def uptoBulkEntry {H : Type} : Lit × DataW H → Nat
  | (.string bytes, d) => bytes.length + uptoBulk d + 1
  | (_, d) => uptoBulk d + 1
 end
def uptoSmall : (H : Type) → List (DataW H) → Bool := fun _ ds => decide (uptoBulkAll ds ≤ 1048576)
def OpenSpec.upto (s : _root_.Go.ChangeSpec) : _root_.Go.OpenSpec := { _root_.Go.OpenSpec.ofChange s with cond := some uptoSmall }

/-- 'mootbelllaw07.OracleTells', WHERE WHAT IT READS IS OF BULK AT MOST 1048576: true; the input reads as it did. -/
def oracleTellsUptoRow : OpenClaim := { program := "ytjjccoliknngcaa", sum := "e8ea82dc5420dd62212c9531aa884d561aee243b814d6e10eaa690eacdba3b07", func := "mootbell/mootbelllaw07.OracleTells", spec := "oracleTells", unfollowed := true, recurses := true, apart := false, narrowed := true }
def OracleTellsUptoSaid : Prop := oracleTellsUptoRow.holds Try.pinned (OpenSpec.upto oracleTellsSpec)

/-- 'mootbelllaw07.OracleOne', WHERE WHAT IT READS IS OF BULK AT MOST 1048576: true; the input reads as it did. -/
def oracleOneUptoRow : OpenClaim := { program := "ytjjccoliknngcaa", sum := "e8ea82dc5420dd62212c9531aa884d561aee243b814d6e10eaa690eacdba3b07", func := "mootbell/mootbelllaw07.OracleOne", spec := "oracleOne", unfollowed := true, recurses := true, apart := false, narrowed := true }
def OracleOneUptoSaid : Prop := oracleOneUptoRow.holds Try.pinned (OpenSpec.upto oracleOneSpec)

/-- 'mootbelllaw07.OracleForged', WHERE WHAT IT READS IS OF BULK AT MOST 1048576: true; the input reads as it did. -/
def oracleForgedUptoRow : OpenClaim := { program := "ytjjccoliknngcaa", sum := "e8ea82dc5420dd62212c9531aa884d561aee243b814d6e10eaa690eacdba3b07", func := "mootbell/mootbelllaw07.OracleForged", spec := "oracleForged", unfollowed := true, recurses := true, apart := false, narrowed := true }
def OracleForgedUptoSaid : Prop := oracleForgedUptoRow.holds Try.pinned (OpenSpec.upto oracleForgedSpec)

/-- 'mootbelllaw07.OracleMore', WHERE WHAT IT READS IS OF BULK AT MOST 1048576: true; the input reads as it did. -/
def oracleMoreUptoRow : OpenClaim := { program := "ytjjccoliknngcaa", sum := "e8ea82dc5420dd62212c9531aa884d561aee243b814d6e10eaa690eacdba3b07", func := "mootbell/mootbelllaw07.OracleMore", spec := "oracleMore", unfollowed := true, recurses := true, apart := false, narrowed := true }
def OracleMoreUptoSaid : Prop := oracleMoreUptoRow.holds Try.pinned (OpenSpec.upto oracleMoreSpec)

/-- 'mootbelllaw07.OracleMerge', WHERE WHAT IT READS IS OF BULK AT MOST 1048576: true; the input reads as it did. -/
def oracleMergeUptoRow : OpenClaim := { program := "ytjjccoliknngcaa", sum := "e8ea82dc5420dd62212c9531aa884d561aee243b814d6e10eaa690eacdba3b07", func := "mootbell/mootbelllaw07.OracleMerge", spec := "oracleMerge", unfollowed := true, recurses := true, apart := false, narrowed := true }
def OracleMergeUptoSaid : Prop := oracleMergeUptoRow.holds Try.pinned (OpenSpec.upto oracleMergeSpec)

/-- 'mootbelllaw07.OracleSign', WHERE WHAT IT READS IS OF BULK AT MOST 1048576: true; the input reads as it did. -/
def oracleSignUptoRow : OpenClaim := { program := "ytjjccoliknngcaa", sum := "e8ea82dc5420dd62212c9531aa884d561aee243b814d6e10eaa690eacdba3b07", func := "mootbell/mootbelllaw07.OracleSign", spec := "oracleSign", unfollowed := true, recurses := true, apart := false, narrowed := true }
def OracleSignUptoSaid : Prop := oracleSignUptoRow.holds Try.pinned (OpenSpec.upto oracleSignSpec)

end Rows
end Go.Proofs.Ytjjccoliknngcaa
