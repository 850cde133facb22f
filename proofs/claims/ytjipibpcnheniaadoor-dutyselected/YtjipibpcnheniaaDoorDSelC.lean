/- DutySelected: the walk, as the card wants it. -/
import Derived.Test.YtjipibpcnheniaaDoorDLawSelectedW
import Derived.OpenShut
namespace Go.Proofs.YtjipibpcnheniaaDoor
open Go.RowKit Go.Lib

theorem dsel_calls {n0 n1 n2 n3 n4 n5 : Int} (b0 : I64K n0) (b1 : I64K n1) (b2 : I64K n2) (b3 : I64K n3) (b4 : I64K n4) (b5 : I64K n5) (a1 : Int) (w1 : (Lit.int .i64 a1).wf = true) (xs : List Int) (v : Value) {w : World} (s : Ints w w.heap.size v xs) (b : ∀ r ∈ xs, -9223372036854775808 ≤ r ∧ r ≤ 9223372036854775807) (l : xs.length ≤ maxLen) (f : Bool) (hT : Both w) :
    Calls Tryd.prog 7 #[.agg #[.int .i64 n0, .int .i64 n1, .int .i64 n2, .int .i64 n3, .int .i64 n4, .int .i64 n5], .int .i64 a1, v, .bool f] w fun o w' => o = .returned (.bool true) ∧ Below w.heap.size w w' :=
  dsel_walk n0 n1 n2 n3 n4 n5 a1 b0 b1 b2 b3 b4 b5 (bounds_i64 w1) v xs f w s b l hT
end Go.Proofs.YtjipibpcnheniaaDoor
