/- The small functions of package octets: demand, fitsWord, number, and the door of attempt. -/
import Derived.Test.YtjjccoliknngcaaProg
import Derived.WalkKit
import Derived.WalkSpells
import Derived.WalkLawsBesides
import Derived.Defers
import Derived.Recover
import Derived.Lib.Hide
namespace Go.Proofs.Ytjjccoliknngcaa
open Go.RowKit

def fits (n : Int) : Bool := decide (1 ≤ n) && decide (n ≤ 8)
theorem fits_iff (n : Int) : fits n = true ↔ 1 ≤ n ∧ n ≤ 8 := by simp [fits]
theorem assert_errno (y : Int) (w : World) : (Instr.typeAssert (.iface 32 (.int .i64 y)) 20 32 false).run Try.prog w = .ok (.int .i64 y) w := by
  simp [Instr.typeAssert, run_underlying Try.underlying32, go_sem, Result.andThen]

end Go.Proofs.Ytjjccoliknngcaa
