/- The small functions of package octets: demand, fitsWord, number, and the door of attempt.
   Bytes and numbers of package octets. -/
import Derived.Test.YtjipibpcnheniaaDoorProg
import Derived.WalkKit
import Derived.WalkSpells
import Derived.WalkLawsBesides
import Derived.Defers
import Derived.Recover
import Derived.Lib.Hide
import Derived.Test.YtjipibpcnheniaaDoorChuQ
namespace Go.Proofs.YtjipibpcnheniaaDoor
open Go.RowKit

def fits (n : Int) : Bool := decide (1 ≤ n) && decide (n ≤ 8)
theorem fits_iff (n : Int) : fits n = true ↔ 1 ≤ n ∧ n ≤ 8 := by simp [fits]
theorem fitsWord_any (n : Int) (w : World) :
    Calls Tryd.prog 74 #[.int .i64 n] w fun e w' => e = .returned (.bool (fits n)) ∧ w = w' := by
  by_cases h : 1 ≤ n
  · go_enter Tryd.func74, Tryd.ntmps74
    go_wp2
    go_ret
    exact ⟨by simp [fits, h], rfl⟩
  · go_enter Tryd.func74, Tryd.ntmps74
    go_wp2
    go_ret
    exact ⟨by simp [fits]; omega, rfl⟩

theorem assert_errno (y : Int) (w : World) : (Instr.typeAssert (.iface 36 (.int .i64 y)) 20 36 false).run Tryd.prog w = .ok (.int .i64 y) w := by
  simp [Instr.typeAssert, run_underlying Tryd.underlying36, go_sem, Result.andThen]

end Go.Proofs.YtjipibpcnheniaaDoor

namespace Go.Proofs.YtjipibpcnheniaaDoor
open Go.RowKit

theorem ret_int {k : IntKind} {a b : Int} (h : a = b) : Ending.returned (.int k a) = .returned (.int k b) := by rw [h]

end Go.Proofs.YtjipibpcnheniaaDoor
