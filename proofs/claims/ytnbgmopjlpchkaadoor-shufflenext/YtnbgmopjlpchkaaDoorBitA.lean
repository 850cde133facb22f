/- The small functions of package bits: fitsLen, vectorBytes, Right, mark. -/
import Derived.Test.YtnbgmopjlpchkaaDoorProg
import Derived.Test.YtnbgmopjlpchkaaDoorBitW
import Derived.Test.YtnbgmopjlpchkaaDoorBitP
import Derived.Test.YtnbgmopjlpchkaaDoorOctP
import Derived.WalkLawsBesides
import Derived.Laws.IdiomStrings
namespace Go.Proofs.YtnbgmopjlpchkaaDoor
open Go.RowKit

theorem risesFrom_take_step (n : Int) (on : List Int) (k : Nat) (hk : k < on.length) (last : Int) : risesFrom n last (on.drop k) = (decide (last < on[k]) && decide (on[k] < n) && risesFrom n on[k] (on.drop (k + 1))) := by
  rw [List.drop_eq_getElem_cons hk]; rfl

end Go.Proofs.YtnbgmopjlpchkaaDoor
