/- The small functions of package bits: fitsLen, vectorBytes, Right, mark.
   bits.mark. -/
import Derived.Test.YtjipibpcnheniaaDoorProg
import Derived.Test.YtjipibpcnheniaaDoorBitW
import Derived.Test.YtjipibpcnheniaaDoorBitP
import Derived.Test.YtjipibpcnheniaaDoorChuQ
import Derived.WalkLawsBesides
import Derived.Laws.IdiomStrings
namespace Go.Proofs.YtjipibpcnheniaaDoor
open Go.RowKit

theorem risesFrom_take_step (n : Int) (on : List Int) (k : Nat) (hk : k < on.length) (last : Int) : risesFrom n last (on.drop k) = (decide (last < on[k]) && decide (on[k] < n) && risesFrom n on[k] (on.drop (k + 1))) := by
  rw [List.drop_eq_getElem_cons hk]; rfl

end Go.Proofs.YtjipibpcnheniaaDoor

namespace Go.Proofs.YtjipibpcnheniaaDoor
open Go.RowKit

theorem mark_cell (l : List UInt8) (i : Nat) (hi : i / 8 < l.length) : (byteVals l)[i / 8]? = some (.int .u8 ((l.getD (i / 8) 0).toNat : Int)) := by
  simp [byteVals, List.getElem?_eq_getElem hi, List.getD_eq_getElem?_getD]
theorem mark_or (a : UInt8) (r : Nat) (hr : r < 8) : bits .or .u8 (a.toNat : Int) (2 ^ r % 256) = ((UInt8.ofNat (a.toNat ||| 2 ^ r)).toNat : Int) := by
  have h1 := pow_lt_256 r hr
  have h2 := UInt8.toNat_lt a
  have e : (2 : Int) ^ r % 256 = ((2 ^ r : Nat) : Int) := by
    have h3 : ((2 ^ r : Nat) : Int) = 2 ^ r := by simp
    rw [← h3]
    generalize 2 ^ r = y at *
    omega
  rw [e, u8_or_nat _ _ (by omega) h1, UInt8.toNat_ofNat_of_lt' (or_lt_256 _ _ (by omega) h1)]
theorem mark_row (l : List UInt8) (i : Nat) : (byteVals l).set (i / 8) (.int .u8 ((UInt8.ofNat ((l.getD (i / 8) 0).toNat ||| 2 ^ (i % 8))).toNat : Int)) = byteVals (putBit l i) := by
  simp [byteVals, putBit, List.map_set]

end Go.Proofs.YtjipibpcnheniaaDoor
