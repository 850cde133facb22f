/- slices.Index, slices.Contains at ints; bits.Has. -/
import Derived.Test.YtieheieiolobaaaGreatDoorBitB
namespace Go.Proofs.YtieheieiolobaaaGreatDoor
open Go.RowKit

/-- The first place at which x stands, or -1. -/
def idxOf (x : Int) : List Int → Int
  | [] => -1
  | y :: l => if x = y then 0 else (let r := idxOf x l; if r = -1 then -1 else r + 1)

def hasOf (n : Int) (on : List Int) (i : Int) : Bool := rightB n on && decide (i ∈ on)
end Go.Proofs.YtieheieiolobaaaGreatDoor
