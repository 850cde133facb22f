/- The library's contract for slices.SortFunc over pairs, laid at this program. -/
import Derived.Test.YtieheieiolobaaaGreatDoorProg
import Derived.Shelf.Lay
namespace Go.Proofs
open Go.Shelf
end Go.Proofs
