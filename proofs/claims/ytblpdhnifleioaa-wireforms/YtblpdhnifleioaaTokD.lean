/- The document's own answers for layer 5: Encode. -/
import Derived.Test.YtblpdhnifleioaaTokL
import Derived.Test.YtblpdhnifleioaaRefP
namespace Go.Proofs.Ytblpdhnifleioaa
open Go.RowKit

/-- What Encode tells: the bytes, the error. -/
def encT (f : Bool) (l : List Pr) : List UInt8 × Int := if rightT l then (encB f l, 0) else ([], 1)
theorem enc_take (f : Bool) (l : List Pr) (k : Nat) (hk : k < l.length) :
    (⟨(encB f (l.take k)).toArray⟩ : ByteArray) ++ ⟨(leBytes (l[k]).1 8).toArray⟩ ++ ⟨(leBytes (l[k]).2 8).toArray⟩ = ⟨(encB f (l.take (k + 1))).toArray⟩ := by
  apply ByteArray.ext
  unfold encB
  rw [List.take_succ_eq_append_getElem hk, List.flatMap_append]
  simp [pairBytes]

end Go.Proofs.Ytblpdhnifleioaa
