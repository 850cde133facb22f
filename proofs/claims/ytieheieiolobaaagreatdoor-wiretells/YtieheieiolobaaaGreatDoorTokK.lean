/- The program's Keys. -/
import Derived.Test.YtieheieiolobaaaGreatDoorTokG
import Derived.Test.YtieheieiolobaaaGreatDoorTokL
import Derived.Test.YtieheieiolobaaaGreatDoorOctD
namespace Go.Proofs.YtieheieiolobaaaGreatDoor
open Go.RowKit

/-- The first k keys, the rest 0. -/
def keyRow (l : List Pr) (k : Nat) : List Value := (l.take k).map (fun p => Value.int .u64 (p.1 : Int)) ++ List.replicate (l.length - k) (.int .u64 0)
theorem keyRow_cell (l : List Pr) (k : Nat) (h : k < l.length) : (keyRow l k)[k]? = some (.int .u64 0) := by
  unfold keyRow
  rw [List.getElem?_append_right (by simp <;> omega)]
  simp only [List.length_map, List.length_take]
  rw [show k - min k l.length = 0 by omega, List.getElem?_replicate, if_pos (by omega)]
theorem keyRow_set (l : List Pr) (k : Nat) (h : k < l.length) : (keyRow l k).set k (.int .u64 ((l[k]).1 : Int)) = keyRow l (k + 1) := by
  unfold keyRow
  have hlen : ((l.take k).map (fun p => Value.int .u64 (p.1 : Int))).length = k := by simp; omega
  rw [List.set_append_right _ _ (by omega), hlen, Nat.sub_self, show l.length - k = (l.length - (k + 1)) + 1 by omega, List.replicate_succ, List.set_cons_zero, List.take_succ_eq_append_getElem h, List.map_append]
  simp
theorem keyRow_zero (l : List Pr) : keyRow l 0 = List.replicate l.length (.int .u64 0) := by simp [keyRow]
theorem keyRow_all (l : List Pr) : keyRow l l.length = (l.map (·.1)).map (fun n : Nat => Value.int .u64 (n : Int)) := by
  simp [keyRow]

end Go.Proofs.YtieheieiolobaaaGreatDoor
