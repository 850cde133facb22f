/- slices.SortFunc over pairs, by token.order: the pairs in their order.
   The program's Merge. -/
import Derived.Test.YtieheieiolobaaaGreatDoorTokG
import Derived.Test.YtieheieiolobaaaGreatDoorShelfB
namespace Go.Proofs.YtieheieiolobaaaGreatDoor
open Go.RowKit Go.Shelf
open Go.Sort hiding Below

end Go.Proofs.YtieheieiolobaaaGreatDoor

namespace Go.Proofs.YtieheieiolobaaaGreatDoor
open Go.RowKit

theorem sumLen_le_mul (ts : List Tok) (h : ∀ j (h : j < ts.length), (ts[j]).2.length ≤ 2048) : tSumLen ts ≤ 2048 * ts.length := by
  induction ts with
  | nil => simp [tSumLen]
  | cons a l ih =>
    have h1 := h 0 (by simp)
    have h2 := ih fun j hj => h (j + 1) (by simp; omega)
    unfold tSumLen at *
    simp only [List.map_cons, List.sum_cons, List.length_cons]
    simp at h1
    omega

theorem flat_snoc2 (ts : List Tok) (k : Nat) (hk : k < ts.length) : ((ts.take (k + 1)).map (·.2)).flatten = ((ts.take k).map (·.2)).flatten ++ (ts[k]).2 := by
  rw [List.take_succ_eq_append_getElem hk, List.map_append, List.flatten_append]; simp
theorem pairs_cells {w : World} {B : Nat} {ad : Addr} {m c : Nat} {l : List Pr} (h : Prs w B (.slice (some ad) m c) l) : ∀ j u, (l.flatMap pairCells)[j]? = some u → w.cell? (ad.add j) = some u := by
  intro j u hj
  have := pairs_from h 0 j u (by simpa using hj)
  rwa [add_add, Nat.zero_mul, Nat.zero_add] at this
theorem sumLen_flat (ts : List Tok) : ((ts.map (·.2)).flatten).length = tSumLen ts := by
  rw [List.length_flatten, List.map_map]; rfl

end Go.Proofs.YtieheieiolobaaaGreatDoor
