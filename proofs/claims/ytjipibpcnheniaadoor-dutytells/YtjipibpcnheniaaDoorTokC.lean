/- The document's own answers for layer 5: Merge. -/
import Derived.Test.YtjipibpcnheniaaDoorTokB
import Derived.Deep.RegionHeld3
namespace Go.Proofs.YtjipibpcnheniaaDoor
open Go.RowKit

abbrev Tok := Bool × List Pr
def allRight (ts : List Tok) : Bool := ts.all fun t => rightT t.2
def tSumLen (ts : List Tok) : Nat := (ts.map fun t => t.2.length).sum
/-- What Merge tells: the error, Forged, the pairs. -/
def mergeT (ts : List Tok) : Int × Bool × List Pr :=
  if allRight ts = false then (1, false, []) else if 2048 < tSumLen ts then (4, false, []) else (0, ts.any (·.1), mrgAll (ts.map (·.2)))
theorem sumLen_take_le (ts : List Tok) (k : Nat) : tSumLen (ts.take k) ≤ tSumLen ts := by
  conv => rhs; rw [← List.take_append_drop k ts]
  unfold tSumLen
  rw [List.map_append, List.sum_append]; omega
theorem sumLen_snoc (ts : List Tok) (k : Nat) (hk : k < ts.length) : tSumLen (ts.take (k + 1)) = tSumLen (ts.take k) + (ts[k]).2.length := by
  unfold tSumLen
  rw [List.take_succ_eq_append_getElem hk, List.map_append, List.sum_append]; simp
theorem any_snoc (ts : List Tok) (k : Nat) (hk : k < ts.length) : (ts.take (k + 1)).any (·.1) = ((ts.take k).any (·.1) || (ts[k]).1) := by
  rw [List.take_succ_eq_append_getElem hk, List.any_append]; simp
theorem mrgAll_snoc (ts : List Tok) (k : Nat) (hk : k < ts.length) : mrgAll ((ts.take (k + 1)).map (·.2)) = mrg (mrgAll ((ts.take k).map (·.2))) (ts[k]).2 := by
  unfold mrgAll
  rw [List.take_succ_eq_append_getElem hk, List.map_append, List.foldl_append]; rfl
theorem mrgAll_len (ts : List Tok) : (mrgAll (ts.map (·.2))).length = tSumLen ts := by
  rw [mrgAll_length, List.map_map]; rfl
theorem allRight_not {ts : List Tok} {k : Nat} (hk : k < ts.length) (h : rightT (ts[k]).2 = false) : allRight ts = false := by
  cases e : allRight ts
  · rfl
  · have := List.all_eq_true.1 e _ (List.getElem_mem hk)
    rw [h] at this; cases this
theorem right_len {l : List Pr} (h : rightT l = true) : l.length ≤ 2048 := by
  unfold rightT at h
  simp at h
  exact h.2

/- a token's two cells set -/
theorem set_two {w W : World} {g : Nat} {t : TypeId} {x y : Value} (hb : Below w.heap.size w W) (hg : w.heap.size ≤ g) (r : RowAt W g t [x, y]) (x' y' : Value) :
    RowAt ((W.setCell ⟨g, 0, none⟩ x').setCell ⟨g, 1, none⟩ y') g t [x', y'] ∧ Below w.heap.size w ((W.setCell ⟨g, 0, none⟩ x').setCell ⟨g, 1, none⟩ y') :=
  ⟨(r.set 0 x').set 1 y', (hb.setCell (p := ⟨g, 0, none⟩) hg _).setCell (p := ⟨g, 1, none⟩) hg _⟩
theorem Prs.sz {w : World} {p : Addr} {u v : Value} {l : List Pr} (h : Prs (w.setCell p u) w.heap.size v l) : Prs (w.setCell p u) (w.setCell p u).heap.size v l := by simpa [World.setCell] using h
theorem Tk.empty (W : World) : Tk W (.agg #[.bool false, .slice none 0 0]) false [] := ⟨_, rfl, Prs.nil _ _⟩

end Go.Proofs.YtjipibpcnheniaaDoor
