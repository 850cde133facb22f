/- Words for memory: a slice of marks. No program. -/
import Derived.Test.YtcamhaeelkjigaaBitW
import Derived.Test.YtcamhaeelkjigaaSenP
namespace Go.Proofs.Ytcamhaeelkjigaa
open Go.RowKit

/-- A mark's three cells. -/
def markCells (p : Mk) : List Value := [.int .i64 p.1, .int .i64 p.2.1, .int .i64 p.2.2]
/-- The slice value v reads as the marks l, and lies below block B. -/
def Mks (w : World) (B : Nat) (v : Value) (l : List Mk) : Prop :=
  ∃ A c, v = .slice A l.length c ∧ (l.length ≤ c ∧ (A = none → c = 0)) ∧ (0 < l.length → ∃ ad : Addr, A = some ad ∧ ad.block < B ∧ ∀ j p, l[j]? = some p → w.cell? (ad.add (j * 3)) = some (.int .i64 p.1) ∧ w.cell? (ad.add (j * 3 + 1)) = some (.int .i64 p.2.1) ∧ w.cell? (ad.add (j * 3 + 2)) = some (.int .i64 p.2.2))

section
variable {w w' : World} {B B' : Nat} {v : Value} {l : List Mk}
theorem Mks.keep (h : Mks w B v l) (hk : ∀ p : Addr, p.block < B → w'.cell? p = w.cell? p) : Mks w' B v l := by
  obtain ⟨A, c, hv, hc, ha⟩ := h
  refine ⟨A, c, hv, hc, fun hp => ?_⟩
  obtain ⟨ad, e, hb, hcell⟩ := ha hp
  exact ⟨ad, e, hb, fun j s hs => ⟨(hk _ (by rw [add_block]; exact hb)).trans (hcell j s hs).1, (hk _ (by rw [add_block]; exact hb)).trans (hcell j s hs).2.1, (hk _ (by rw [add_block]; exact hb)).trans (hcell j s hs).2.2⟩⟩
theorem Mks.below (h : Mks w B v l) (hb : Below B' w w') (hB : B ≤ B') : Mks w' B v l := h.keep fun _ hp => hb.cell (Nat.lt_of_lt_of_le hp hB)
theorem Mks.more (h : Mks w B v l) (hB : B ≤ B') : Mks w B' v l := by
  obtain ⟨A, c, hv, hc, ha⟩ := h
  refine ⟨A, c, hv, hc, fun hp => ?_⟩
  obtain ⟨ad, e, hb, hcell⟩ := ha hp
  exact ⟨ad, e, by omega, hcell⟩
theorem Mks.on (h : Mks w w.heap.size v l) (hb : Below w.heap.size w w') : Mks w' w'.heap.size v l := (h.below hb (Nat.le_refl _)).more hb.size
theorem Mks.alloc (h : Mks w w.heap.size v l) (o : Obj) : Mks (w.alloc o) (w.alloc o).heap.size v l := h.on ((Below.refl _ w).alloc (Nat.le_refl _) o)
theorem Mks.nil (w : World) (B : Nat) : Mks w B (.slice none 0 0) [] := ⟨none, 0, rfl, ⟨Nat.le_refl _, fun _ => rfl⟩, fun h => absurd h (by simp)⟩
theorem Mks.form (h : Mks w B v l) : ∃ A c, v = .slice A l.length c ∧ l.length ≤ c := by
  obtain ⟨A, c, hv, hc, _⟩ := h
  exact ⟨A, c, hv, hc.1⟩
theorem Mks.at_ {A : Option Addr} {n c k : Nat} (h : Mks w B (.slice A n c) l) (hk : k < l.length) :
    ∃ ad : Addr, A = some ad ∧ ad.block < B ∧ w.cell? (ad.add (k * 3)) = some (.int .i64 (l[k]).1) ∧ w.cell? ⟨(ad.add (k * 3)).block, (ad.add (k * 3)).off + 1, none⟩ = some (.int .i64 (l[k]).2.1) ∧ w.cell? ⟨(ad.add (k * 3)).block, (ad.add (k * 3)).off + 2, none⟩ = some (.int .i64 (l[k]).2.2) := by
  obtain ⟨A', c', hv, _, ha⟩ := h
  injection hv with h1 h2 h3
  subst h1
  obtain ⟨ad, e, hb, hc⟩ := ha (by omega)
  obtain ⟨c1, c2, c3⟩ := hc k _ (List.getElem?_eq_getElem hk)
  rw [← add_add] at c2 c3
  exact ⟨ad, e, hb, c1, c2, c3⟩
theorem Mks.first {A : Option Addr} {m c : Nat} (h : Mks w B (.slice A m c) l) (n : Nat) (hn : n ≤ l.length) : Mks w B (.slice A n c) (l.take n) := by
  obtain ⟨A', c', hv, hc, ha⟩ := h
  injection hv with h1 h2 h3
  subst h1; subst h3
  have hl : (l.take n).length = n := by rw [List.length_take]; omega
  refine ⟨A, c, by rw [hl], ⟨by omega, hc.2⟩, fun h0 => ?_⟩
  obtain ⟨ad, e, hb, hcell⟩ := ha (by omega)
  exact ⟨ad, e, hb, fun j s hs => hcell j s (by
    have hj : j < n := by
      rcases Nat.lt_or_ge j (l.take n).length with k | k
      · omega
      · rw [List.getElem?_eq_none k] at hs; cases hs
    rwa [List.getElem?_take_of_lt hj] at hs)⟩
theorem flat_marks_length : ∀ l : List Mk, (l.flatMap markCells).length = l.length * 3
  | [] => rfl
  | p :: l => by rw [List.flatMap_cons, List.length_append, flat_marks_length l, List.length_cons]; simp [markCells]; omega
theorem flat_marks_get : ∀ (l : List Mk) (j : Nat) (p : Mk), l[j]? = some p → (l.flatMap markCells)[j * 3]? = some (.int .i64 p.1) ∧ (l.flatMap markCells)[j * 3 + 1]? = some (.int .i64 p.2.1) ∧ (l.flatMap markCells)[j * 3 + 2]? = some (.int .i64 p.2.2)
  | [], j, p, h => by simp at h
  | q :: l, 0, p, h => by
    simp at h; subst h
    simp [markCells]
  | q :: l, j + 1, p, h => by
    have := flat_marks_get l j p (by simpa using h)
    rw [show (j + 1) * 3 = j * 3 + 3 by omega, List.flatMap_cons]
    simpa [markCells] using this
theorem Mks.own {base : Nat} {e : TypeId} (h : w.ownsRow base e 3 v l.length (l.flatMap markCells)) : Mks w w.heap.size v l := by
  obtain ⟨_, h⟩ := h
  rcases h with ⟨rfl, h0⟩ | ⟨g, cap, cur, rfl, _, hh, hnc, _, hcs, ht⟩
  · rw [List.eq_nil_of_length_eq_zero h0]; exact Mks.nil w _
  · refine ⟨_, cap, rfl, ⟨hnc, fun h => by cases h⟩, fun _ => ⟨⟨g, 0, none⟩, rfl, ?_, fun j s hs => ?_⟩⟩
    · show g < w.heap.size
      rcases Nat.lt_or_ge g w.heap.size with k | k
      · exact k
      · rw [Array.getElem?_eq_none k] at hh; cases hh
    · have hj : j < l.length := by
        rcases Nat.lt_or_ge j l.length with k | k
        · exact k
        · rw [List.getElem?_eq_none k] at hs; cases hs
      have e1 : ∀ i, (⟨g, 0, none⟩ : Addr).add i = ⟨g, i, none⟩ := fun i => by unfold Addr.add; split <;> simp_all
      obtain ⟨c1, c2, c3⟩ := flat_marks_get l j s hs
      rw [← ht, List.getElem?_take_of_lt (by omega)] at c1 c2 c3
      rw [e1, e1, e1, cell_of_row w g _ cur e (0, 0) hh, cell_of_row w g _ cur e (0, 0) hh, cell_of_row w g _ cur e (0, 0) hh]
      exact ⟨by simpa using c1, by simpa using c2, by simpa using c3⟩
theorem Mks.row {g : Nat} {t : TypeId} (h : RowAt w g t (l.flatMap markCells)) : Mks w w.heap.size (.slice (some ⟨g, 0, none⟩) l.length l.length) l := by
  refine ⟨_, l.length, rfl, ⟨Nat.le_refl _, fun h => by cases h⟩, fun _ => ⟨⟨g, 0, none⟩, rfl, h.lt, fun j s hs => ?_⟩⟩
  have e1 : ∀ i, (⟨g, 0, none⟩ : Addr).add i = ⟨g, i, none⟩ := fun i => by unfold Addr.add; split <;> simp_all
  obtain ⟨c1, c2, c3⟩ := flat_marks_get l j s hs
  rw [e1, e1, e1, h.cell, h.cell, h.cell]
  exact ⟨c1, c2, c3⟩
end
end Go.Proofs.Ytcamhaeelkjigaa
