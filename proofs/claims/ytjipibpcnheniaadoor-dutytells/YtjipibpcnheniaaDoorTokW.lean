/- Words for memory: a slice of pairs, tokens, a slice of tokens. No program. -/
import Derived.Test.YtjipibpcnheniaaDoorBitW
import Derived.Test.YtjipibpcnheniaaDoorTokP
namespace Go.Proofs.YtjipibpcnheniaaDoor
open Go.RowKit

/-- A pair's two cells. -/
def pairCells (p : Pr) : List Value := [.int .u64 (p.1 : Int), .int .u64 (p.2 : Int)]
/-- The slice value v reads as the pairs l, and lies below block B. -/
def Prs (w : World) (B : Nat) (v : Value) (l : List Pr) : Prop :=
  ∃ A c, v = .slice A l.length c ∧ (l.length ≤ c ∧ (A = none → c = 0)) ∧ (0 < l.length → ∃ ad : Addr, A = some ad ∧ ad.block < B ∧ ∀ j p, l[j]? = some p → w.cell? (ad.add (j * 2)) = some (.int .u64 (p.1 : Int)) ∧ w.cell? (ad.add (j * 2 + 1)) = some (.int .u64 (p.2 : Int)))

section
variable {w w' : World} {B B' : Nat} {v : Value} {l : List Pr}
theorem Prs.keep (h : Prs w B v l) (hk : ∀ p : Addr, p.block < B → w'.cell? p = w.cell? p) : Prs w' B v l := by
  obtain ⟨A, c, hv, hc, ha⟩ := h
  refine ⟨A, c, hv, hc, fun hp => ?_⟩
  obtain ⟨ad, e, hb, hcell⟩ := ha hp
  exact ⟨ad, e, hb, fun j s hs => ⟨(hk _ (by rw [add_block]; exact hb)).trans (hcell j s hs).1, (hk _ (by rw [add_block]; exact hb)).trans (hcell j s hs).2⟩⟩
theorem Prs.below (h : Prs w B v l) (hb : Below B' w w') (hB : B ≤ B') : Prs w' B v l := h.keep fun _ hp => hb.cell (Nat.lt_of_lt_of_le hp hB)
theorem Prs.more (h : Prs w B v l) (hB : B ≤ B') : Prs w B' v l := by
  obtain ⟨A, c, hv, hc, ha⟩ := h
  refine ⟨A, c, hv, hc, fun hp => ?_⟩
  obtain ⟨ad, e, hb, hcell⟩ := ha hp
  exact ⟨ad, e, by omega, hcell⟩
theorem Prs.on (h : Prs w w.heap.size v l) (hb : Below w.heap.size w w') : Prs w' w'.heap.size v l := (h.below hb (Nat.le_refl _)).more hb.size
theorem Prs.alloc (h : Prs w w.heap.size v l) (o : Obj) : Prs (w.alloc o) (w.alloc o).heap.size v l := h.on ((Below.refl _ w).alloc (Nat.le_refl _) o)
theorem Prs.nil (w : World) (B : Nat) : Prs w B (.slice none 0 0) [] := ⟨none, 0, rfl, ⟨Nat.le_refl _, fun _ => rfl⟩, fun h => absurd h (by simp)⟩
theorem Prs.form (h : Prs w B v l) : ∃ A c, v = .slice A l.length c ∧ l.length ≤ c := by
  obtain ⟨A, c, hv, hc, _⟩ := h
  exact ⟨A, c, hv, hc.1⟩
theorem Prs.some_of {A : Option Addr} {n c : Nat} (h : Prs w B (.slice A n c) l) (hc : c ≠ l.length) : ∃ ad, A = some ad := by
  obtain ⟨A', c', hv, hc', _⟩ := h
  injection hv with h1 h2 h3
  subst h1; subst h3
  cases A with
  | some ad => exact ⟨ad, rfl⟩
  | none => have := hc'.2 rfl; have := hc'.1; omega
theorem Prs.at_ {A : Option Addr} {n c k : Nat} (h : Prs w B (.slice A n c) l) (hk : k < l.length) :
    ∃ ad : Addr, A = some ad ∧ ad.block < B ∧ w.cell? (ad.add (k * 2)) = some (.int .u64 ((l[k]).1 : Int)) ∧ w.cell? ⟨(ad.add (k * 2)).block, (ad.add (k * 2)).off + 1, none⟩ = some (.int .u64 ((l[k]).2 : Int)) := by
  obtain ⟨A', c', hv, _, ha⟩ := h
  injection hv with h1 h2 h3
  subst h1
  obtain ⟨ad, e, hb, hc⟩ := ha (by omega)
  obtain ⟨c1, c2⟩ := hc k _ (List.getElem?_eq_getElem hk)
  rw [← add_add] at c2
  exact ⟨ad, e, hb, c1, c2⟩
theorem Prs.first {A : Option Addr} {m c : Nat} (h : Prs w B (.slice A m c) l) (n : Nat) (hn : n ≤ l.length) : Prs w B (.slice A n c) (l.take n) := by
  obtain ⟨A', c', hv, hc, ha⟩ := h
  injection hv with h1 h2 h3
  subst h1; subst h3
  have hl : (l.take n).length = n := by rw [List.length_take]; omega
  refine ⟨A, c, by rw [hl], ⟨by omega, hc.2⟩, fun h0 => ?_⟩
  obtain ⟨ad, e, hb, hcell⟩ := ha (by omega)
  exact ⟨ad, e, hb, fun j s hs => hcell j s (by
    have hj : j < n := by
      rcases Nat.lt_or_ge j (l.take n).length with k | k
      · omega
      · rw [List.getElem?_eq_none k] at hs; cases hs
    rwa [List.getElem?_take_of_lt hj] at hs)⟩
theorem flat_pairs_length : ∀ l : List Pr, (l.flatMap pairCells).length = l.length * 2
  | [] => rfl
  | p :: l => by rw [List.flatMap_cons, List.length_append, flat_pairs_length l, List.length_cons]; simp [pairCells]; omega
theorem flat_pairs_get : ∀ (l : List Pr) (j : Nat) (p : Pr), l[j]? = some p → (l.flatMap pairCells)[j * 2]? = some (.int .u64 (p.1 : Int)) ∧ (l.flatMap pairCells)[j * 2 + 1]? = some (.int .u64 (p.2 : Int))
  | [], j, p, h => by simp at h
  | q :: l, 0, p, h => by
    simp at h; subst h
    simp [pairCells]
  | q :: l, j + 1, p, h => by
    have := flat_pairs_get l j p (by simpa using h)
    rw [show (j + 1) * 2 = j * 2 + 2 by omega, List.flatMap_cons]
    simpa [pairCells] using this
theorem Prs.own {base : Nat} {e : TypeId} (h : w.ownsRow base e 2 v l.length (l.flatMap pairCells)) : Prs w w.heap.size v l := by
  obtain ⟨_, h⟩ := h
  rcases h with ⟨rfl, h0⟩ | ⟨g, cap, cur, rfl, _, hh, hnc, _, hcs, ht⟩
  · rw [List.eq_nil_of_length_eq_zero h0]; exact Prs.nil w _
  · refine ⟨_, cap, rfl, ⟨hnc, fun h => by cases h⟩, fun _ => ⟨⟨g, 0, none⟩, rfl, ?_, fun j s hs => ?_⟩⟩
    · show g < w.heap.size
      rcases Nat.lt_or_ge g w.heap.size with k | k
      · exact k
      · rw [Array.getElem?_eq_none k] at hh; cases hh
    · have hj : j < l.length := by
        rcases Nat.lt_or_ge j l.length with k | k
        · exact k
        · rw [List.getElem?_eq_none k] at hs; cases hs
      have e1 : ∀ i, (⟨g, 0, none⟩ : Addr).add i = ⟨g, i, none⟩ := fun i => by unfold Addr.add; split <;> simp_all
      obtain ⟨c1, c2⟩ := flat_pairs_get l j s hs
      rw [← ht, List.getElem?_take_of_lt (by omega)] at c1 c2
      rw [e1, e1, cell_of_row w g _ cur e (0, 0) hh, cell_of_row w g _ cur e (0, 0) hh]
      exact ⟨by simpa using c1, by simpa using c2⟩
theorem Prs.row {g : Nat} {t : TypeId} (h : RowAt w g t (l.flatMap pairCells)) : Prs w w.heap.size (.slice (some ⟨g, 0, none⟩) l.length l.length) l := by
  refine ⟨_, l.length, rfl, ⟨Nat.le_refl _, fun h => by cases h⟩, fun _ => ⟨⟨g, 0, none⟩, rfl, h.lt, fun j s hs => ?_⟩⟩
  have e1 : ∀ i, (⟨g, 0, none⟩ : Addr).add i = ⟨g, i, none⟩ := fun i => by unfold Addr.add; split <;> simp_all
  obtain ⟨c1, c2⟩ := flat_pairs_get l j s hs
  rw [e1, e1, h.cell, h.cell]
  exact ⟨c1, c2⟩
end

/-- The value x is a token. -/
def Tk (w : World) (x : Value) (f : Bool) (l : List Pr) : Prop := ∃ v, x = .agg #[.bool f, v] ∧ Prs w w.heap.size v l
theorem Tk.on {w w' : World} {x : Value} {f : Bool} {l : List Pr} (h : Tk w x f l) (hb : Below w.heap.size w w') : Tk w' x f l := by
  obtain ⟨v, hx, hv⟩ := h
  exact ⟨v, hx, hv.on hb⟩
theorem Tk.alloc {w : World} {x : Value} {f : Bool} {l : List Pr} (h : Tk w x f l) (o : Obj) : Tk (w.alloc o) x f l := h.on ((Below.refl _ w).alloc (Nat.le_refl _) o)
theorem Tk.form {w : World} {x : Value} {f : Bool} {l : List Pr} (h : Tk w x f l) : ∃ A c, x = .agg #[.bool f, .slice A l.length c] ∧ l.length ≤ c ∧ Prs w w.heap.size (.slice A l.length c) l := by
  obtain ⟨v, hx, hv⟩ := h
  obtain ⟨A, c, rfl, hc⟩ := hv.form
  exact ⟨A, c, hx, hc, hv⟩
/-- The slice value v reads as the tokens ts. -/
def TkRow (w : World) (v : Value) (ts : List (Bool × List Pr)) : Prop :=
  ∃ A c, v = .slice A ts.length c ∧ ts.length ≤ c ∧ (0 < ts.length → ∃ ad : Addr, A = some ad ∧ ad.block < w.heap.size ∧ ∀ j b, ts[j]? = some b → ∃ u, w.cell? (ad.add (j * 2)) = some (.bool b.1) ∧ w.cell? (ad.add (j * 2 + 1)) = some u ∧ Prs w w.heap.size u b.2)
theorem TkRow.on {w w' : World} {v : Value} {ts : List (Bool × List Pr)} (h : TkRow w v ts) (hb : Below w.heap.size w w') : TkRow w' v ts := by
  obtain ⟨A, c, hv, hc, ha⟩ := h
  refine ⟨A, c, hv, hc, fun h0 => ?_⟩
  obtain ⟨ad, e, hb1, hcell⟩ := ha h0
  refine ⟨ad, e, Nat.lt_of_lt_of_le hb1 hb.size, fun j b hj => ?_⟩
  obtain ⟨u, h1, h2, h3⟩ := hcell j b hj
  exact ⟨u, (hb.cell (by rw [add_block]; exact hb1)).trans h1, (hb.cell (by rw [add_block]; exact hb1)).trans h2, h3.on hb⟩
theorem TkRow.form {w : World} {v : Value} {ts : List (Bool × List Pr)} (h : TkRow w v ts) : ∃ A c, v = .slice A ts.length c ∧ ts.length ≤ c := by
  obtain ⟨A, c, hv, hc, _⟩ := h
  exact ⟨A, c, hv, hc⟩
theorem TkRow.at_ {w : World} {A : Option Addr} {n c k : Nat} {ts : List (Bool × List Pr)} (h : TkRow w (.slice A n c) ts) (hk : k < ts.length) :
    ∃ (ad : Addr) (u : Value), A = some ad ∧ ad.block < w.heap.size ∧ w.cell? (ad.add (k * 2)) = some (.bool ts[k].1) ∧ w.cell? ⟨(ad.add (k * 2)).block, (ad.add (k * 2)).off + 1, none⟩ = some u ∧ Prs w w.heap.size u ts[k].2 := by
  obtain ⟨A', c', hv, _, ha⟩ := h
  injection hv with h1 h2 h3
  subst h1
  obtain ⟨ad, e, hb, hc⟩ := ha (by omega)
  obtain ⟨u, c1, c2, c3⟩ := hc k _ (List.getElem?_eq_getElem hk)
  rw [← add_add] at c2
  exact ⟨ad, u, e, hb, c1, c2, c3⟩
theorem TkRow.nil (w : World) : TkRow w (.slice none 0 0) [] := ⟨none, 0, rfl, Nat.le_refl _, fun h => absurd h (by simp)⟩
end Go.Proofs.YtjipibpcnheniaaDoor
