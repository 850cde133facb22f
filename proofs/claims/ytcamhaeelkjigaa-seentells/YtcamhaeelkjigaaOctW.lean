/- Words for memory: a block known whole, a slice of strings that reads as a list. No program. -/
import Derived.WalkKit
import Derived.WalkSpells
import Derived.Below
import Derived.Laws.OwnMore
import Derived.Deep.Draws
import Derived.Lib.Hide
namespace Go.Proofs.Ytcamhaeelkjigaa
open Go.RowKit

/-- Block g is just the cells l, of element type t, none of them frozen. -/
def RowAt (w : World) (g : Nat) (t : TypeId) (l : List Value) : Prop := w.heap[g]? = some (.cells l.toArray t (0, 0))

theorem RowAt.lt {w : World} {g : Nat} {t : TypeId} {l : List Value} (h : RowAt w g t l) : g < w.heap.size := by
  rcases Nat.lt_or_ge g w.heap.size with k | k
  · exact k
  · unfold RowAt at h; rw [Array.getElem?_eq_none k] at h; cases h
theorem RowAt.cell {w : World} {g : Nat} {t : TypeId} {l : List Value} (h : RowAt w g t l) (i : Nat) : w.cell? ⟨g, i, none⟩ = l[i]? := by
  have := cell_of_row w g i l.toArray t (0, 0) h
  rw [this]; simp
theorem RowAt.frozen {w : World} {g : Nat} {t : TypeId} {l : List Value} (h : RowAt w g t l) (i : Nat) : w.frozen? ⟨g, i, none⟩ = false := by
  unfold RowAt at h
  simp [World.frozen?, h]
theorem RowAt.new (w : World) (t : TypeId) (cs : Array Value) : RowAt (w.alloc (.cells cs t)) w.heap.size t cs.toList := by
  unfold RowAt
  have := heap_alloc_new w (.cells cs t)
  simpa using this
theorem RowAt.set {w : World} {g : Nat} {t : TypeId} {l : List Value} (h : RowAt w g t l) (i : Nat) (u : Value) : RowAt (w.setCell ⟨g, i, none⟩ u) g t (l.set i u) := by
  unfold RowAt at h ⊢
  simp [World.setCell, Array.getElem?_modify, h]
theorem RowAt.far {w : World} {g : Nat} {t : TypeId} {l : List Value} (h : RowAt w g t l) {p : Addr} (hp : g ≠ p.block) (u : Value) : RowAt (w.setCell p u) g t l :=
  (Below.heap_setCell w p u g hp).trans h
theorem RowAt.below {w w' : World} {B g : Nat} {t : TypeId} {l : List Value} (h : RowAt w g t l) (hb : Below B w w') (hg : g < B) : RowAt w' g t l := (hb.block g hg).trans h
theorem RowAt.alloc {w : World} {g : Nat} {t : TypeId} {l : List Value} (h : RowAt w g t l) (o : Obj) : RowAt (w.alloc o) g t l := (Below.heap_alloc w o g h.lt).trans h

theorem bcell {W w1 : World} {B : Nat} (hb : Below B W w1) : (∀ b o, b < B → w1.cell? ⟨b, o, none⟩ = W.cell? ⟨b, o, none⟩) ∧ (∀ b o, b < B → w1.frozen? ⟨b, o, none⟩ = W.frozen? ⟨b, o, none⟩) :=
  ⟨fun b o h => hb.cell (p := ⟨b, o, none⟩) h, fun b o h => hb.frozen (p := ⟨b, o, none⟩) h⟩

/-- The slice value v reads as the strings ss, and lies below block B. -/
def Strs (w : World) (B : Nat) (v : Value) (ss : List ByteArray) : Prop :=
  ∃ A c, v = .slice A ss.length c ∧ ss.length ≤ c ∧ (0 < ss.length → ∃ ad : Addr, A = some ad ∧ ad.block < B ∧ ∀ j s, ss[j]? = some s → w.cell? (ad.add j) = some (.string s))

theorem add_block (a : Addr) (n : Nat) : (a.add n).block = a.block := by unfold Addr.add; split <;> rfl

theorem Strs.keep {w w' : World} {B : Nat} {v : Value} {ss : List ByteArray} (h : Strs w B v ss) (hk : ∀ p : Addr, p.block < B → w'.cell? p = w.cell? p) : Strs w' B v ss := by
  obtain ⟨A, c, hv, hc, ha⟩ := h
  refine ⟨A, c, hv, hc, fun hp => ?_⟩
  obtain ⟨ad, e, hb, hcell⟩ := ha hp
  exact ⟨ad, e, hb, fun j s hs => (hk _ (by rw [add_block]; exact hb)).trans (hcell j s hs)⟩
theorem Strs.below {w w' : World} {B B' : Nat} {v : Value} {ss : List ByteArray} (h : Strs w B v ss) (hb : Below B' w w') (hB : B ≤ B') : Strs w' B v ss :=
  h.keep fun _ hp => hb.cell (Nat.lt_of_lt_of_le hp hB)
theorem Strs.more {w : World} {B B' : Nat} {v : Value} {ss : List ByteArray} (h : Strs w B v ss) (hB : B ≤ B') : Strs w B' v ss := by
  obtain ⟨A, c, hv, hc, ha⟩ := h
  refine ⟨A, c, hv, hc, fun hp => ?_⟩
  obtain ⟨ad, e, hb, hcell⟩ := ha hp
  exact ⟨ad, e, by omega, hcell⟩
theorem Strs.nil (w : World) (B : Nat) : Strs w B (.slice none 0 0) [] := ⟨none, 0, rfl, Nat.le_refl _, fun h => absurd h (by simp)⟩
theorem Strs.own {w : World} {base : Nat} {e : TypeId} {v : Value} {ss : List ByteArray} (h : w.ownsRow base e 1 v ss.length (ss.map Value.string)) : Strs w w.heap.size v ss := by
  obtain ⟨_, h⟩ := h
  rcases h with ⟨rfl, h0⟩ | ⟨g, cap, cur, rfl, _, hh, hnc, _, hcs, ht⟩
  · rw [List.eq_nil_of_length_eq_zero h0]; exact Strs.nil w _
  · refine ⟨_, cap, rfl, hnc, fun _ => ⟨⟨g, 0, none⟩, rfl, ?_, fun j s hs => ?_⟩⟩
    · show g < w.heap.size
      rcases Nat.lt_or_ge g w.heap.size with k | k
      · exact k
      · rw [Array.getElem?_eq_none k] at hh; cases hh
    · have hj : j < ss.length := by
        rcases Nat.lt_or_ge j ss.length with k | k
        · exact k
        · rw [List.getElem?_eq_none k] at hs; cases hs
      have e1 : (⟨g, 0, none⟩ : Addr).add j = ⟨g, j, none⟩ := by unfold Addr.add; split <;> simp_all
      rw [e1, cell_of_row w g j cur e (0, 0) hh]
      have h2 : (cur.toList.take (ss.length * 1))[j]? = some (.string s) := by rw [ht]; simp [hs]
      rw [List.getElem?_take_of_lt (by omega)] at h2
      simpa using h2
theorem Strs.row {w : World} {g : Nat} {t : TypeId} {ss : List ByteArray} (h : RowAt w g t (ss.map Value.string)) : Strs w w.heap.size (.slice (some ⟨g, 0, none⟩) ss.length ss.length) ss := by
  refine ⟨_, ss.length, rfl, Nat.le_refl _, fun _ => ⟨⟨g, 0, none⟩, rfl, h.lt, fun j s hs => ?_⟩⟩
  have e1 : (⟨g, 0, none⟩ : Addr).add j = ⟨g, j, none⟩ := by unfold Addr.add; split <;> simp_all
  rw [e1, h.cell]; simp [hs]
theorem Strs.at_ {w : World} {B : Nat} {A : Option Addr} {n c k : Nat} {ss : List ByteArray} (h : Strs w B (.slice A n c) ss) (hk : k < ss.length) :
    ∃ ad : Addr, A = some ad ∧ ad.block < B ∧ w.cell? (ad.add k) = some (.string ss[k]) := by
  obtain ⟨A', c', hv, _, ha⟩ := h
  injection hv with h1 h2 h3
  subst h1
  obtain ⟨ad, e, hb, hc⟩ := ha (by omega)
  exact ⟨ad, e, hb, hc k _ (List.getElem?_eq_getElem hk)⟩
theorem Strs.form {w : World} {B : Nat} {v : Value} {ss : List ByteArray} (h : Strs w B v ss) : ∃ A c, v = .slice A ss.length c ∧ ss.length ≤ c := by
  obtain ⟨A, c, hv, hc, _⟩ := h
  exact ⟨A, c, hv, hc⟩

/-- The slice's array, if it has one, is block lo or a later one. -/
def FromOn (lo : Nat) (v : Value) : Prop := ∀ ad n c, v = .slice (some ad) n c → lo ≤ ad.block
theorem FromOn.less {lo lo' : Nat} {v : Value} (h : FromOn lo v) (hl : lo' ≤ lo) : FromOn lo' v := fun ad n c e => Nat.le_trans hl (h ad n c e)
theorem Strs.setCell {w : World} {B lo : Nat} {v : Value} {ss : List ByteArray} (h : Strs w B v ss) (hf : FromOn lo v) {p : Addr} (hp : p.block < lo) (u : Value) : Strs (w.setCell p u) B v ss := by
  obtain ⟨A, c, hv, hc, ha⟩ := h
  refine ⟨A, c, hv, hc, fun h0 => ?_⟩
  obtain ⟨ad, e, hb, hcell⟩ := ha h0
  refine ⟨ad, e, hb, fun j s hs => ?_⟩
  subst e
  have hlo := hf ad _ _ hv
  rw [World.cell?_setCell_other _ _ _ _ (fun e => ?_)]
  · exact hcell j s hs
  · have : p.block = (ad.add j).block := by rw [e]
    rw [add_block] at this
    omega
theorem Strs.setCell_size {w : World} {v : Value} {ss : List ByteArray} {p : Addr} {u : Value} (h : Strs (w.setCell p u) w.heap.size v ss) : Strs (w.setCell p u) (w.setCell p u).heap.size v ss := by
  simpa [World.setCell] using h
end Go.Proofs.Ytcamhaeelkjigaa
