/- Words for memory: a slice whose elements, of one cell each, read as a list; bits as a value. No program. -/
import Derived.Test.YtcamhaeelkjigaaOctW
import Derived.RangeFuncBox
namespace Go.Proofs.Ytcamhaeelkjigaa
open Go.RowKit

/-- The slice value v reads as the things xs, and lies below block B. -/
def Elems {α : Type} (enc : α → Value) (w : World) (B : Nat) (v : Value) (xs : List α) : Prop :=
  ∃ A c, v = .slice A xs.length c ∧ xs.length ≤ c ∧ (0 < xs.length → ∃ ad : Addr, A = some ad ∧ ad.block < B ∧ ∀ j x, xs[j]? = some x → w.cell? (ad.add j) = some (enc x))

section
variable {α : Type} {enc : α → Value} {w w' : World} {B B' : Nat} {v : Value} {xs : List α}
theorem Elems.keep (h : Elems enc w B v xs) (hk : ∀ p : Addr, p.block < B → w'.cell? p = w.cell? p) : Elems enc w' B v xs := by
  obtain ⟨A, c, hv, hc, ha⟩ := h
  refine ⟨A, c, hv, hc, fun hp => ?_⟩
  obtain ⟨ad, e, hb, hcell⟩ := ha hp
  exact ⟨ad, e, hb, fun j s hs => (hk _ (by rw [add_block]; exact hb)).trans (hcell j s hs)⟩
theorem Elems.below (h : Elems enc w B v xs) (hb : Below B' w w') (hB : B ≤ B') : Elems enc w' B v xs :=
  h.keep fun _ hp => hb.cell (Nat.lt_of_lt_of_le hp hB)
theorem Elems.more (h : Elems enc w B v xs) (hB : B ≤ B') : Elems enc w B' v xs := by
  obtain ⟨A, c, hv, hc, ha⟩ := h
  refine ⟨A, c, hv, hc, fun hp => ?_⟩
  obtain ⟨ad, e, hb, hcell⟩ := ha hp
  exact ⟨ad, e, by omega, hcell⟩
/-- Across a call that leaves all that lay. -/
theorem Elems.on (h : Elems enc w w.heap.size v xs) (hb : Below w.heap.size w w') : Elems enc w' w'.heap.size v xs := (h.below hb (Nat.le_refl _)).more hb.size
theorem Elems.alloc (h : Elems enc w w.heap.size v xs) (o : Obj) : Elems enc (w.alloc o) (w.alloc o).heap.size v xs := h.on ((Below.refl _ w).alloc (Nat.le_refl _) o)
theorem Elems.nil (enc : α → Value) (w : World) (B : Nat) : Elems enc w B (.slice none 0 0) [] := ⟨none, 0, rfl, Nat.le_refl _, fun h => absurd h (by simp)⟩
theorem Elems.own {base : Nat} {e : TypeId} (h : w.ownsRow base e 1 v xs.length (xs.map enc)) : Elems enc w w.heap.size v xs := by
  obtain ⟨_, h⟩ := h
  rcases h with ⟨rfl, h0⟩ | ⟨g, cap, cur, rfl, _, hh, hnc, _, hcs, ht⟩
  · rw [List.eq_nil_of_length_eq_zero h0]; exact Elems.nil enc w _
  · refine ⟨_, cap, rfl, hnc, fun _ => ⟨⟨g, 0, none⟩, rfl, ?_, fun j s hs => ?_⟩⟩
    · show g < w.heap.size
      rcases Nat.lt_or_ge g w.heap.size with k | k
      · exact k
      · rw [Array.getElem?_eq_none k] at hh; cases hh
    · have hj : j < xs.length := by
        rcases Nat.lt_or_ge j xs.length with k | k
        · exact k
        · rw [List.getElem?_eq_none k] at hs; cases hs
      have e1 : (⟨g, 0, none⟩ : Addr).add j = ⟨g, j, none⟩ := by unfold Addr.add; split <;> simp_all
      rw [e1, cell_of_row w g j cur e (0, 0) hh]
      have h2 : (cur.toList.take (xs.length * 1))[j]? = some (enc s) := by rw [ht]; simp [hs]
      rw [List.getElem?_take_of_lt (by omega)] at h2
      simpa using h2
theorem Elems.row {g : Nat} {t : TypeId} (h : RowAt w g t (xs.map enc)) : Elems enc w w.heap.size (.slice (some ⟨g, 0, none⟩) xs.length xs.length) xs := by
  refine ⟨_, xs.length, rfl, Nat.le_refl _, fun _ => ⟨⟨g, 0, none⟩, rfl, h.lt, fun j s hs => ?_⟩⟩
  have e1 : (⟨g, 0, none⟩ : Addr).add j = ⟨g, j, none⟩ := by unfold Addr.add; split <;> simp_all
  rw [e1, h.cell]; simp [hs]
theorem Elems.at_ {A : Option Addr} {n c k : Nat} (h : Elems enc w B (.slice A n c) xs) (hk : k < xs.length) :
    ∃ ad : Addr, A = some ad ∧ ad.block < B ∧ w.cell? (ad.add k) = some (enc xs[k]) := by
  obtain ⟨A', c', hv, _, ha⟩ := h
  injection hv with h1 h2 h3
  subst h1
  obtain ⟨ad, e, hb, hc⟩ := ha (by omega)
  exact ⟨ad, e, hb, hc k _ (List.getElem?_eq_getElem hk)⟩
theorem Elems.form (h : Elems enc w B v xs) : ∃ A c, v = .slice A xs.length c ∧ xs.length ≤ c := by
  obtain ⟨A, c, hv, hc, _⟩ := h
  exact ⟨A, c, hv, hc⟩
/-- The first n of a slice's elements. -/
theorem Elems.first {A : Option Addr} {l c : Nat} (h : Elems enc w B (.slice A l c) xs) (n : Nat) (hn : n ≤ xs.length) : Elems enc w B (.slice A n c) (xs.take n) := by
  obtain ⟨A', c', hv, hc, ha⟩ := h
  injection hv with h1 h2 h3
  subst h1; subst h3
  have hl : (xs.take n).length = n := by rw [List.length_take]; omega
  refine ⟨A, c, by rw [hl], by omega, fun h0 => ?_⟩
  obtain ⟨ad, e, hb, hcell⟩ := ha (by omega)
  exact ⟨ad, e, hb, fun j s hs => hcell j s (by
    have hj : j < n := by
      rcases Nat.lt_or_ge j (xs.take n).length with k | k
      · omega
      · rw [List.getElem?_eq_none k] at hs; cases hs
    rwa [List.getElem?_take_of_lt hj] at hs)⟩
theorem Elems.rest {ad : Addr} {l c : Nat} (h : Elems enc w B (.slice (some ad) l c) xs) (h0 : 0 < xs.length) : Elems enc w B (.slice (some (ad.add 1)) (l - 1) (c - 1)) (xs.drop 1) := by
  obtain ⟨A', c', hv, hc, ha⟩ := h
  injection hv with h1 h2 h3
  subst h3
  obtain ⟨ad', e, hb, hcell⟩ := ha h0
  rw [e] at h1
  injection h1 with h1
  subst h1
  refine ⟨_, _, by rw [h2, List.length_drop], by rw [List.length_drop]; omega, fun h5 => ⟨ad.add 1, rfl, by rw [add_block]; exact hb, fun j s hs => ?_⟩⟩
  have e1 : (ad.add 1).add j = ad.add (j + 1) := by
    unfold Addr.add
    by_cases h2 : j = 0
    · subst h2; simp
    · simp [h2]; omega
  rw [e1]
  rw [List.getElem?_drop] at hs
  exact hcell (j + 1) s (by rw [Nat.add_comm]; exact hs)
theorem Elems.rest_if {ad : Addr} {l c : Nat} (h : Elems enc w B (.slice (some ad) l c) xs) (h0 : 0 < xs.length) : Elems enc w B (.slice (if c = 1 then some ad else some ⟨ad.block, ad.off + 1, none⟩) (l - 1) (c - 1)) (xs.drop 1) := by
  by_cases hc : c = 1
  · obtain ⟨A', c', hv, hc', ha⟩ := h
    injection hv with h1 h2 h3
    rw [if_pos hc]
    have hl : (xs.drop 1).length = 0 := by rw [List.length_drop]; omega
    refine ⟨some ad, c - 1, ?_, by omega, fun h => by omega⟩
    rw [hl]
    congr 1
    omega
  · rw [if_neg hc]
    exact h.rest h0
/-- The slice's block is not g. -/
def Apart (v : Value) (g : Nat) : Prop := ∀ ad n c, v = .slice (some ad) n c → ad.block ≠ g
theorem Elems.apart_of {g : Nat} (h : Elems enc w B v xs) (hg : ∀ ad n c, v = .slice (some ad) n c → ad.block ≠ g) {p : Addr} (hp : p.block = g) (u : Value) : Elems enc (w.setCell p u) B v xs := by
  obtain ⟨A, c, hv, hc, ha⟩ := h
  refine ⟨A, c, hv, hc, fun h0 => ?_⟩
  obtain ⟨ad, e, hb, hcell⟩ := ha h0
  refine ⟨ad, e, hb, fun j s hs => ?_⟩
  subst e
  have hne := hg ad _ _ hv
  rw [World.cell?_setCell_other _ _ _ _ (fun e => ?_)]
  · exact hcell j s hs
  · have : p.block = (ad.add j).block := by rw [e]
    rw [add_block] at this
    omega
end

abbrev Ints := Elems (Value.int .i64)
/-- The value x is bits: so many, those on. -/
def Bt (w : World) (x : Value) (n : Int) (on : List Int) : Prop := ∃ v, x = .agg #[.int .i64 n, v] ∧ Ints w w.heap.size v on
theorem Bt.on {w w' : World} {x : Value} {n : Int} {on : List Int} (h : Bt w x n on) (hb : Below w.heap.size w w') : Bt w' x n on := by
  obtain ⟨v, hx, hv⟩ := h
  exact ⟨v, hx, hv.on hb⟩
theorem Bt.alloc {w : World} {x : Value} {n : Int} {on : List Int} (h : Bt w x n on) (o : Obj) : Bt (w.alloc o) x n on := h.on ((Below.refl _ w).alloc (Nat.le_refl _) o)
theorem Bt.form {w : World} {x : Value} {n : Int} {on : List Int} (h : Bt w x n on) : ∃ A c, x = .agg #[.int .i64 n, .slice A on.length c] ∧ on.length ≤ c ∧ Ints w w.heap.size (.slice A on.length c) on := by
  obtain ⟨v, hx, hv⟩ := h
  obtain ⟨A, c, rfl, hc⟩ := hv.form
  exact ⟨A, c, hx, hc, hv⟩

/-- All blocks of w but g are in w' as they were. -/
structure But (g : Nat) (w w' : World) : Prop where
  os : w'.os = w.os
  tape : w'.tape = w.tape
  output : w'.output = w.output
  size : w.heap.size ≤ w'.heap.size
  block : ∀ k, k < w.heap.size → k ≠ g → w'.heap[k]? = w.heap[k]?
theorem But.refl (g : Nat) (w : World) : But g w w := ⟨rfl, rfl, rfl, Nat.le_refl _, fun _ _ _ => rfl⟩
theorem But.trans {g : Nat} {a b c : World} (h : But g a b) (k : But g b c) : But g a c :=
  ⟨k.os.trans h.os, k.tape.trans h.tape, k.output.trans h.output, Nat.le_trans h.size k.size, fun i hi hg => (k.block i (Nat.lt_of_lt_of_le hi h.size) hg).trans (h.block i hi hg)⟩
theorem But.drew {g : Nat} {a w : World} (h : But g a w) : But g a w.drew := ⟨h.os, h.tape, h.output, h.size, h.block⟩
theorem But.setCell {g : Nat} {a w : World} (h : But g a w) (i : Nat) (u : Value) : But g a (w.setCell ⟨g, i, none⟩ u) :=
  h.trans ⟨rfl, rfl, rfl, by simp [World.setCell], fun k _ hk => Below.heap_setCell _ _ _ _ hk⟩
theorem But.of_below {g : Nat} {w w' : World} (h : Below w.heap.size w w') : But g w w' := ⟨h.os, h.tape, h.output, h.size, fun k hk _ => h.block k hk⟩
theorem But.below {g B : Nat} {a w w' : World} (h : Below B a w) (k : But g w w') (hg : B ≤ g) (hB : B ≤ w.heap.size) : Below B a w' :=
  h.trans ⟨k.os, k.tape, k.output, k.size, fun i hi => k.block i (by omega) (by omega)⟩
theorem But.cell {g : Nat} {w w' : World} (h : But g w w') {p : Addr} (hp : p.block < w.heap.size) (hg : p.block ≠ g) : w'.cell? p = w.cell? p := World.cell?_of_block (w := w) (h.block p.block hp hg)
theorem But.frozen {g : Nat} {w w' : World} (h : But g w w') {p : Addr} (hp : p.block < w.heap.size) (hg : p.block ≠ g) : w'.frozen? p = w.frozen? p := World.frozen?_of_block (w := w) (h.block p.block hp hg)
theorem But.rowAt {g k : Nat} {w w' : World} {t : TypeId} {l : List Value} (h : But g w w') (hr : RowAt w k t l) (hk : k ≠ g) : RowAt w' k t l := (h.block k hr.lt hk).trans hr
theorem Elems.but {α : Type} {enc : α → Value} {w w' : World} {B g : Nat} {v : Value} {xs : List α} (h : Elems enc w B v xs) (hB : B ≤ w.heap.size) (hb : But g w w') (hg : 0 < xs.length → ∀ ad n c, v = .slice (some ad) n c → ad.block ≠ g) : Elems enc w' B v xs := by
  obtain ⟨A, c, hv, hc, ha⟩ := h
  refine ⟨A, c, hv, hc, fun h0 => ?_⟩
  obtain ⟨ad, e, hb1, hcell⟩ := ha h0
  refine ⟨ad, e, hb1, fun j s hs => ?_⟩
  subst e
  have hne := hg h0 ad _ _ hv
  rw [hb.cell (by rw [add_block]; omega) (by rw [add_block]; exact hne)]
  exact hcell j s hs
theorem cellA {w : World} {p : Addr} {x : Value} (h : w.cell? p = some x) (o : Obj) : (w.alloc o).cell? p = some x :=
  (World.cell?_of_block (w := w) (Below.heap_alloc w o p.block (World.block_lt_of_cell? w _ h))).trans h
/-- The blocks of K are as they were. -/
def Kept (K : Nat → Prop) (w w' : World) : Prop := ∀ k, K k → w'.heap[k]? = w.heap[k]?
theorem Kept.refl (K : Nat → Prop) (w : World) : Kept K w w := fun _ _ => rfl
theorem Kept.trans {K : Nat → Prop} {a b c : World} (h : Kept K a b) (k : Kept K b c) : Kept K a c := fun i hi => (k i hi).trans (h i hi)
theorem Kept.of_below {K : Nat → Prop} {n : Nat} {a b : World} (h : Below n a b) (hK : ∀ k, K k → k < n) : Kept K a b := fun i hi => h.block i (hK i hi)
theorem Kept.cell {K : Nat → Prop} {w w' : World} (h : Kept K w w') {p : Addr} (hp : K p.block) : w'.cell? p = w.cell? p := World.cell?_of_block (w := w) (h p.block hp)
theorem Kept.setCell {K : Nat → Prop} {a w : World} (h : Kept K a w) {p : Addr} (hp : ¬ K p.block) (u : Value) : Kept K a (w.setCell p u) :=
  h.trans fun k hk => Below.heap_setCell _ _ _ _ (fun e => hp (e ▸ hk))
theorem Kept.grown {K : Nat → Prop} {a w w' : World} {row : Option Nat} (h : Kept K a w) (hg : w.grownBy w' row) (hB : ∀ k, K k → k < w.heap.size) (hr : ∀ k, row = some k → ¬ K k) : Kept K a w' :=
  h.trans fun k hk => hg.block k (hB k hk) (fun e => hr k e.symm hk)
theorem Kept.alloc {K : Nat → Prop} {a w : World} (h : Kept K a w) (hB : ∀ k, K k → k < w.heap.size) (o : Obj) : Kept K a (w.alloc o) :=
  h.trans fun k hk => Below.heap_alloc _ _ _ (hB k hk)
theorem Kept.rowAt {K : Nat → Prop} {w w' : World} {g : Nat} {t : TypeId} {l : List Value} (h : Kept K w w') (hr : RowAt w g t l) (hg : K g) : RowAt w' g t l := (h g hg).trans hr
theorem Elems.kept {α : Type} {enc : α → Value} {w w' : World} {B : Nat} {v : Value} {xs : List α} {K : Nat → Prop} (h : Elems enc w B v xs) (hk : Kept K w w') (hK : 0 < xs.length → ∀ ad n c, v = .slice (some ad) n c → K ad.block) : Elems enc w' B v xs := by
  obtain ⟨A, c, hv, hc, ha⟩ := h
  refine ⟨A, c, hv, hc, fun h0 => ?_⟩
  obtain ⟨ad, e, hb1, hcell⟩ := ha h0
  refine ⟨ad, e, hb1, fun j s hs => ?_⟩
  subst e
  rw [hk.cell (by rw [add_block]; exact hK h0 ad _ _ hv)]
  exact hcell j s hs
theorem Elems.blocks {α : Type} {enc : α → Value} {w : World} {B : Nat} {v : Value} {xs : List α} (h : Elems enc w B v xs) : 0 < xs.length → ∀ ad n c, v = .slice (some ad) n c → ad.block < B := by
  intro h0 ad n c e
  subst e
  obtain ⟨ad', e', hb, _⟩ := h.at_ h0
  injection e' with e'
  subst e'
  exact hb
/-- What the law's own book-keeping leaves. -/
theorem RowAt.stays {X Y : World} {row : Option Nat} {g : Nat} {t : TypeId} {l : List Value} (h : RowAt X g t l) (hg : X.grownBy Y row) (hrow : ∀ r, row = some r → ∃ o : Obj, X.heap[r]? = some o ∧ o.isCells = false) : RowAt Y g t l := by
  refine (hg.block g h.lt fun e => ?_).trans h
  obtain ⟨o, ho, hc⟩ := hrow g e.symm
  rw [show X.heap[g]? = _ from h] at ho
  cases ho; cases hc
theorem owns_stays {X Y : World} {row : Option Nat} {base : Nat} {e : TypeId} {size k : Nat} {v : Value} {xs : List Value} (hr : X.ownsRow base e size v k xs) (hg : X.grownBy Y row) (hrow : ∀ r, row = some r → ∃ o : Obj, X.heap[r]? = some o ∧ o.isCells = false) : Y.ownsRow base e size v k xs := by
  refine hr.kept hg ?_
  rcases hr.2 with ⟨rfl, _⟩ | ⟨g, cap, cur, rfl, _, hgb, _⟩
  · exact .inl rfl
  · refine .inr fun e' => ?_
    obtain ⟨o, ho, hc⟩ := hrow g (by simpa [Value.ownBlock] using e'.symm)
    rw [hgb] at ho; cases ho; cases hc
theorem RowAt.not_row {W : World} {B : Nat} {t e : TypeId} {l : List Value} (h : RowAt W B t l) (hte : t ≠ e) {base size k : Nat} {v : Value} {xs : List Value} (hr : W.ownsRow base e size v k xs) : some B ≠ v.ownBlock := by
  rcases hr.2 with ⟨rfl, _⟩ | ⟨g, cap, cur, rfl, _, hgb, _⟩
  · simp [Value.ownBlock]
  · intro e'
    obtain rfl : B = g := by simpa [Value.ownBlock] using e'
    have := (show W.heap[B]? = _ from h).symm.trans hgb
    simp at this
    exact hte this.2
theorem RowAt.grown {W W' : World} {row : Option Nat} {B : Nat} {t : TypeId} {l : List Value} (h : RowAt W B t l) (hg : W.grownBy W' row) (hne : some B ≠ row) : RowAt W' B t l := (hg.block B h.lt hne).trans h
theorem own_block_from {W : World} {base : Nat} {e : TypeId} {size k j : Nat} {v : Value} {xs : List Value} (hr : W.ownsRow base e size v k xs) (hj : v.ownBlock = some j) : base ≤ j := by
  rcases hr.2 with ⟨rfl, _⟩ | ⟨g, cap, cur, rfl, hb, _, _⟩
  · simp [Value.ownBlock] at hj
  · obtain rfl : g = j := by simpa [Value.ownBlock] using hj
    exact hb
theorem own_block_cells {W : World} {base : Nat} {e : TypeId} {size k j : Nat} {v : Value} {xs : List Value} (hr : W.ownsRow base e size v k xs) (hj : v.ownBlock = some j) : ∀ o, W.heap[j]? = some o → o.isCells = true := by
  rcases hr.2 with ⟨rfl, _⟩ | ⟨g, cap, cur, rfl, hb, hgb, _⟩
  · simp [Value.ownBlock] at hj
  · obtain rfl : g = j := by simpa [Value.ownBlock] using hj
    intro o ho
    rw [hgb] at ho; cases ho; rfl
/-- 'x.f = append(x.f, ..)', x a struct in a box, its slice behind cell i. -/
theorem keepsOthers_append {W w1 : World} {n₀ : Nat} {e : TypeId} {size : Nat} {v : Value} {k : Nat} {xs : List Value} {tmp : Obj} (hrow : W.ownsRow n₀ e size v k xs) (hgrow : (W.alloc tmp).grownBy w1 v.ownBlock) (p : Addr) (u : Value) : KeepsOthers W (w1.setCell p u) := by
  refine ((KeepsOthers.alloc W tmp).trans (KeepsOthers.of_grownBy hgrow fun j o ej hj => ?_)).trans (KeepsOthers.setCell _ _ _)
  exact own_block_cells (hrow.alloc tmp) ej o hj
theorem below_append {W w1 : World} {n₀ B : Nat} {e : TypeId} {size : Nat} {v : Value} {k : Nat} {xs : List Value} {tmp : Obj} (hrow : W.ownsRow n₀ e size v k xs) (hgrow : (W.alloc tmp).grownBy w1 v.ownBlock) (hB : B ≤ n₀) (hn : B ≤ W.heap.size) {p : Addr} (hp : B ≤ p.block) (u : Value) : Below B W (w1.setCell p u) :=
  (((Below.refl B W).alloc hn tmp).grown hgrow (by simp; omega) fun _ ej => Nat.le_trans hB (own_block_from hrow ej)).setCell hp u
theorem kept_append {W w1 : World} {n₀ : Nat} {K : Nat → Prop} {e : TypeId} {size : Nat} {v : Value} {k : Nat} {xs : List Value} {tmp : Obj} (hrow : W.ownsRow n₀ e size v k xs) (hgrow : (W.alloc tmp).grownBy w1 v.ownBlock) (hK : ∀ k, K k → k < n₀) (hn : n₀ ≤ W.heap.size) {p : Addr} (hp : ¬ K p.block) (u : Value) : Kept K W (w1.setCell p u) :=
  (((Kept.refl K W).alloc (fun k hk => Nat.lt_of_lt_of_le (hK k hk) hn) tmp).grown hgrow (fun k hk => by have := hK k hk; simp; omega) fun j ej hj => by have := own_block_from hrow ej; have := hK j hj; omega).setCell hp u
theorem rowAt_append {W w1 : World} {n₀ g : Nat} {e t : TypeId} {size : Nat} {v : Value} {k : Nat} {xs l : List Value} {tmp : Obj} (hrow : W.ownsRow n₀ e size v k xs) (hgrow : (W.alloc tmp).grownBy w1 v.ownBlock) (h : RowAt W g t l) (hg : g < n₀) : RowAt w1 g t l :=
  (h.alloc tmp).grown hgrow fun ej => by have := own_block_from hrow ej.symm; omega
theorem fromOn_own {w : World} {base : Nat} {e : TypeId} {size n : Nat} {v : Value} {xs : List Value} (h : w.ownsRow base e size v n xs) : FromOn base v := by
  obtain ⟨_, h⟩ := h
  intro ad n' c' e'
  rcases h with ⟨rfl, h0⟩ | ⟨g, cap, cur, rfl, hg, _⟩
  · cases e'
  · injection e' with e1 _ _
    injection e1 with e1
    subst e1
    exact hg
theorem cell_new1 (w : World) (v : Value) (t : TypeId) : (w.alloc (.cells #[v] t)).cell? ⟨w.heap.size, 0, none⟩ = some v := (RowAt.new w t #[v]).cell 0
theorem add_add (a : Addr) (m n : Nat) : (a.add m).add n = a.add (m + n) := by
  unfold Addr.add
  by_cases h1 : m = 0
  · subst h1; simp
  · by_cases h2 : n = 0
    · subst h2; simp
    · have h3 : ¬ m + n = 0 := by omega
      simp [h1, h2, Nat.add_assoc]
theorem RowAt.on {w w' : World} {g : Nat} {t : TypeId} {l : List Value} (h : RowAt w g t l) (hb : Below w.heap.size w w') : RowAt w' g t l := h.below hb h.lt
theorem RowAt.one {w : World} {g : Nat} {t : TypeId} {x : Value} (h : RowAt w g t [x]) : w.cell? ⟨g, 0, none⟩ = some x := h.cell 0
theorem RowAt.two {w : World} {g : Nat} {t : TypeId} {x y : Value} (h : RowAt w g t [x, y]) : w.cell? ⟨g, 0, none⟩ = some x ∧ w.cell? ⟨g, 1, none⟩ = some y := ⟨h.cell 0, h.cell 1⟩
theorem addr0 (g j : Nat) : (⟨g, 0, none⟩ : Addr).add j = ⟨g, j, none⟩ := by unfold Addr.add; split <;> simp_all
/-- A struct of a thing and a slice, whose array, if it has one, is block lo or a later one. -/
def Newer (lo : Nat) (x : Value) : Prop := ∀ (h : Value) (ad : Addr) (n c : Nat), x = .agg #[h, .slice (some ad) n c] → lo ≤ ad.block
theorem Newer.none (lo : Nat) (h : Value) (n c : Nat) : Newer lo (.agg #[h, .slice none n c]) := fun h' ad n' c' e => by
  injection e with e
  have e2 : #[h, Value.slice Option.none n c].toList = #[h', Value.slice (Option.some ad) n' c'].toList := by rw [e]
  simp at e2
theorem Newer.some {lo : Nat} {h : Value} {ad : Addr} {n c : Nat} (hl : lo ≤ ad.block) : Newer lo (.agg #[h, .slice (some ad) n c]) := fun h' ad' n' c' e => by
  injection e with e
  have e2 : #[h, Value.slice (Option.some ad) n c].toList = #[h', Value.slice (Option.some ad') n' c'].toList := by rw [e]
  simp at e2
  rw [← e2.2.1]; exact hl
theorem Newer.from {lo : Nat} {h v : Value} (hn : Newer lo (.agg #[h, v])) : FromOn lo v := fun ad n c e => hn h ad n c (by rw [e])
theorem Newer.less {lo lo' : Nat} {x : Value} (hn : Newer lo x) (hl : lo' ≤ lo) : Newer lo' x := fun h ad n c e => Nat.le_trans hl (hn h ad n c e)
theorem Bt.setNew {w : World} {x : Value} {n : Int} {on : List Int} {lo : Nat} (h : Bt w x n on) (hn : Newer lo x) {p : Addr} (hp : p.block < lo) (u : Value) : Bt (w.setCell p u) x n on := by
  obtain ⟨v, rfl, hv⟩ := h
  refine ⟨v, rfl, ?_⟩
  have := Elems.apart_of hv (g := p.block) (fun ad m c e => by have := hn.from ad m c e; omega) (p := p) rfl u
  simpa [World.setCell] using this
end Go.Proofs.Ytcamhaeelkjigaa
