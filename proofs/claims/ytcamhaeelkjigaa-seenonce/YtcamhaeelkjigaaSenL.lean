/- Layer 13, plain facts for SeenOnce: the table of marks that were had; rows of memory that are written into. (No program.) -/
import Derived.Test.YtcamhaeelkjigaaSenG
import Derived.Deep.MidRow
namespace Go.Proofs.Ytcamhaeelkjigaa
open Go.RowKit

/-- The mark of a place in the table. -/
def mkAt (j : Nat) : Mk := (((j / 18 : Nat) : Int), ((j % 18 / 6 : Nat) : Int), ((j % 6 : Nat) : Int))
def hadL (l : List Mk) : List Value := (List.range 90).map fun j => .bool (decide (mkAt j ∈ l))
theorem hadL_len (l : List Mk) : (hadL l).length = 90 := by simp [hadL]
theorem hadL_at (l : List Mk) (j : Nat) (h : j < 90) : (hadL l)[j]? = some (.bool (decide (mkAt j ∈ l))) := by
  unfold hadL
  rw [List.getElem?_map, List.getElem?_range h]
  rfl
theorem mkAt_of {a b c : Nat} (ha : a < 5) (hb : b < 3) (hc : c < 6) : mkAt (a * 18 + b * 6 + c) = ((a : Int), (b : Int), (c : Int)) := by
  unfold mkAt
  rw [show (a * 18 + b * 6 + c) / 18 = a by omega, show (a * 18 + b * 6 + c) % 18 / 6 = b by omega, show (a * 18 + b * 6 + c) % 6 = c by omega]
theorem mkAt_inj {j a b c : Nat} (h : mkAt j = ((a : Int), (b : Int), (c : Int))) (hb : b < 3) (hc : c < 6) : j = a * 18 + b * 6 + c := by
  unfold mkAt at h
  simp only [Prod.mk.injEq] at h
  omega
theorem hadL_get (l : List Mk) {a b c : Nat} (ha : a < 5) (hb : b < 3) (hc : c < 6) : (hadL l)[a * 18 + b * 6 + c]? = some (.bool (decide (((a : Int), (b : Int), (c : Int)) ∈ l))) := by
  rw [hadL_at l _ (by omega), mkAt_of ha hb hc]
theorem hadL_ext {l : List Mk} {vs : List Value} (hl : vs.length = 90) (h : ∀ j, j < 90 → vs[j]? = some (.bool (decide (mkAt j ∈ l)))) : vs = hadL l := by
  apply List.ext_getElem?
  intro j
  rcases Nat.lt_or_ge j 90 with k | k
  · rw [h j k, hadL_at l j k]
  · rw [List.getElem?_eq_none (by omega), List.getElem?_eq_none (by rw [hadL_len]; omega)]
theorem hadL_set (l l' : List Mk) {a b c : Nat} (ha : a < 5) (hb : b < 3) (hc : c < 6) (hm : ∀ x, x ∈ l' ↔ x = ((a : Int), (b : Int), (c : Int)) ∨ x ∈ l) : (hadL l).set (a * 18 + b * 6 + c) (.bool true) = hadL l' := by
  refine hadL_ext (by rw [List.length_set, hadL_len]) fun j hj => ?_
  rw [List.getElem?_set]
  split
  · rename_i h
    subst h
    rw [if_pos (by rw [hadL_len]; omega), mkAt_of ha hb hc, decide_eq_true ((hm _).2 (.inl rfl))]
  · rename_i h
    rw [hadL_at l j hj]
    refine congrArg (fun b => some (Value.bool b)) ?_
    rw [decide_eq_decide, hm]
    constructor
    · exact .inr
    · rintro (h1 | h1)
      · exact absurd (mkAt_inj h1 hb hc).symm h
      · exact h1
def setL (l : List Value) : Nat → List Value → List Value
  | _, [] => l
  | o, v :: r => setL (l.set o v) (o + 1) r
theorem setL_len (vs : List Value) : ∀ (l : List Value) (o : Nat), (setL l o vs).length = l.length := by
  induction vs with
  | nil => intro l o; rfl
  | cons v r ih => intro l o; rw [setL, ih, List.length_set]
theorem setL_get (vs : List Value) : ∀ (l : List Value) (o j : Nat), o + vs.length ≤ l.length → (setL l o vs)[j]? = if o ≤ j ∧ j < o + vs.length then vs[j - o]? else l[j]? := by
  induction vs with
  | nil => intro l o j _; rw [if_neg (by simp)]; rfl
  | cons v r ih =>
    intro l o j h
    rw [List.length_cons] at h
    rw [setL, ih (l.set o v) (o + 1) j (by rw [List.length_set]; omega)]
    by_cases h1 : o + 1 ≤ j ∧ j < o + 1 + r.length
    · rw [if_pos h1, if_pos (by rw [List.length_cons]; omega), show j - o = (j - (o + 1)) + 1 by omega, List.getElem?_cons_succ]
    · rw [if_neg h1, List.getElem?_set]
      by_cases h2 : o = j
      · subst h2
        rw [if_pos rfl, if_pos (by omega), if_pos (by rw [List.length_cons]; omega), Nat.sub_self]; rfl
      · rw [if_neg h2, if_neg (by rw [List.length_cons]; omega)]
theorem hadL_prune (l : List Mk) (x : Nat) (hx : x < 5) : setL (hadL (pruneM x l)) (x * 18) (List.replicate 18 (.bool false)) = hadL (pruneM ((x + 1 : Nat) : Int) l) := by
  refine hadL_ext (by rw [setL_len, hadL_len]) fun j hj => ?_
  rw [setL_get _ _ _ _ (by rw [hadL_len, List.length_replicate]; omega), List.length_replicate]
  by_cases h : x * 18 ≤ j ∧ j < x * 18 + 18
  · rw [if_pos h, List.getElem?_replicate, if_pos (by omega)]
    refine congrArg (fun b => some (Value.bool b)) ?_
    symm
    refine decide_eq_false fun h1 => ?_
    have h2 := (mem_prune.1 h1).2
    unfold mkAt at h2
    simp only at h2
    omega
  · rw [if_neg h, hadL_at _ j hj]
    refine congrArg (fun b => some (Value.bool b)) ?_
    rw [decide_eq_decide, mem_prune, mem_prune]
    have : ((x : Nat) : Int) ≤ (mkAt j).1 ↔ ((x + 1 : Nat) : Int) ≤ (mkAt j).1 := by
      unfold mkAt
      simp only
      omega
    rw [this]
theorem prune_none {l : List Mk} (h : ∀ m ∈ l, FewM m) : pruneM 0 l = l := by
  unfold pruneM
  exact List.filter_eq_self.2 fun m hm => by simpa using (h m hm).1
theorem prune_all {l : List Mk} (h : ∀ m ∈ l, FewM m) {k : Int} (hk : 5 ≤ k) : pruneM k l = [] := by
  unfold pruneM
  refine List.filter_eq_nil_iff.2 fun m hm => ?_
  have := (h m hm).2.1
  simp
  omega
section
variable {w : World} {g : Nat} {t : TypeId}
theorem RowAt.setCells (cs : List Value) : ∀ (w : World) (l : List Value) (o : Nat), RowAt w g t l → RowAt (w.setCells g o cs) g t (setL l o cs) := by
  induction cs with
  | nil => intro w l o h; exact h
  | cons v r ih => intro w l o h; exact ih _ _ _ (h.set o v)
theorem Below.setCells {B : Nat} {a : World} (cs : List Value) (hp : B ≤ g) : ∀ (w : World) (o : Nat), Below B a w → Below B a (w.setCells g o cs) := by
  induction cs with
  | nil => intro w o h; exact h
  | cons v r ih => intro w o h; exact ih _ _ (h.setCell hp v)
theorem Mks.setCell {B lo : Nat} {v : Value} {l : List Mk} (h : Mks w B v l) (hf : FromOn lo v) {p : Addr} (hp : p.block < lo) (u : Value) : Mks (w.setCell p u) B v l := by
  obtain ⟨A, c, hv, hc, ha⟩ := h
  refine ⟨A, c, hv, hc, fun h0 => ?_⟩
  obtain ⟨ad, e, hb, hcell⟩ := ha h0
  refine ⟨ad, e, hb, fun j s hs => ?_⟩
  subst e
  have hlo := hf ad _ _ hv
  have far : ∀ i, (w.setCell p u).cell? (ad.add i) = w.cell? (ad.add i) := fun i => World.cell?_setCell_other _ _ _ _ (fun e => by
    have : p.block = (ad.add i).block := by rw [e]
    rw [add_block] at this
    omega)
  rw [far, far, far]
  exact hcell j s hs
theorem Mks.setCells {B lo : Nat} {v : Value} {l : List Mk} (hf : FromOn lo v) (hp : g < lo) (cs : List Value) : ∀ (w : World) (o : Nat), Mks w B v l → Mks (w.setCells g o cs) B v l := by
  induction cs with
  | nil => intro w o h; exact h
  | cons u r ih => intro w o h; exact ih _ _ (h.setCell hf hp u)
theorem size_setCells (cs : List Value) : ∀ (w : World) (o : Nat), (w.setCells g o cs).heap.size = w.heap.size := by
  induction cs with
  | nil => intro w o; rfl
  | cons v r ih => intro w o; rw [World.setCells, ih]; simp [World.setCell]
theorem RowAt.there {l : List Value} (h : RowAt w g t l) (o n : Nat) (hn : o + n ≤ l.length) : w.there g o n := fun j hj => ⟨by rw [h.cell, List.getElem?_eq_getElem (by omega)]; rfl, h.frozen _⟩
end
end Go.Proofs.Ytcamhaeelkjigaa
