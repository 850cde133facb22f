/- Plain facts on shuffled numbers: a round swaps or not, and undoes itself; places and what leads back (no program). -/
import Derived.Test.YtjipibpcnheniaaDoorOctW
namespace Go.Proofs.YtjipibpcnheniaaDoor

/-- The one with which i may change places. -/
def mateS (n p i : Nat) : Nat := (p + n - i) % n
theorem mateS_lt {n p i : Nat} (h : 0 < n) : mateS n p i < n := Nat.mod_lt _ h
theorem mateS_cases {n p i : Nat} (hp : p < n) (hi : i < n) : (i ≤ p ∧ mateS n p i = p - i) ∨ (p < i ∧ mateS n p i = p + n - i) := by
  unfold mateS
  rcases Nat.lt_or_ge p i with h | h
  · exact .inr ⟨h, Nat.mod_eq_of_lt (by omega)⟩
  · refine .inl ⟨h, ?_⟩
    rw [show p + n - i = (p - i) + n by omega, Nat.add_mod_right, Nat.mod_eq_of_lt (by omega)]
theorem mateS_mate {n p i : Nat} (hp : p < n) (hi : i < n) : mateS n p (mateS n p i) = i := by
  have hf := mateS_lt (p := p) (i := i) (show 0 < n by omega)
  rcases mateS_cases hp hi with ⟨h1, e1⟩ | ⟨h1, e1⟩ <;> rcases mateS_cases hp hf with ⟨h2, e2⟩ | ⟨h2, e2⟩ <;> omega
/-- What a round with this pivot and these bits makes of i. -/
def stepS (n p : Nat) (bit : Nat → Bool) (i : Nat) : Nat := if bit (max i (mateS n p i)) then mateS n p i else i
theorem stepS_lt {n p i : Nat} {bit : Nat → Bool} (hi : i < n) : stepS n p bit i < n := by
  unfold stepS
  split
  · exact mateS_lt (by omega)
  · exact hi
theorem stepS_step {n p i : Nat} {bit : Nat → Bool} (hp : p < n) (hi : i < n) : stepS n p bit (stepS n p bit i) = i := by
  by_cases hb : bit (max i (mateS n p i)) = true
  · have e1 : stepS n p bit i = mateS n p i := by unfold stepS; rw [if_pos hb]
    rw [e1]
    unfold stepS
    rw [mateS_mate hp hi, Nat.max_comm, if_pos hb]
  · have e1 : stepS n p bit i = i := by unfold stepS; rw [if_neg hb]
    rw [e1, e1]

section
variable {n : Nat} {st : Nat → Nat → Nat}
/-- What rounds make of i, in the order in which they are told. -/
def runS (st : Nat → Nat → Nat) (l : List Nat) (i : Nat) : Nat := l.foldl (fun k r => st r k) i
theorem runS_nil (i : Nat) : runS st [] i = i := rfl
theorem runS_cons (r : Nat) (l : List Nat) (i : Nat) : runS st (r :: l) i = runS st l (st r i) := rfl
theorem runS_snoc (l : List Nat) (r i : Nat) : runS st (l ++ [r]) i = st r (runS st l i) := by simp [runS]
theorem runS_lt (hst : ∀ r i, i < n → st r i < n) : ∀ (l : List Nat) {i : Nat}, i < n → runS st l i < n
  | [], _, hi => hi
  | _ :: l, _, hi => runS_lt hst l (hst _ _ hi)
abbrev placeS (st : Nat → Nat → Nat) (m i : Nat) : Nat := runS st (List.range m) i
abbrev backS (st : Nat → Nat → Nat) (m i : Nat) : Nat := runS st (List.range m).reverse i
theorem placeS_succ (m i : Nat) : placeS st (m + 1) i = st m (placeS st m i) := by
  unfold placeS; rw [List.range_succ, runS_snoc]
theorem backS_succ (m i : Nat) : backS st (m + 1) i = backS st m (st m i) := by
  unfold backS; rw [List.range_succ, List.reverse_append]; rfl
theorem back_place (hlt : ∀ r i, i < n → st r i < n) (hst : ∀ r i, i < n → st r (st r i) = i) (m : Nat) {i : Nat} (hi : i < n) : backS st m (placeS st m i) = i := by
  induction m with
  | zero => rfl
  | succ m ih => rw [placeS_succ, backS_succ, hst _ _ (runS_lt hlt _ hi), ih]
theorem place_back (hlt : ∀ r i, i < n → st r i < n) (hst : ∀ r i, i < n → st r (st r i) = i) (m : Nat) {i : Nat} (hi : i < n) : placeS st m (backS st m i) = i := by
  induction m generalizing i with
  | zero => rfl
  | succ m ih => rw [placeS_succ, backS_succ, ih (hlt _ _ hi), hst _ _ hi]
theorem place_inj (hlt : ∀ r i, i < n → st r i < n) (hst : ∀ r i, i < n → st r (st r i) = i) (m : Nat) {i j : Nat} (hi : i < n) (hj : j < n) : placeS st m i = placeS st m j ↔ i = j :=
  ⟨fun e => by rw [← back_place hlt hst m hi, e, back_place hlt hst m hj], fun e => by rw [e]⟩
/-- The rounds from r on, ahead of m, rising. -/
theorem run_from (r m i : Nat) (h : r < m) : runS st (List.range' r (m - r)) i = runS st (List.range' (r + 1) (m - (r + 1))) (st r i) := by
  rw [show m - r = (m - (r + 1)) + 1 by omega, List.range'_succ, runS_cons]
theorem run_all (m i : Nat) : runS st (List.range' 0 m) i = placeS st m i := by rw [← List.range_eq_range']
end

/- places, into which a round is put: the i-th is what stood where the round leads -/
/-- So far the pairs that have one below k. -/
def swapTo (n p : Nat) (bit : Nat → Bool) (l : List Nat) (k : Nat) : List Nat := (List.range n).map fun j => if min j (mateS n p j) < k then l.getD (stepS n p bit j) 0 else l.getD j 0
section
variable {n p : Nat} {bit : Nat → Bool} {l : List Nat}
theorem swapTo_length (k : Nat) : (swapTo n p bit l k).length = n := by simp [swapTo]
theorem swapTo_zero (hl : l.length = n) : swapTo n p bit l 0 = l := by
  apply List.ext_getElem
  · rw [swapTo_length, hl]
  · intro j h1 h2
    simp [swapTo, List.getD_eq_getElem?_getD, List.getElem?_eq_getElem h2]
theorem swapTo_get (k j : Nat) (hj : j < n) : (swapTo n p bit l k)[j]? = some (if min j (mateS n p j) < k then l.getD (stepS n p bit j) 0 else l.getD j 0) := by
  simp [swapTo, List.getElem?_map, List.getElem?_range hj]
theorem swapTo_all : swapTo n p bit l n = (List.range n).map fun j => l.getD (stepS n p bit j) 0 := by
  unfold swapTo
  apply List.map_congr_left
  intro j hj
  rw [if_pos (by have := List.mem_range.1 hj; omega)]
/-- Nothing is swapped at k: its mate does not stand behind it, or the bit is not set. -/
theorem swapTo_skip (hp : p < n) (k : Nat) (hk : k < n) (h : mateS n p k ≤ k ∨ bit (max k (mateS n p k)) = false) : swapTo n p bit l (k + 1) = swapTo n p bit l k := by
  unfold swapTo
  apply List.map_congr_left
  intro j hj
  have hj := List.mem_range.1 hj
  by_cases h1 : min j (mateS n p j) < k
  · rw [if_pos h1, if_pos (by omega)]
  · rw [if_neg h1]
    by_cases h2 : min j (mateS n p j) < k + 1
    · rw [if_pos h2]
      have hf := mateS_lt (p := p) (i := k) (show 0 < n by omega)
      have hm := mateS_mate hp hj
      have hjk : j = k ∨ mateS n p j = k := by omega
      have e : stepS n p bit j = j := by
        rcases h with h | h
        · have : mateS n p j = j := by
            rcases hjk with rfl | e
            · omega
            · have := mateS_mate hp hj; rw [e] at this; omega
          unfold stepS; split <;> omega
        · have : bit (max j (mateS n p j)) = false := by
            rcases hjk with rfl | e
            · exact h
            · rw [← h, e]; have := mateS_mate hp hj; rw [e] at this; rw [this, Nat.max_comm]
          unfold stepS; rw [this]; rfl
      rw [e]
    · rw [if_neg h2]
/-- k and its mate change places. -/
theorem swapTo_swap (hp : p < n) (k : Nat) (hk : k < n) (h : k < mateS n p k) (hb : bit (max k (mateS n p k)) = true) :
    (swapTo n p bit l k)[k]? = some (l.getD k 0) ∧ (swapTo n p bit l k)[mateS n p k]? = some (l.getD (mateS n p k) 0) ∧
    swapTo n p bit l (k + 1) = ((swapTo n p bit l k).set k (l.getD (mateS n p k) 0)).set (mateS n p k) (l.getD k 0) := by
  have hf := mateS_lt (p := p) (i := k) (show 0 < n by omega)
  have hm := mateS_mate hp hk
  refine ⟨?_, ?_, ?_⟩
  · rw [swapTo_get _ _ hk, if_neg (by omega)]
  · rw [swapTo_get _ _ hf, hm, if_neg (by omega)]
  · apply List.ext_getElem?
    intro j
    by_cases hj : j < n
    · rw [swapTo_get _ _ hj]
      by_cases e2 : j = mateS n p k
      · subst e2
        rw [List.getElem?_set_self (by simp [swapTo_length]; exact hf), hm, if_pos (by omega)]
        unfold stepS
        rw [hm, Nat.max_comm, if_pos hb]
      · rw [List.getElem?_set_ne (Ne.symm e2)]
        by_cases e1 : j = k
        · subst e1
          rw [List.getElem?_set_self (by rw [swapTo_length]; exact hj), if_pos (by omega)]
          unfold stepS
          rw [if_pos hb]
        · rw [List.getElem?_set_ne (Ne.symm e1), swapTo_get _ _ hj]
          have : ¬ mateS n p j = k := fun e => by have := mateS_mate hp hj; rw [e] at this; omega
          by_cases h1 : min j (mateS n p j) < k
          · rw [if_pos h1, if_pos (by omega)]
          · rw [if_neg h1, if_neg (by omega)]
    · rw [List.getElem?_eq_none (by rw [swapTo_length]; omega), List.getElem?_eq_none (by simp [swapTo_length]; omega)]
end
end Go.Proofs.YtjipibpcnheniaaDoor
