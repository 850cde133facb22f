/- Layer 13, plain facts for the program: marks held against each other, and where one belongs. (No program.) -/
import Derived.Test.YtcamhaeelkjigaaSenP
namespace Go.Proofs.Ytcamhaeelkjigaa

/-- cmp.Compare of whole numbers. -/
def cmpI (a b : Int) : Int := if a < b then -1 else if b < a then 1 else 0
theorem cmpI_lt {a b : Int} (h : a < b) : cmpI a b = -1 := by unfold cmpI; rw [if_pos h]
theorem cmpI_gt {a b : Int} (h : b < a) : cmpI a b = 1 := by unfold cmpI; rw [if_neg (by omega), if_pos h]
theorem cmpI_eq (a : Int) : cmpI a a = 0 := by unfold cmpI; rw [if_neg (by omega), if_neg (by omega)]
theorem cmpI_zero {a b : Int} : cmpI a b = 0 ↔ a = b := by
  unfold cmpI
  split
  · constructor
    · intro h; cases h
    · intro h; omega
  · split
    · constructor
      · intro h; cases h
      · intro h; omega
    · constructor
      · intro _; omega
      · intro _; rfl
/-- Marks held against each other: below 0, if a is ahead, 0, if they are one. -/
def cmpM (a b : Mk) : Int := if a.1 = b.1 then (if a.2.1 = b.2.1 then cmpI a.2.2 b.2.2 else cmpI a.2.1 b.2.1) else cmpI a.1 b.1
theorem cmpM_1 {a1 a2 a3 b1 b2 b3 : Int} (h : a1 ≠ b1) : cmpM (a1, a2, a3) (b1, b2, b3) = cmpI a1 b1 := by unfold cmpM; rw [if_neg h]
theorem cmpM_2 {a1 a2 a3 b2 b3 : Int} (h : a2 ≠ b2) : cmpM (a1, a2, a3) (a1, b2, b3) = cmpI a2 b2 := by unfold cmpM; rw [if_pos rfl, if_neg h]
theorem cmpM_3 {a1 a2 a3 b3 : Int} : cmpM (a1, a2, a3) (a1, a2, b3) = cmpI a3 b3 := by unfold cmpM; rw [if_pos rfl, if_pos rfl]
theorem cmpI_cases (a b : Int) : (a < b ∧ cmpI a b = -1) ∨ (b < a ∧ cmpI a b = 1) ∨ (a = b ∧ cmpI a b = 0) := by
  rcases Int.lt_trichotomy a b with h | h | h
  · exact .inl ⟨h, cmpI_lt h⟩
  · subst h; exact .inr (.inr ⟨rfl, cmpI_eq a⟩)
  · exact .inr (.inl ⟨h, cmpI_gt h⟩)
theorem cmpM_neg (a b : Mk) : cmpM a b < 0 ↔ aheadM a b := by
  obtain ⟨a1, a2, a3⟩ := a
  obtain ⟨b1, b2, b3⟩ := b
  unfold cmpM aheadM
  simp only
  split
  · rename_i h
    split
    · rename_i h'
      rcases cmpI_cases a3 b3 with ⟨k, e⟩ | ⟨k, e⟩ | ⟨k, e⟩ <;> rw [e] <;> omega
    · rename_i h'
      rcases cmpI_cases a2 b2 with ⟨k, e⟩ | ⟨k, e⟩ | ⟨k, e⟩ <;> rw [e] <;> omega
  · rename_i h
    rcases cmpI_cases a1 b1 with ⟨k, e⟩ | ⟨k, e⟩ | ⟨k, e⟩ <;> rw [e] <;> omega
/-- k is where q stands, or would stand. -/
def PlaceM (l : List Mk) (q : Mk) (k : Nat) : Prop := k ≤ l.length ∧ (∀ i (_ : i < l.length), i < k → aheadM l[i] q) ∧ (∀ _ : k < l.length, ¬ aheadM l[k] q)
theorem PlaceM.le {l : List Mk} {q : Mk} {k : Nat} (h : PlaceM l q k) : k ≤ l.length := h.1
theorem PlaceM.mem {l : List Mk} {q : Mk} {k : Nat} (h : PlaceM l q k) (hr : RightM l) : q ∈ l ↔ ∃ h : k < l.length, l[k] = q := by
  constructor
  · intro hq
    obtain ⟨i, hi, rfl⟩ := List.mem_iff_getElem.1 hq
    have h1 : ¬ i < k := fun h' => ahead_irrefl _ (h.2.1 i hi h')
    refine ⟨by omega, ?_⟩
    rcases Nat.lt_or_ge k i with h2 | h2
    · exact absurd (hr.lt k i h2 hi) (h.2.2 (by omega))
    · obtain rfl : i = k := by omega
      rfl
  · rintro ⟨hk, rfl⟩
    exact List.getElem_mem hk
theorem PlaceM.ins {l : List Mk} {q : Mk} {k : Nat} (h : PlaceM l q k) : insM q l = l.take k ++ q :: l.drop k := ins_at q l k h.1 h.2.1 h.2.2
theorem PlaceM.prune {l : List Mk} {e : Int} {k : Nat} (h : PlaceM l (e, 0, 0) k) (hr : RightM l) : pruneM e l = l.drop k := by
  have h1 : ∀ m ∈ l.take k, ¬ e ≤ m.1 := by
    intro m hm
    obtain ⟨i, hi, rfl⟩ := List.mem_iff_getElem.1 hm
    rw [List.length_take] at hi
    rw [List.getElem_take]
    have ha := h.2.1 i (by omega) (by omega)
    have hy := hr.may i (by omega)
    unfold aheadM at ha
    unfold mayM at hy
    simp only at ha
    omega
  have h2 : ∀ m ∈ l.drop k, e ≤ m.1 := by
    intro m hm
    obtain ⟨i, hi, rfl⟩ := List.mem_iff_getElem.1 hm
    rw [List.length_drop] at hi
    rw [List.getElem_drop]
    have hk : k < l.length := by omega
    have ha := h.2.2 hk
    have hy := hr.may k hk
    have hc : l[k].1 ≤ l[k + i].1 := by
      rcases Nat.eq_zero_or_pos i with h0 | h0
      · subst h0; exact Int.le_refl _
      · have := hr.lt k (k + i) (by omega) (by omega)
        unfold aheadM at this
        omega
    unfold aheadM at ha
    unfold mayM at hy
    simp only at ha
    omega
  unfold pruneM
  conv => lhs; rw [← List.take_append_drop k l]
  rw [List.filter_append, List.filter_eq_nil_iff.2 (fun m hm => by simpa using h1 m hm), List.filter_eq_self.2 (fun m hm => by simpa using h2 m hm), List.nil_append]
end Go.Proofs.Ytcamhaeelkjigaa
