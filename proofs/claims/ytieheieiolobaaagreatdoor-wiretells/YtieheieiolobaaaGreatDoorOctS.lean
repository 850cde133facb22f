/- Plain facts on what Split and Join answer. -/
import Derived.Test.YtieheieiolobaaaGreatDoorOctI
namespace Go.Proofs.YtieheieiolobaaaGreatDoor

theorem splitOf_sound {s : Text} {fixed many : Int} {a : Text} {p : List Text} (h : splitOf s fixed many = (a, p, 0)) :
    0 ≤ fixed ∧ fixed ≤ 65536 ∧ 0 ≤ many ∧ many ≤ 8 ∧ s.length ≤ 65536 ∧ a.length = fixed.toNat ∧ p.length = many.toNat ∧ wholeOf a p = s := by
  unfold splitOf at h
  split at h
  · next h1 =>
    split at h
    · next h2 =>
      split at h
      · next h3 =>
        split at h
        · next h4 =>
          split at h
          · next ps hc =>
            obtain ⟨e1, e2⟩ := cutBack_whole s fixed.toNat many.toNat ps h4 hc
            simp only [Prod.mk.injEq] at h
            obtain ⟨rfl, rfl, _⟩ := h
            exact ⟨h1.1, h1.2, h2.1, h2.2, h3, by rw [List.length_take]; omega, e1, e2⟩
          · simp at h
        · simp at h
      · simp at h
    · simp at h
  · simp at h

theorem splitOf_cases (s : Text) (fixed many : Int) : (∃ a p, splitOf s fixed many = (a, p, 0)) ∨ (∃ y, y ≠ 0 ∧ splitOf s fixed many = ([], [], y)) := by
  unfold splitOf
  split
  · split
    · split
      · split
        · split
          · exact .inl ⟨_, _, rfl⟩
          · exact .inr ⟨2, by decide, rfl⟩
        · exact .inr ⟨3, by decide, rfl⟩
      · exact .inr ⟨4, by decide, rfl⟩
    · exact .inr ⟨1, by decide, rfl⟩
  · exact .inr ⟨1, by decide, rfl⟩

theorem splitOf_of_whole (f : Text) (ps : List Text) (h8 : ps.length ≤ 8) (h : f.length + 4 * ps.length + sumLen ps ≤ 65536) :
    splitOf (wholeOf f ps) (f.length : Int) (ps.length : Int) = (f, ps, 0) := by
  have hl := wholeOf_length f ps
  have hc := cutBack_of_whole f ps (by rw [hl]; omega)
  unfold splitOf
  rw [if_pos (by omega), if_pos (by omega), if_pos (by rw [hl]; omega), Int.toNat_natCast, Int.toNat_natCast, if_pos (by rw [hl]; omega), hc]
  have e : (wholeOf f ps).take f.length = f := by
    unfold wholeOf
    rw [List.append_assoc]
    exact List.take_left' rfl
  rw [e]

/-- Of what is split Join makes the same bytes. -/
theorem joinOf_of_split {s : Text} {fixed many : Int} {a : Text} {p : List Text} (h : splitOf s fixed many = (a, p, 0)) : joinOf a p = (s, 0) := by
  obtain ⟨h1, h2, h3, h4, h5, h6, h7, h8⟩ := splitOf_sound h
  have hl := wholeOf_length a p
  unfold joinOf
  rw [if_pos ⟨by omega, by rw [← hl, h8]; exact h5⟩, h8]

/-- A text that splits well is what Join makes of f and l just if it splits into these. -/
theorem split_same {z f b : Text} {l q : List Text} (h8 : l.length ≤ 8) (hl : f.length + 4 * l.length + sumLen l ≤ 65536)
    (h : splitOf z (f.length : Int) (l.length : Int) = (b, q, 0)) : z = wholeOf f l ↔ (b = f ∧ q = l) := by
  constructor
  · intro e
    subst e
    rw [splitOf_of_whole f l h8 hl] at h
    simp only [Prod.mk.injEq] at h
    exact ⟨h.1.symm, h.2.1.symm⟩
  · rintro ⟨rfl, rfl⟩
    exact (splitOf_sound h).2.2.2.2.2.2.2.symm
end Go.Proofs.YtieheieiolobaaaGreatDoor
