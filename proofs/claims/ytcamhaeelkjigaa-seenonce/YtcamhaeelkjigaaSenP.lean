/- Plain facts for layer 13: marks in order. (No program.) -/
import Derived.WalkKit
namespace Go.Proofs.Ytcamhaeelkjigaa

abbrev Mk := Int × Int × Int
def aheadM (a b : Mk) : Prop := a.1 < b.1 ∨ (a.1 = b.1 ∧ (a.2.1 < b.2.1 ∨ (a.2.1 = b.2.1 ∧ a.2.2 < b.2.2)))
instance (a b : Mk) : Decidable (aheadM a b) := by unfold aheadM; infer_instance
def mayM (m : Mk) : Prop := 0 ≤ m.1 ∧ 0 ≤ m.2.1 ∧ 0 ≤ m.2.2
instance (m : Mk) : Decidable (mayM m) := by unfold mayM; infer_instance
theorem ahead_irrefl (a : Mk) : ¬ aheadM a a := by unfold aheadM; omega
theorem ahead_trans {a b c : Mk} (h : aheadM a b) (h' : aheadM b c) : aheadM a c := by unfold aheadM at *; omega
theorem ahead_asymm {a b : Mk} (h : aheadM a b) : ¬ aheadM b a := fun h' => ahead_irrefl a (ahead_trans h h')
theorem ahead_tri (a b : Mk) : aheadM a b ∨ a = b ∨ aheadM b a := by
  obtain ⟨a1, a2, a3⟩ := a
  obtain ⟨b1, b2, b3⟩ := b
  unfold aheadM
  by_cases h1 : a1 = b1
  · by_cases h2 : a2 = b2
    · by_cases h3 : a3 = b3
      · subst h1; subst h2; subst h3; exact .inr (.inl rfl)
      · simp only; omega
    · simp only; omega
  · simp only; omega

/-- None of the numbers is below 0, and each mark is ahead of those behind it. -/
def RightM (l : List Mk) : Prop := (∀ m ∈ l, mayM m) ∧ l.Pairwise aheadM
theorem RightM.nil : RightM [] := ⟨fun _ h => by simp at h, List.Pairwise.nil⟩
theorem RightM.may {l : List Mk} (h : RightM l) (i : Nat) (hi : i < l.length) : mayM l[i] := h.1 _ (List.getElem_mem hi)
theorem RightM.lt {l : List Mk} (h : RightM l) (i j : Nat) (hij : i < j) (hj : j < l.length) : aheadM l[i] l[j] := (List.pairwise_iff_getElem.1 h.2) i j (by omega) hj hij
theorem RightM.sub {l l' : List Mk} (h : RightM l) (hs : l'.Sublist l) : RightM l' := ⟨fun m hm => h.1 m (hs.mem hm), h.2.sublist hs⟩
/-- One more mark, by its neighbour alone. -/
theorem right_snoc {l : List Mk} (i : Nat) (hi : i < l.length) (h : RightM (l.take i)) (hm : mayM l[i]) (ha : ∀ _ : 0 < i, aheadM l[i - 1] l[i]) : RightM (l.take (i + 1)) := by
  rw [List.take_succ_eq_append_getElem hi]
  refine ⟨fun m h' => ?_, List.pairwise_append.2 ⟨h.2, List.pairwise_singleton _ _, fun a h1 b h2 => ?_⟩⟩
  · rcases List.mem_append.1 h' with h' | h'
    · exact h.1 m h'
    · rw [List.mem_singleton.1 h']; exact hm
  · rw [List.mem_singleton.1 h2]
    obtain ⟨j, hj, rfl⟩ := List.getElem_of_mem h1
    rw [List.length_take] at hj
    rw [List.getElem_take]
    by_cases hj2 : j = i - 1
    · subst hj2; exact ha (by omega)
    · have := h.lt j (i - 1) (by omega) (by rw [List.length_take]; omega)
      rw [List.getElem_take, List.getElem_take] at this
      exact ahead_trans this (ha (by omega))

/-- A mark put where it belongs. -/
def insM (m : Mk) : List Mk → List Mk
  | [] => [m]
  | x :: r => if aheadM x m then x :: insM m r else m :: x :: r
theorem mem_ins (m x : Mk) : ∀ l : List Mk, x ∈ insM m l ↔ x = m ∨ x ∈ l
  | [] => by simp [insM]
  | y :: r => by
    unfold insM
    split
    · rw [List.mem_cons, mem_ins m x r, List.mem_cons]
      constructor
      · rintro (h | h | h)
        · exact .inr (.inl h)
        · exact .inl h
        · exact .inr (.inr h)
      · rintro (h | h | h)
        · exact .inr (.inl h)
        · exact .inl h
        · exact .inr (.inr h)
    · rw [List.mem_cons]
theorem len_ins (m : Mk) : ∀ l : List Mk, (insM m l).length = l.length + 1
  | [] => rfl
  | y :: r => by
    unfold insM
    split
    · rw [List.length_cons, len_ins m r, List.length_cons]
    · rfl
theorem ins_right (m : Mk) (hm : mayM m) : ∀ l : List Mk, RightM l → m ∉ l → RightM (insM m l)
  | [], _, _ => ⟨fun x h => by rw [List.mem_singleton.1 h]; exact hm, List.pairwise_singleton _ _⟩
  | y :: r, h, hn => by
    have hr : RightM r := h.sub (List.sublist_cons_self y r)
    have hy := h.1 y (by simp)
    have hyr := (List.pairwise_cons.1 h.2).1
    unfold insM
    split
    · rename_i hym
      have ih := ins_right m hm r hr (fun h' => hn (List.mem_cons_of_mem _ h'))
      refine ⟨fun x hx => ?_, List.pairwise_cons.2 ⟨fun x hx => ?_, ih.2⟩⟩
      · rcases List.mem_cons.1 hx with rfl | hx
        · exact hy
        · exact ih.1 x hx
      · rcases (mem_ins m x r).1 hx with rfl | hx
        · exact hym
        · exact hyr x hx
    · rename_i hym
      have hmy : aheadM m y := by
        rcases ahead_tri y m with h' | h' | h'
        · exact absurd h' hym
        · exact absurd (by rw [h']; simp) hn
        · exact h'
      refine ⟨fun x hx => ?_, List.pairwise_cons.2 ⟨fun x hx => ?_, h.2⟩⟩
      · rcases List.mem_cons.1 hx with rfl | hx
        · exact hm
        · exact h.1 x hx
      · rcases List.mem_cons.1 hx with rfl | hx
        · exact hmy
        · exact ahead_trans hmy (hyr x hx)
/-- The place: behind all that are ahead of it. -/
theorem ins_at (m : Mk) : ∀ (l : List Mk) (k : Nat), k ≤ l.length → (∀ i (h : i < l.length), i < k → aheadM l[i] m) → (∀ h : k < l.length, ¬ aheadM l[k] m) → insM m l = l.take k ++ m :: l.drop k
  | [], k, hk, _, _ => by
    obtain rfl : k = 0 := by simpa using hk
    rfl
  | y :: r, 0, _, _, h => by
    unfold insM
    rw [if_neg (show ¬ aheadM y m from h (by simp))]
    rfl
  | y :: r, k + 1, hk, ha, h => by
    unfold insM
    rw [if_pos (show aheadM y m from ha 0 (by simp) (by omega)), ins_at m r k (by simpa using hk) (fun i hi hik => show aheadM r[i] m from ha (i + 1) (by simpa using hi) (by omega)) (fun hkr => show ¬ aheadM r[k] m from h (by simpa using hkr))]
    rfl
/-- Right marks are told by who is in them. -/
theorem right_ext : ∀ (a b : List Mk), RightM a → RightM b → (∀ m, m ∈ a ↔ m ∈ b) → a = b
  | [], [], _, _, _ => rfl
  | [], y :: r, _, _, h => absurd ((h y).2 (by simp)) (by simp)
  | x :: r, [], _, _, h => absurd ((h x).1 (by simp)) (by simp)
  | x :: a, y :: b, ha, hb, h => by
    have hxa := (List.pairwise_cons.1 ha.2).1
    have hyb := (List.pairwise_cons.1 hb.2).1
    have hxy : x = y := by
      rcases List.mem_cons.1 ((h x).1 (by simp)) with h1 | h1
      · exact h1
      · rcases List.mem_cons.1 ((h y).2 (by simp)) with h2 | h2
        · exact h2.symm
        · exact absurd (hxa y h2) (ahead_asymm (hyb x h1))
    subst hxy
    rw [right_ext a b (ha.sub (List.sublist_cons_self _ _)) (hb.sub (List.sublist_cons_self _ _)) (fun m => by
      have hm := h m
      rw [List.mem_cons, List.mem_cons] at hm
      constructor
      · intro h1
        rcases hm.1 (.inr h1) with h2 | h2
        · subst h2; exact absurd (hxa _ h1) (ahead_irrefl _)
        · exact h2
      · intro h1
        rcases hm.2 (.inr h1) with h2 | h2
        · subst h2; exact absurd (hyb _ h1) (ahead_irrefl _)
        · exact h2)]

def pruneM (e : Int) (l : List Mk) : List Mk := l.filter fun m => decide (e ≤ m.1)
theorem mem_prune {e : Int} {l : List Mk} {m : Mk} : m ∈ pruneM e l ↔ m ∈ l ∧ e ≤ m.1 := by
  unfold pruneM; rw [List.mem_filter, decide_eq_true_iff]
theorem prune_right {e : Int} {l : List Mk} (h : RightM l) : RightM (pruneM e l) := h.sub List.filter_sublist
theorem prune_prune (a b : Int) (l : List Mk) : pruneM b (pruneM a l) = pruneM (max a b) l := by
  unfold pruneM
  rw [List.filter_filter]
  congr 1
  funext m
  rw [← Bool.decide_and, decide_eq_decide]
  omega
theorem prune_snoc (e : Int) (l : List Mk) (i : Nat) (hi : i < l.length) : pruneM e (l.take (i + 1)) = pruneM e (l.take i) ++ (if e ≤ l[i].1 then [l[i]] else []) := by
  unfold pruneM
  rw [List.take_succ_eq_append_getElem hi, List.filter_append]
  congr 1
  by_cases h : e ≤ l[i].1 <;> simp [h]
def ofM (e k : Int) (l : List Mk) : List Int := (l.filter fun m => decide (m.1 = e) && decide (m.2.1 = k)).map (·.2.2)
theorem mem_of {e k w : Int} {l : List Mk} : w ∈ ofM e k l ↔ (e, k, w) ∈ l := by
  unfold ofM
  rw [List.mem_map]
  constructor
  · rintro ⟨⟨a, b, c⟩, h, rfl⟩
    rw [List.mem_filter] at h
    obtain ⟨h1, h2⟩ := h
    simp only [Bool.and_eq_true, decide_eq_true_iff] at h2
    obtain ⟨rfl, rfl⟩ := h2
    exact h1
  · intro h
    exact ⟨(e, k, w), List.mem_filter.2 ⟨h, by simp⟩, rfl⟩
theorem of_sorted {e k : Int} {l : List Mk} (h : RightM l) : (ofM e k l).Pairwise (· < ·) := by
  unfold ofM
  refine List.pairwise_map.2 ((h.2.sublist List.filter_sublist).imp_of_mem ?_)
  intro a b ha hb hab
  have h1 := (List.mem_filter.1 ha).2
  have h2 := (List.mem_filter.1 hb).2
  simp only [Bool.and_eq_true, decide_eq_true_iff] at h1 h2
  unfold aheadM at hab
  omega
theorem of_snoc (e k : Int) (l : List Mk) (i : Nat) (hi : i < l.length) : ofM e k (l.take (i + 1)) = ofM e k (l.take i) ++ (if l[i].1 = e ∧ l[i].2.1 = k then [l[i].2.2] else []) := by
  unfold ofM
  rw [List.take_succ_eq_append_getElem hi, List.filter_append, List.map_append]
  congr 1
  by_cases h1 : l[i].1 = e <;> by_cases h2 : l[i].2.1 = k <;> simp [h1, h2]
end Go.Proofs.Ytcamhaeelkjigaa
