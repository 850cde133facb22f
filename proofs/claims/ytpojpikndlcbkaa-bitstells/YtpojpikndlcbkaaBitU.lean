/- Plain facts on unions (no program, but for unionOf). -/
import Derived.Test.YtpojpikndlcbkaaBitQ
namespace Go.Proofs.Ytpojpikndlcbkaa
open Go.RowKit Go.Shelf

theorem right_ext {P : Nat} {a b : List Int} (ha : rightB P a = true) (hb : rightB P b = true) (h : ∀ x, x ∈ a ↔ x ∈ b) : a = b :=
  rise_ext ((rightB_iff _ _).1 ha).2.1 ((rightB_iff _ _).1 hb).2.1 h

theorem putBits_mem (P : Nat) (a : List Int) (more : List (Int × List Int)) (ha : rightB P a = true) (hm : more.all (likeB P) = true) (j : Nat) :
    bitAt (putBits (vecOf P a) (more.flatMap (·.2))) j = decide ((j : Int) ∈ a ∨ ∃ b ∈ more, (j : Int) ∈ b.2) := by
  rw [bitAt_putBits _ _ _ (fun x hx => ?_), bitAt_vecOf ha]
  · by_cases h1 : (j : Int) ∈ a
    · simp [h1]
    · by_cases h2 : ∃ b ∈ more, (j : Int) ∈ b.2
      · have h3 : (j : Int) ∈ more.flatMap (·.2) := by obtain ⟨b, hb, hj⟩ := h2; exact List.mem_flatMap.2 ⟨b, hb, hj⟩
        simp only [h1, h2, h3, decide_true, decide_false, Bool.or_true, or_true]
      · have h3 : ¬ (j : Int) ∈ more.flatMap (·.2) := fun h => h2 (by obtain ⟨b, hb, hj⟩ := List.mem_flatMap.1 h; exact ⟨b, hb, hj⟩)
        simp only [h1, h2, h3, decide_false, Bool.or_false, or_false]
  · obtain ⟨b, hb, hxb⟩ := List.mem_flatMap.1 hx
    have h1 := List.all_eq_true.1 hm b hb
    simp only [likeB, Bool.and_eq_true, decide_eq_true_eq] at h1
    have h2 := ((rightB_iff _ _).1 h1.1).2.2 x hxb
    rw [vecOf_length, Int.toNat_natCast]
    omega

theorem union_of (P : Nat) (a : List Int) (more : List (Int × List Int)) (ha : rightB P a = true) (hm : more.all (likeB P) = true) :
    ∃ u, unionOf P a more = ((P : Int), u, 0) ∧ rightB P u = true ∧ ∀ x, x ∈ u ↔ (x ∈ a ∨ ∃ b ∈ more, x ∈ b.2) := by
  refine ⟨onsOf (putBits (vecOf P a) (more.flatMap (·.2))), ?_, ?_, ?_⟩
  · unfold unionOf
    rw [if_pos (by rw [ha, hm]; rfl)]
  · obtain ⟨h1, h2, h3⟩ := (rightB_iff _ _).1 ha
    refine (rightB_iff _ _).2 ⟨h1, onsOf_rises _, fun x hx => ?_⟩
    obtain ⟨g0, g1⟩ := mem_onsOf.1 hx
    rw [putBits_mem P a more ha hm] at g1
    simp only [decide_eq_true_eq] at g1
    have e : ((x.toNat : Nat) : Int) = x := by omega
    rw [e] at g1
    refine ⟨g0, ?_⟩
    rcases g1 with g1 | ⟨b, hb, g1⟩
    · exact (h3 x g1).2
    · have h4 := List.all_eq_true.1 hm b hb
      simp only [likeB, Bool.and_eq_true, decide_eq_true_eq] at h4
      have h5 := ((rightB_iff _ _).1 h4.1).2.2 x g1
      omega
  · intro x
    rw [mem_onsOf]
    constructor
    · rintro ⟨g0, g1⟩
      rw [putBits_mem P a more ha hm] at g1
      simp only [decide_eq_true_eq] at g1
      have e : ((x.toNat : Nat) : Int) = x := by omega
      rw [e] at g1
      exact g1
    · intro h
      have hx : 0 ≤ x := by
        rcases h with h | ⟨b, hb, h⟩
        · exact (((rightB_iff _ _).1 ha).2.2 x h).1
        · have h4 := List.all_eq_true.1 hm b hb
          simp only [likeB, Bool.and_eq_true, decide_eq_true_eq] at h4
          exact (((rightB_iff _ _).1 h4.1).2.2 x h).1
      have e : ((x.toNat : Nat) : Int) = x := by omega
      refine ⟨hx, ?_⟩
      rw [putBits_mem P a more ha hm, e]
      simpa using h

/-- A rising list of numbers below P has at most P. -/
theorem rise_len : ∀ (l : List Int) (lo hi : Int), l.Pairwise (· < ·) → (∀ x ∈ l, lo ≤ x ∧ x < hi) → (l.length : Int) ≤ max 0 (hi - lo)
  | [], lo, hi, _, _ => by simp; omega
  | x :: l, lo, hi, hr, hb => by
    have hx := hb x (by simp)
    have h := rise_len l (x + 1) hi (List.pairwise_cons.1 hr).2 (fun y hy => ⟨by have := (List.pairwise_cons.1 hr).1 y hy; omega, (hb y (by simp [hy])).2⟩)
    simp only [List.length_cons]
    omega
theorem right_len {P : Nat} {a : List Int} (ha : rightB P a = true) (hP : P ≤ 2000) : a.length ≤ 2000 := by
  obtain ⟨h1, h2, h3⟩ := (rightB_iff _ _).1 ha
  have := rise_len a 0 P h2 h3
  omega
theorem rise_nodup {a : List Int} (h : a.Pairwise (· < ·)) : a.Nodup := h.imp fun h => by omega

/-- How many of a list's elements are in another, and how many are not. -/
theorem sub_of {P : Nat} {a b : List Int} (ha : rightB P a = true) (hb : rightB P b = true) : subOf P a P b = true ↔ ∀ x ∈ a, x ∈ b := by
  simp [subOf, alikeB, ha, hb]
theorem disj_of {P : Nat} {a b : List Int} (ha : rightB P a = true) (hb : rightB P b = true) : disjOf P a P b = true ↔ ∀ x ∈ a, ¬ x ∈ b := by
  simp [disjOf, alikeB, ha, hb]
theorem rise_filter {l : List Int} (p : Int → Bool) (h : l.Pairwise (· < ·)) : (l.filter p).Pairwise (· < ·) := List.Pairwise.filter _ h
theorem len_parts (p : Int → Bool) : ∀ l : List Int, l.length = (l.filter p).length + (l.filter fun x => !p x).length
  | [] => rfl
  | x :: l => by
    have h := len_parts p l
    by_cases hx : p x = true
    · simp only [List.filter_cons, hx, if_true, List.length_cons, Bool.not_true, Bool.false_eq_true, if_false]; omega
    · simp only [List.filter_cons, hx, if_false, List.length_cons, Bool.not_false, Bool.false_eq_true, if_true, show p x = false by simpa using hx]; omega
theorem sub_len {a b : List Int} (ha : a.Pairwise (· < ·)) (hb : b.Pairwise (· < ·)) (h : ∀ x ∈ a, x ∈ b) : a.length ≤ b.length := by
  have e : a = b.filter (fun x => decide (x ∈ a)) := rise_ext ha (rise_filter _ hb) (fun x => by
    simp only [List.mem_filter, decide_eq_true_eq]
    exact ⟨fun hx => ⟨h x hx, hx⟩, fun hx => hx.2⟩)
  rw [e]
  exact List.length_filter_le _ _
/-- Of two rising lists, and one that has what is in either. -/
theorem union_len {u a b : List Int} (hu : u.Pairwise (· < ·)) (ha : a.Pairwise (· < ·)) (hb : b.Pairwise (· < ·)) (h : ∀ x, x ∈ u ↔ (x ∈ a ∨ x ∈ b)) : u.length + (bothOf a b).length = a.length + b.length := by
  have e1 : u.filter (fun x => decide (x ∈ a)) = a := rise_ext (rise_filter _ hu) ha (fun x => by
    simp only [List.mem_filter, decide_eq_true_eq, h]
    exact ⟨fun hx => hx.2, fun hx => ⟨.inl hx, hx⟩⟩)
  have e2 : u.filter (fun x => !decide (x ∈ a)) = b.filter (fun x => !decide (x ∈ a)) := rise_ext (rise_filter _ hu) (rise_filter _ hb) (fun x => by
    simp only [List.mem_filter, Bool.not_eq_true', decide_eq_false_iff_not, h]
    constructor
    · rintro ⟨h1 | h1, h2⟩
      · exact absurd h1 h2
      · exact ⟨h1, h2⟩
    · rintro ⟨h1, h2⟩; exact ⟨.inr h1, h2⟩)
  have e3 : b.filter (fun x => decide (x ∈ a)) = bothOf a b := rise_ext (rise_filter _ hb) (rise_filter _ ha) (fun x => by
    unfold bothOf
    simp only [List.mem_filter, decide_eq_true_eq]
    exact ⟨fun hx => ⟨hx.2, hx.1⟩, fun hx => ⟨hx.2, hx.1⟩⟩)
  have h1 := len_parts (fun x => decide (x ∈ a)) u
  have h2 := len_parts (fun x => decide (x ∈ a)) b
  rw [e1, e2] at h1
  rw [e3] at h2
  omega
theorem union_le {u a b : List Int} (hu : u.Pairwise (· < ·)) (ha : a.Pairwise (· < ·)) (hb : b.Pairwise (· < ·)) (h : ∀ x, x ∈ u ↔ (x ∈ a ∨ x ∈ b)) : u.length ≤ a.length + b.length := by
  have := union_len hu ha hb h
  omega
end Go.Proofs.Ytpojpikndlcbkaa
