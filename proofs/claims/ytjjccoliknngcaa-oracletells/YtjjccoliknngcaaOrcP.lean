/- Plain facts on tables: pairs that rise, with more, signatures by keys (no program). -/
import Derived.Test.YtjjccoliknngcaaTokP
namespace Go.Proofs.Ytjjccoliknngcaa
open Go.RowKit

theorem ahead_trans {a b c : Pr} (h : aheadB a b = true) (k : aheadB b c = true) : aheadB a c = true := by rw [ahead_iff] at *; omega
theorem ahead_irr (a : Pr) : aheadB a a = false := by rw [Bool.eq_false_iff, ne_eq, ahead_iff]; omega
theorem ahead_tri {a b : Pr} (h : aheadB a b = false) : a = b ∨ aheadB b a = true := by
  rw [Bool.eq_false_iff, ne_eq, ahead_iff] at h
  rw [ahead_iff]
  by_cases e : a = b
  · exact .inl e
  · refine .inr ?_
    have : a.1 ≠ b.1 ∨ a.2 ≠ b.2 := by
      rcases Nat.decEq a.1 b.1 with k | k
      · exact .inl k
      · exact .inr fun k2 => e (Prod.ext k k2)
    omega
theorem ahead_asym {a b : Pr} (h : aheadB a b = true) : aheadB b a = false := by
  rw [Bool.eq_false_iff, ne_eq]; rw [ahead_iff] at *; omega
/-- Rising, none twice. -/
def stc : List Pr → Bool
  | [] => true
  | a :: l => match l with
    | [] => true
    | b :: _ => aheadB a b && stc l
theorem stc_cons2 (a b : Pr) (l : List Pr) : stc (a :: b :: l) = (aheadB a b && stc (b :: l)) := rfl
abbrev Rise (l : List Pr) : Prop := l.Pairwise fun a b => aheadB a b = true
theorem stc_iff : ∀ l : List Pr, stc l = true ↔ Rise l
  | [] => by simp [stc]
  | [a] => by simp [stc]
  | a :: b :: l => by
    rw [stc_cons2, Bool.and_eq_true, stc_iff (b :: l)]
    constructor
    · rintro ⟨h, k⟩
      refine List.pairwise_cons.2 ⟨fun x hx => ?_, k⟩
      rcases List.mem_cons.1 hx with rfl | hx
      · exact h
      · exact ahead_trans h ((List.pairwise_cons.1 k).1 x hx)
    · intro h
      obtain ⟨h1, h2⟩ := List.pairwise_cons.1 h
      exact ⟨h1 b (by simp), h2⟩
theorem stc_at (l : List Pr) : stc l = true ↔ ∀ i (h : i + 1 < l.length), aheadB l[i] l[i + 1] = true := by
  induction l with
  | nil => simp [stc]
  | cons a l ih =>
    cases l with
    | nil => simp [stc]
    | cons b l =>
      rw [stc_cons2, Bool.and_eq_true, ih]
      constructor
      · rintro ⟨h, k⟩ i hi
        cases i with
        | zero => simpa using h
        | succ i => exact k i (by simpa using hi)
      · intro h
        refine ⟨by simpa using h 0 (by simp), fun i hi => ?_⟩
        exact h (i + 1) (by simpa using hi)
theorem Rise.srt {l : List Pr} (h : Rise l) : srt l = true := (srt_iff l).2 (h.imp fun k => le_of_ahead k)
theorem Rise.nodup {l : List Pr} (h : Rise l) : l.Nodup := h.imp fun k e => by subst e; rw [ahead_irr] at k; cases k
theorem rise_of {l : List Pr} (h : Go.Proofs.Ytjjccoliknngcaa.srt l = true) (hn : l.Nodup) : Rise l := by
  have h' := (srt_iff l).1 h
  refine (h'.and hn).imp ?_
  rintro a b ⟨h1, h2⟩
  cases e : aheadB a b
  · exact absurd (Le.antisymm h1 e) h2
  · rfl
/-- Two that rise, with the same pairs, are one. -/
theorem rise_unique {a b : List Pr} (ha : Rise a) (hb : Rise b) (h : ∀ x, x ∈ a ↔ x ∈ b) : a = b :=
  srt_unique ha.srt hb.srt ((List.perm_ext_iff_of_nodup ha.nodup hb.nodup).2 h)
theorem rise_lt {l : List Pr} (h : Rise l) {i j : Nat} (hi : i < j) (hj : j < l.length) : aheadB l[i] l[j] = true := List.pairwise_iff_getElem.1 h i j (by omega) hj hi

/-- A pair is put where those begin that are not ahead of it. -/
theorem ins_where {p : Pr} {l : List Pr} (h : srt l = true) (n : Nat) (hn : n ≤ l.length) (hb : ∀ i (hi : i < l.length), n ≤ i → aheadB l[i] p = false) (ha : ∀ i (hi : i < l.length), i + 1 = n → aheadB l[i] p = true) :
    l.take n ++ p :: l.drop n = ins p l := by
  have hs := (srt_iff l).1 h
  have hle : ∀ i (hi : i < l.length), i < n → Le l[i] p := fun i hi hin => by
    have h1 : Le l[n - 1] p := le_of_ahead (ha (n - 1) (by omega) (by omega))
    by_cases e : i = n - 1
    · subst e; exact h1
    · exact (List.pairwise_iff_getElem.1 hs i (n - 1) hi (by omega) (by omega)).trans h1
  refine srt_unique ?_ (ins_srt h) ?_
  · rw [srt_iff, List.pairwise_append]
    refine ⟨hs.sublist (List.take_sublist _ _), List.pairwise_cons.2 ⟨fun x hx => ?_, hs.sublist (List.drop_sublist _ _)⟩, fun x hx y hy => ?_⟩
    · obtain ⟨i, hi, rfl⟩ := List.mem_iff_getElem.1 hx
      rw [List.getElem_drop]
      exact hb _ (by simp at hi; omega) (by omega)
    · obtain ⟨i, hi, rfl⟩ := List.mem_iff_getElem.1 hx
      rw [List.length_take] at hi
      rw [List.getElem_take]
      have h1 := hle i (by omega) (by omega)
      rcases List.mem_cons.1 hy with rfl | hy
      · exact h1
      · obtain ⟨j, hj, rfl⟩ := List.mem_iff_getElem.1 hy
        rw [List.getElem_drop]
        rw [List.length_drop] at hj
        exact h1.trans (hb _ (by omega) (by omega))
  · refine List.Perm.trans ?_ (ins_perm p l).symm
    refine (List.perm_middle).trans ?_
    rw [List.take_append_drop]
theorem mem_ins {p x : Pr} {l : List Pr} : x ∈ ins p l ↔ x = p ∨ x ∈ l := by rw [(ins_perm p l).mem_iff, List.mem_cons]
theorem ins_rise {p : Pr} {l : List Pr} (h : Rise l) (hp : p ∉ l) : Rise (ins p l) :=
  rise_of (ins_srt h.srt) ((ins_perm p l).nodup_iff.2 (List.nodup_cons.2 ⟨hp, h.nodup⟩))

/-- What may be a table. -/
def rightO (l : List Pr) : Bool := decide (l.length ≤ 4096) && stc l
theorem rightO_iff (l : List Pr) : rightO l = true ↔ l.length ≤ 4096 ∧ Rise l := by rw [rightO, Bool.and_eq_true, stc_iff]; simp
/-- One pair more, if it is not there. -/
def put1 (out : List Pr) (p : Pr) : List Pr := if p ∈ out then out else ins p out
def addL (t m : List Pr) : List Pr := m.foldl put1 t
theorem addL_snoc (t m : List Pr) (p : Pr) : addL t (m ++ [p]) = put1 (addL t m) p := by simp [addL]
theorem put1_rise {t : List Pr} {p : Pr} (h : Rise t) : Rise (put1 t p) := by
  unfold put1
  split
  · exact h
  · rename_i k; exact ins_rise h k
theorem mem_put1 {t : List Pr} {p x : Pr} : x ∈ put1 t p ↔ x ∈ t ∨ x = p := by
  unfold put1
  split
  · rename_i k
    exact ⟨.inl, fun h => by rcases h with h | rfl; exact h; exact k⟩
  · rw [mem_ins]; exact Or.comm
theorem addL_rise {t : List Pr} : ∀ {m : List Pr}, Rise t → Rise (addL t m)
  | [], h => h
  | _ :: m, h => addL_rise (m := m) (put1_rise h)
theorem mem_addL {x : Pr} : ∀ {m t : List Pr}, x ∈ addL t m ↔ x ∈ t ∨ x ∈ m
  | [], t => by simp [addL]
  | p :: m, t => by
    show x ∈ addL (put1 t p) m ↔ _
    rw [mem_addL, mem_put1, List.mem_cons, or_assoc]
theorem put1_length (t : List Pr) (p : Pr) : t.length ≤ (put1 t p).length ∧ (put1 t p).length ≤ t.length + 1 := by
  unfold put1
  split
  · exact ⟨Nat.le_refl _, by omega⟩
  · rw [ins_length]; omega
theorem addL_length (t : List Pr) : ∀ m : List Pr, t.length ≤ (addL t m).length ∧ (addL t m).length ≤ t.length + m.length
  | [] => by simp [addL]
  | p :: m => by
    have h1 := put1_length t p
    have h2 := addL_length (put1 t p) m
    show t.length ≤ (addL (put1 t p) m).length ∧ (addL (put1 t p) m).length ≤ _
    rw [List.length_cons]
    omega
/-- What rises with a table's pairs and more is the table with more. -/
theorem addL_eq {t m r : List Pr} (ht : Rise t) (hr : Rise r) (h : ∀ x, x ∈ r ↔ x ∈ t ∨ x ∈ m) : addL t m = r :=
  rise_unique (addL_rise ht) hr fun x => by rw [mem_addL, h]
/-- What Add answers. -/
def addO (t m : List Pr) : List Pr × Int := if rightO t = true then (if 4096 < (addL t m).length then ([], 4) else (addL t m, 0)) else ([], 1)

/-- The pairs of a signature. -/
def signL (r : Nat) (ks : List Nat) : List Pr := ks.foldl (fun l k => ins (k, r) l) []
theorem signL_snoc (r : Nat) (ks : List Nat) (k : Nat) : signL r (ks ++ [k]) = ins (k, r) (signL r ks) := by simp [signL]
theorem foldl_ins_srt (r : Nat) : ∀ (ks : List Nat) (l : List Pr), srt l = true → srt (ks.foldl (fun l k => ins (k, r) l) l) = true
  | [], _, h => h
  | _ :: ks, _, h => foldl_ins_srt r ks _ (ins_srt h)
theorem signL_srt (r : Nat) (ks : List Nat) : srt (signL r ks) = true := foldl_ins_srt r ks [] rfl
theorem foldl_ins_perm (r : Nat) : ∀ (ks : List Nat) (l : List Pr), (ks.foldl (fun l k => ins (k, r) l) l).Perm (ks.map (fun k => (k, r)) ++ l)
  | [], _ => by simp
  | k :: ks, l => by
    refine (foldl_ins_perm r ks _).trans ?_
    refine ((ins_perm (k, r) l).append_left _).trans ?_
    rw [List.map_cons, List.cons_append]
    exact List.perm_middle
theorem signL_perm (r : Nat) (ks : List Nat) : (signL r ks).Perm (ks.map fun k => (k, r)) := by
  have := foldl_ins_perm r ks []
  rwa [List.append_nil] at this
theorem signL_length (r : Nat) (ks : List Nat) : (signL r ks).length = ks.length := by rw [(signL_perm r ks).length_eq, List.length_map]
theorem mem_signL {r : Nat} {ks : List Nat} {p : Pr} : p ∈ signL r ks ↔ p.2 = r ∧ p.1 ∈ ks := by
  rw [(signL_perm r ks).mem_iff, List.mem_map]
  exact ⟨fun ⟨k, hk, e⟩ => by subst e; exact ⟨rfl, hk⟩, fun ⟨h1, h2⟩ => ⟨p.1, h2, Prod.ext rfl h1.symm⟩⟩
theorem signL_eq {r : Nat} {a b : List Nat} (h : a.Perm b) : signL r a = signL r b :=
  srt_unique (signL_srt _ _) (signL_srt _ _) ((signL_perm r a).trans ((h.map _).trans (signL_perm r b).symm))
theorem signL_mrg (r : Nat) (ks : List Nat) : mrgAll (ks.map fun k => [(k, r)]) = signL r ks := by
  unfold mrgAll signL
  rw [List.foldl_map]
  rfl
/-- Whether an item is right by a table. -/
def checkO (t : List Pr) (ks : List Nat) (r : Nat) (f : Bool) (l : List Pr) : Bool :=
  rightO t && !ks.isEmpty && !f && decide ks.Nodup && decide (ks.length ≤ 2048) && decide (l = signL r ks) && l.all fun p => decide (p ∈ t)
end Go.Proofs.Ytjjccoliknngcaa
