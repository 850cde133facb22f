/- Plain facts for layer 7's laws: signatures merged and checked (no program). -/
import Derived.Test.YtjjccoliknngcaaOrcS
namespace Go.Proofs.Ytjjccoliknngcaa
open Go.RowKit

theorem sign_all (r : Nat) (ks : List Nat) (t : List Pr) : ((signL r ks).all fun p => decide (p ∈ t)) = ks.all fun k => decide ((k, r) ∈ t) := by
  rw [(signL_perm r ks).all_eq, List.all_map]; rfl
/-- Whether what Sign tells of keys is right for them. -/
theorem check_own (t : List Pr) (ks : List Nat) (r : Nat) : checkO t ks r false (signL r ks) = (rightO t && !ks.isEmpty && decide ks.Nodup && decide (ks.length ≤ 2048) && ks.all fun k => decide ((k, r) ∈ t)) := by
  unfold checkO
  rw [sign_all]
  simp
theorem sign_right {r : Nat} {ks : List Nat} (h : ks.length ≤ 2048) : rightT (signL r ks) = true := by
  unfold rightT
  rw [signL_srt, decide_eq_true (by rw [signL_length]; exact h)]; rfl
theorem merge_two {r : Nat} {a b : List Nat} (h : a.length + b.length ≤ 2048) : mergeT [(false, signL r a), (false, signL r b)] = (0, false, signL r (a ++ b)) := by
  have h1 : allRight [(false, signL r a), (false, signL r b)] = true := by simp [allRight, sign_right (r := r) (ks := a) (by omega), sign_right (r := r) (ks := b) (by omega)]
  have h2 : tSumLen [(false, signL r a), (false, signL r b)] = a.length + b.length := by simp [tSumLen, signL_length]
  have h3 : mrgAll [signL r a, signL r b] = signL r (a ++ b) := mrgAll_eq (by intro l hl; simp at hl; rcases hl with rfl | rfl <;> exact signL_srt _ _) (signL_srt _ _) (by
    have e := (signL_perm r (a ++ b)).symm
    rw [List.map_append] at e
    have e2 : ([signL r a, signL r b] : List (List Pr)).flatten.Perm (a.map (fun k => (k, r)) ++ b.map fun k => (k, r)) := by
      simp
      exact (signL_perm r a).append (signL_perm r b)
    first | exact e2.trans e | exact (e2.trans e).symm)
  unfold mergeT
  rw [h1, if_neg (by simp), h2, if_neg (by omega)]
  simp [h3]
theorem merge_parts {r : Nat} {ks : List Nat} (n : Nat) (h : ks.length ≤ 2048) : mergeT [(false, signL r (ks.take n)), (false, signL r (ks.drop n))] = (0, false, signL r ks) := by
  rw [merge_two (by rw [List.length_take, List.length_drop]; omega), List.take_append_drop]
/-- With a key more than once it is right for none. -/
theorem check_more (t : List Pr) (ks : List Nat) (r k : Nat) : checkO t ks r false (signL r (ks ++ [k])) = false := by
  refine checkO_unlike ?_
  have : signL r ks ≠ signL r (ks ++ [k]) := fun e => by
    have := congrArg List.length e
    rw [signL_length, signL_length, List.length_append] at this
    simp at this
  simp [sameT, this]
theorem check_apart {t : List Pr} {ks : List Nat} {r : Nat} (hn : ks.Nodup) (h9 : ks.length ≤ 2048) (n : Nat) :
    (checkO t (ks.take n) r false (signL r (ks.take n)) = true → checkO t (ks.drop n) r false (signL r (ks.drop n)) = true → checkO t ks r false (signL r ks) = true) ∧
    (checkO t ks r false (signL r ks) = true → 0 < n → checkO t (ks.take n) r false (signL r (ks.take n)) = true) ∧
    (checkO t ks r false (signL r ks) = true → n < ks.length → checkO t (ks.drop n) r false (signL r (ks.drop n)) = true) := by
  have e := List.take_append_drop n ks
  have n1 : (ks.take n).Nodup := hn.sublist (List.take_sublist _ _)
  have n2 : (ks.drop n).Nodup := hn.sublist (List.drop_sublist _ _)
  have l1 : (ks.take n).length ≤ 2048 := by rw [List.length_take]; omega
  have l2 : (ks.drop n).length ≤ 2048 := by rw [List.length_drop]; omega
  have ha : (ks.all fun k => decide ((k, r) ∈ t)) = ((ks.take n).all (fun k => decide ((k, r) ∈ t)) && (ks.drop n).all fun k => decide ((k, r) ∈ t)) := by rw [← List.all_append, e]
  rw [check_own, check_own, check_own, ha, decide_eq_true hn, decide_eq_true n1, decide_eq_true n2, decide_eq_true h9, decide_eq_true l1, decide_eq_true l2]
  simp only [Bool.and_eq_true, Bool.not_eq_true', Bool.and_true, List.isEmpty_eq_false_iff]
  refine ⟨fun h k => ⟨⟨h.1.1, fun e0 => h.1.2 (by rw [e0]; simp)⟩, h.2, k.2⟩, fun h h0 => ⟨⟨h.1.1, fun e0 => ?_⟩, h.2.1⟩, fun h h0 => ⟨⟨h.1.1, fun e0 => ?_⟩, h.2.2⟩⟩
  · have := congrArg List.length e0
    rw [List.length_take] at this
    simp at this
    rcases this with h1 | h1
    · omega
    · exact h.1.2 h1
  · have := congrArg List.length e0
    rw [List.length_drop] at this
    simp at this
    omega
end Go.Proofs.Ytjjccoliknngcaa
