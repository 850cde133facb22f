/- Plain facts on medians. -/
import Derived.Test.YtkpdfjpdjjjfiaaLagE
namespace Go.Proofs.Ytkpdfjpdjjjfiaa

theorem cnt3 (p : Nat → Bool) (a b c : Nat) : cntB p [a, b, c] = (p a).toNat + (p b).toNat + (p c).toNat := by
  unfold cntB
  cases h1 : p a <;> cases h2 : p b <;> cases h3 : p c <;> simp [h1, h2, h3]

/- of three numbers, that in the middle -/
def midN (x y z : Nat) : Nat := max (min x y) (min (max x y) z)
def okN (x y z v : Nat) : Prop := (if x < v then 1 else 0) + (if y < v then 1 else 0) + (if z < v then 1 else 0) ≤ 1 ∧ (if v < x then 1 else 0) + (if v < y then 1 else 0) + (if v < z then 1 else 0) ≤ 1
theorem okN_iff (x y z v : Nat) (h : v = x ∨ v = y ∨ v = z) : okN x y z v ↔ v = midN x y z := by
  unfold okN midN
  rcases Nat.lt_trichotomy x y with h1 | h1 | h1 <;> rcases Nat.lt_trichotomy y z with h2 | h2 | h2 <;> rcases h with h | h | h <;> (repeat' split) <;> omega
theorem okW_rank (a b c x : Nat) : okW [a, b, c] x = true ↔ okN (rankW a) (rankW b) (rankW c) (rankW x) := by
  unfold okW okN
  rw [cnt3, cnt3]
  simp only [Bool.and_eq_true, decide_eq_true_eq, lessW, Bool.toNat, Bool.cond_decide]
theorem midN_one (x y z : Nat) : midN x y z = x ∨ midN x y z = y ∨ midN x y z = z := by unfold midN; omega

theorem midW_spec (a b c : Nat) : rankW (midW [a, b, c]) = midN (rankW a) (rankW b) (rankW c) ∧ midW [a, b, c] ∈ [a, b, c] := by
  unfold midW
  cases h : [a, b, c].find? (okW [a, b, c]) with
  | none =>
    exfalso
    rw [List.find?_eq_none] at h
    have h1 := h a (by simp)
    have h2 := h b (by simp)
    have h3 := h c (by simp)
    rw [okW_rank, okN_iff _ _ _ _ (by simp)] at h1 h2 h3
    rcases midN_one (rankW a) (rankW b) (rankW c) with e | e | e
    · exact h1 e.symm
    · exact h2 e.symm
    · exact h3 e.symm
  | some x =>
    have hm := List.mem_of_find?_eq_some h
    have ho := List.find?_some h
    rw [okW_rank, okN_iff _ _ _ _ (by simp only [List.mem_cons, List.not_mem_nil, or_false] at hm; rcases hm with rfl | rfl | rfl <;> simp)] at ho
    exact ⟨ho, hm⟩

theorem medW_rank (a b c : Nat) : rankW (medW a b c) = midN (rankW a) (rankW b) (rankW c) := by
  unfold medW
  rw [rankW_plain, (midW_spec a b c).1]
theorem medW_lt {a b c : Nat} (ha : a < 18446744073709551616) (hb : b < 18446744073709551616) (hc : c < 18446744073709551616) : medW a b c < 18446744073709551616 := plainW_lt (midW_lt ha hb hc)
theorem medW_plain (a b c : Nat) : plainW (medW a b c) = medW a b c := plainW_idem _
/- one of the same rank is the same -/
theorem medW_eq {a b c : Nat} (ha : a < 18446744073709551616) (hb : b < 18446744073709551616) (hc : c < 18446744073709551616) {x : Nat} (hx : x < 18446744073709551616) (h : rankW x = midN (rankW a) (rankW b) (rankW c)) : medW a b c = plainW x := by
  rw [← medW_plain]
  exact rankW_inj (medW_lt ha hb hc) hx ((medW_rank a b c).trans h.symm)
theorem medW_ne {a b c x : Nat} (hx : rankW x ≠ midN (rankW a) (rankW b) (rankW c)) : medW a b c ≠ plainW x := by
  intro e
  apply hx
  rw [← medW_rank, e, rankW_plain]
theorem medW_cnt (a b c : Nat) : cntB (fun y => lessW y (medW a b c)) [a, b, c] ≤ 1 ∧ cntB (fun y => lessW (medW a b c) y) [a, b, c] ≤ 1 := by
  have h := (okN_iff (rankW a) (rankW b) (rankW c) (rankW (medW a b c)) (by rw [medW_rank]; exact midN_one _ _ _)).2 (medW_rank a b c)
  have h2 := (okW_rank a b c (medW a b c)).2 h
  unfold okW at h2
  simpa using h2
end Go.Proofs.Ytkpdfjpdjjjfiaa
