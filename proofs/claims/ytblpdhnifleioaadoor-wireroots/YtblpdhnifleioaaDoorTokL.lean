/- The statements' own small functions of layer 5: pick, Words, count. -/
import Derived.Test.YtblpdhnifleioaaDoorTokE
namespace Go.Proofs.YtblpdhnifleioaaDoor
open Go.RowKit

/-- pick: which of n things a raw number speaks of. -/
def tPickOf (c n : Int) : Int := (if c < 0 then -(c + 1) else c) % n
theorem tPickOf_bd (c n : Int) (hn : 0 < n) : 0 ≤ tPickOf c n ∧ tPickOf c n < n := by
  unfold tPickOf
  exact ⟨Int.emod_nonneg _ (by omega), Int.emod_lt_of_pos _ hn⟩
def pickN (c n : Int) : Nat := (tPickOf c n).toNat
theorem pickN_lt (c n : Int) (hn : 0 < n) : (pickN c n : Int) < n := by
  have := tPickOf_bd c n hn
  unfold pickN
  omega
theorem pickN_eq (c n : Int) (hn : 0 < n) : tPickOf c n = (pickN c n : Int) := by
  have := tPickOf_bd c n hn
  unfold pickN
  omega
def I64 (c : Int) : Prop := -9223372036854775808 ≤ c ∧ c ≤ 9223372036854775807

theorem take_step {α : Type} (a b : List α) (k : Nat) (h1 : k < a.length) (h2 : k < b.length) (h : a.take k = b.take k) (he : a[k] = b[k]) : a.take (k + 1) = b.take (k + 1) := by
  rw [List.take_succ_eq_append_getElem h1, List.take_succ_eq_append_getElem h2, h, he]

theorem count_step (l : List Pr) (p : Pr) (k : Nat) (h : k < l.length) : (l.take (k + 1)).count p = (l.take k).count p + if l[k] = p then 1 else 0 := by
  rw [List.take_succ_eq_append_getElem h, List.count_append, List.count_singleton]
  congr 1
  by_cases e : l[k] = p
  · simp [e]
  · simp [e]

end Go.Proofs.YtblpdhnifleioaaDoor
