/- The document's own answers for layer 5: Keys. -/
import Derived.Test.YtjjccoliknngcaaTokC
namespace Go.Proofs.Ytjjccoliknngcaa
open Go.RowKit

theorem info_u64 : (Try.prog.info? 25).map (fun i => (i.zero, i.size, i.bytes)) = some (some (.int .u64 0), 1, 8) := by kernel_rfl
abbrev Wds := Elems (fun n : Nat => Value.int .u64 (n : Int))
/-- Each pair has that root, and no key stands beside itself. -/
def keyAt (root : Nat) (l : List Pr) (i : Nat) : Prop := ∀ h : i < l.length, (l[i]).2 = root ∧ (0 < i → (l[i]).1 ≠ (l[i - 1]).1)
instance (root : Nat) (l : List Pr) (i : Nat) : Decidable (keyAt root l i) := by unfold keyAt; infer_instance
def keysB (root : Nat) (l : List Pr) : Bool := (List.range l.length).all fun i => decide (keyAt root l i)
theorem keysB_iff (root : Nat) (l : List Pr) : keysB root l = true ↔ ∀ i, keyAt root l i := by
  unfold keysB
  rw [List.all_eq_true]
  constructor
  · intro h i
    by_cases hi : i < l.length
    · exact of_decide_eq_true (h i (List.mem_range.2 hi))
    · intro h'; exact absurd h' hi
  · intro h i _; exact decide_eq_true (h i)
theorem keysB_not {root : Nat} {l : List Pr} {i : Nat} (h : ¬ keyAt root l i) : keysB root l = false := by
  cases e : keysB root l
  · rfl
  · exact absurd ((keysB_iff root l).1 e i) h
/-- What Keys tells. -/
def keysT (root : Nat) (l : List Pr) : List Nat × Bool := if rightT l && keysB root l then (l.map (·.1), true) else ([], false)

end Go.Proofs.Ytjjccoliknngcaa
