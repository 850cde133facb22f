/- The document's own answers for layer 5: Keys.
   The statements' own small functions of layer 5: pick, Words, count. -/
import Derived.Test.YtjipibpcnheniaaDoorTokC
namespace Go.Proofs.YtjipibpcnheniaaDoor
open Go.RowKit

theorem info_u64 : (Tryd.prog.info? 22).map (fun i => (i.zero, i.size, i.bytes)) = some (some (.int .u64 0), 1, 8) := by kernel_rfl
abbrev Wds := Elems (fun n : Nat => Value.int .u64 (n : Int))
/-- Each pair has that root, and no key stands beside itself. -/
def keyAt (root : Nat) (l : List Pr) (i : Nat) : Prop := ∀ h : i < l.length, (l[i]).2 = root ∧ (0 < i → (l[i]).1 ≠ (l[i - 1]).1)
instance (root : Nat) (l : List Pr) (i : Nat) : Decidable (keyAt root l i) := by unfold keyAt; infer_instance
def keysB (root : Nat) (l : List Pr) : Bool := (List.range l.length).all fun i => decide (keyAt root l i)
theorem keysB_iff (root : Nat) (l : List Pr) : keysB root l = true ↔ ∀ i, keyAt root l i := by
  unfold keysB
  rw [List.all_eq_true]
  constructor
  · intro h i
    by_cases hi : i < l.length
    · exact of_decide_eq_true (h i (List.mem_range.2 hi))
    · intro h'; exact absurd h' hi
  · intro h i _; exact decide_eq_true (h i)
theorem keysB_not {root : Nat} {l : List Pr} {i : Nat} (h : ¬ keyAt root l i) : keysB root l = false := by
  cases e : keysB root l
  · rfl
  · exact absurd ((keysB_iff root l).1 e i) h
/-- What Keys tells. -/
def keysT (root : Nat) (l : List Pr) : List Nat × Bool := if rightT l && keysB root l then (l.map (·.1), true) else ([], false)

end Go.Proofs.YtjipibpcnheniaaDoor

namespace Go.Proofs.YtjipibpcnheniaaDoor
open Go.RowKit

/-- pick: which of n things a raw number speaks of. -/
def tPickOf (c n : Int) : Int := (if c < 0 then -(c + 1) else c) % n
theorem tPickOf_bd (c n : Int) (hn : 0 < n) : 0 ≤ tPickOf c n ∧ tPickOf c n < n := by
  unfold tPickOf
  exact ⟨Int.emod_nonneg _ (by omega), Int.emod_lt_of_pos _ hn⟩
def pickN (c n : Int) : Nat := (tPickOf c n).toNat
theorem pickN_lt (c n : Int) (hn : 0 < n) : (pickN c n : Int) < n := by
  have := tPickOf_bd c n hn
  unfold pickN
  omega
theorem pickN_eq (c n : Int) (hn : 0 < n) : tPickOf c n = (pickN c n : Int) := by
  have := tPickOf_bd c n hn
  unfold pickN
  omega
def I64 (c : Int) : Prop := -9223372036854775808 ≤ c ∧ c ≤ 9223372036854775807

theorem pick5_any (c n : Int) (w : World) (hc : I64 c) (hn : 0 < n) (hn2 : n ≤ 1000000000) :
    Calls Tryd.prog 44 #[.int .i64 c, .int .i64 n] w fun e w' => e = .returned (.int .i64 (pickN c n : Int)) ∧ w = w' := by
  unfold I64 at hc
  rw [← pickN_eq c n hn]
  by_cases h : c < 0
  · have he : tPickOf c n = -((c + 1).tmod n) := by
      unfold tPickOf
      rw [if_pos h, ← Int.neg_tmod, Int.tmod_eq_emod_of_nonneg (by omega)]
    rw [he]
    clear he
    go_enter Tryd.func44, Tryd.ntmps44
    go_wp2
    go_ret
    exact ⟨rfl, rfl⟩
  · have he : tPickOf c n = c % n := by unfold tPickOf; rw [if_neg h]
    rw [he]
    clear he
    go_enter Tryd.func44, Tryd.ntmps44
    go_wp2
    go_ret
    exact ⟨rfl, rfl⟩

theorem take_step {α : Type} (a b : List α) (k : Nat) (h1 : k < a.length) (h2 : k < b.length) (h : a.take k = b.take k) (he : a[k] = b[k]) : a.take (k + 1) = b.take (k + 1) := by
  rw [List.take_succ_eq_append_getElem h1, List.take_succ_eq_append_getElem h2, h, he]

theorem count_step (l : List Pr) (p : Pr) (k : Nat) (h : k < l.length) : (l.take (k + 1)).count p = (l.take k).count p + if l[k] = p then 1 else 0 := by
  rw [List.take_succ_eq_append_getElem h, List.count_append, List.count_singleton]
  congr 1
  by_cases e : l[k] = p
  · simp [e]
  · simp [e]

end Go.Proofs.YtjipibpcnheniaaDoor
