/- The document's own answers of layer 13: ahead, may, Right. -/
import Derived.Test.YtcamhaeelkjigaaProg
import Derived.Test.YtcamhaeelkjigaaSenW
import Derived.WalkLawsBesides
import Derived.Deep.RegionWith
import Derived.Deep.QuietTactic
import Derived.BigQuiet
import Derived.Test.YtcamhaeelkjigaaLagL
namespace Go.Proofs.Ytcamhaeelkjigaa
open Go.RowKit

theorem Mks.cells {w wr : World} {A : Option Addr} {n c k : Nat} {l : List Mk} (hv : Mks w w.heap.size (.slice A n c) l) (hb : Below w.heap.size w wr) (hk : k < l.length) :
    ∃ ad : Addr, A = some ad ∧ (∀ p : Later wr, p.W.cell? (ad.add (k * 3)) = some (.int .i64 (l[k]).1)) ∧ (∀ p : Later wr, p.W.cell? ⟨(ad.add (k * 3)).block, (ad.add (k * 3)).off + 1, none⟩ = some (.int .i64 (l[k]).2.1)) ∧ (∀ p : Later wr, p.W.cell? ⟨(ad.add (k * 3)).block, (ad.add (k * 3)).off + 2, none⟩ = some (.int .i64 (l[k]).2.2)) := by
  obtain ⟨ad, rfl, _⟩ := hv.at_ hk
  have hq : ∀ p : Later wr, Mks p.W w.heap.size (.slice (some ad) n c) l := fun p => hv.below (hb.trans (p.h.mono hb.size)) (Nat.le_refl _)
  exact ⟨ad, rfl, fun p => by obtain ⟨_, e, _, h1, _⟩ := (hq p).at_ hk; cases e; exact h1, fun p => by obtain ⟨_, e, _, _, h1, _⟩ := (hq p).at_ hk; cases e; exact h1, fun p => by obtain ⟨_, e, _, _, _, h1⟩ := (hq p).at_ hk; cases e; exact h1⟩
abbrev aheadMB (a b : Mk) : Bool := decide (aheadM a b)
abbrev mayMB (m : Mk) : Bool := decide (mayM m)
theorem ahead_1 {a1 a2 a3 b1 b2 b3 : Int} (h : a1 ≠ b1) : aheadMB (a1, a2, a3) (b1, b2, b3) = decide (a1 < b1) := by
  rw [decide_eq_decide]; show (a1 < b1 ∨ (a1 = b1 ∧ (a2 < b2 ∨ (a2 = b2 ∧ a3 < b3)))) ↔ a1 < b1; omega
theorem ahead_2 {a1 a2 a3 b2 b3 : Int} (h : a2 ≠ b2) : aheadMB (a1, a2, a3) (a1, b2, b3) = decide (a2 < b2) := by
  rw [decide_eq_decide]; show (a1 < a1 ∨ (a1 = a1 ∧ (a2 < b2 ∨ (a2 = b2 ∧ a3 < b3)))) ↔ a2 < b2; omega
theorem ahead_3 {a1 a2 a3 b3 : Int} : aheadMB (a1, a2, a3) (a1, a2, b3) = decide (a3 < b3) := by
  rw [decide_eq_decide]; show (a1 < a1 ∨ (a1 = a1 ∧ (a2 < a2 ∨ (a2 = a2 ∧ a3 < b3)))) ↔ a3 < b3; omega
set_option maxHeartbeats 400000 in
theorem rahead_any (a1 a2 a3 b1 b2 b3 : Int) (w : World) :
    Calls Try.prog 28 #[.agg #[.int .i64 a1, .int .i64 a2, .int .i64 a3], .agg #[.int .i64 b1, .int .i64 b2, .int .i64 b3]] w fun e w' => e = .returned (.bool (aheadMB (a1, a2, a3) (b1, b2, b3))) ∧ Below w.heap.size w w' := by
  have hb : Below w.heap.size w ((w.alloc (.cells #[.int .i64 a1, .int .i64 a2, .int .i64 a3] 25)).alloc (.cells #[.int .i64 b1, .int .i64 b2, .int .i64 b3] 25)) := ((Below.refl _ w).alloc (Nat.le_refl _) _).alloc (by simp) _
  by_cases h1 : a1 = b1
  · subst h1
    by_cases h2 : a2 = b2
    · subst h2
      rw [ahead_3]
      go_enter Try.func28, Try.ntmps28
      go_wp2
      go_ret
      exact ⟨rfl, hb⟩
    · rw [ahead_2 h2]
      have n2 : (a2 == b2) = false := by simpa using h2
      clear h2
      go_enter Try.func28, Try.ntmps28
      go_wp2
      go_ret
      exact ⟨rfl, hb⟩
  · rw [ahead_1 h1]
    have n1 : (a1 == b1) = false := by simpa using h1
    clear h1
    go_enter Try.func28, Try.ntmps28
    go_wp2
    go_ret
    exact ⟨rfl, hb⟩
theorem rahead_at (a b : Mk) (w : World) :
    Calls Try.prog 28 #[.agg #[.int .i64 a.1, .int .i64 a.2.1, .int .i64 a.2.2], .agg #[.int .i64 b.1, .int .i64 b.2.1, .int .i64 b.2.2]] w fun e w' => e = .returned (.bool (aheadMB a b)) ∧ Below w.heap.size w w' := rahead_any a.1 a.2.1 a.2.2 b.1 b.2.1 b.2.2 w
theorem may_no {a b c : Int} (h : ¬ (0 ≤ a ∧ 0 ≤ b ∧ 0 ≤ c)) : mayMB (a, b, c) = false := by exact decide_eq_false h
theorem may_yes {a b c : Int} (h : 0 ≤ a ∧ 0 ≤ b ∧ 0 ≤ c) : mayMB (a, b, c) = true := by exact decide_eq_true h
set_option maxHeartbeats 400000 in
theorem rmay_any (a b c : Int) (w : World) :
    Calls Try.prog 27 #[.agg #[.int .i64 a, .int .i64 b, .int .i64 c]] w fun e w' => e = .returned (.bool (mayMB (a, b, c))) ∧ Below w.heap.size w w' := by
  have hb : Below w.heap.size w (w.alloc (.cells #[.int .i64 a, .int .i64 b, .int .i64 c] 25)) := (Below.refl _ w).alloc (Nat.le_refl _) _
  by_cases h1 : 0 ≤ a
  · by_cases h2 : 0 ≤ b
    · by_cases h3 : 0 ≤ c
      · rw [may_yes ⟨h1, h2, h3⟩]
        go_enter Try.func27, Try.ntmps27
        go_wp2
        go_ret
        exact ⟨rfl, hb⟩
      · rw [may_no (by omega)]
        go_enter Try.func27, Try.ntmps27
        go_wp2
        go_ret
        exact ⟨rfl, hb⟩
    · rw [may_no (by omega)]
      go_enter Try.func27, Try.ntmps27
      go_wp2
      go_ret
      exact ⟨rfl, hb⟩
  · rw [may_no (by omega)]
    go_enter Try.func27, Try.ntmps27
    go_wp2
    go_ret
    exact ⟨rfl, hb⟩
theorem rmay_at (m : Mk) (w : World) :
    Calls Try.prog 27 #[.agg #[.int .i64 m.1, .int .i64 m.2.1, .int .i64 m.2.2]] w fun e w' => e = .returned (.bool (mayMB m)) ∧ Below w.heap.size w w' := rmay_any m.1 m.2.1 m.2.2 w
end Go.Proofs.Ytcamhaeelkjigaa
