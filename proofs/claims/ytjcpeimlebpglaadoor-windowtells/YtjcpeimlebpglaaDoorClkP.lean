/- Plain facts for layer 8 (no program): which chains fit, slots, epochs, ticks. -/
import Derived.RowKit
namespace Go.Proofs.YtjcpeimlebpglaaDoor
open Go.RowKit

/-- Does a chain of these numbers fit? -/
def fitsC (v s c n t d r k g : Int) : Bool := decide (1 ≤ v ∧ v ≤ 1024 ∧ 1 ≤ s ∧ s ≤ 32 ∧ 1 ≤ c ∧ c ≤ 8 ∧ 1 ≤ n ∧ n ≤ 64 ∧ 1 ≤ t ∧ t ≤ 1000 ∧ 0 ≤ d ∧ d ≤ t ∧ 1 ≤ r ∧ r ≤ 64 ∧ 0 ≤ k ∧ k ≤ 90 ∧ 1 ≤ g ∧ g ≤ 16)
theorem fitsC_iff (v s c n t d r k g : Int) : fitsC v s c n t d r k g = true ↔ (1 ≤ v ∧ v ≤ 1024 ∧ 1 ≤ s ∧ s ≤ 32 ∧ 1 ≤ c ∧ c ≤ 8 ∧ 1 ≤ n ∧ n ≤ 64 ∧ 1 ≤ t ∧ t ≤ 1000 ∧ 0 ≤ d ∧ d ≤ t ∧ 1 ≤ r ∧ r ≤ 64 ∧ 0 ≤ k ∧ k ≤ 90 ∧ 1 ≤ g ∧ g ≤ 16) := by
  unfold fitsC; rw [decide_eq_true_iff]
theorem fitsC_no {v s c n t d r k g : Int} (h : ¬ (1 ≤ v ∧ v ≤ 1024 ∧ 1 ≤ s ∧ s ≤ 32 ∧ 1 ≤ c ∧ c ≤ 8 ∧ 1 ≤ n ∧ n ≤ 64 ∧ 1 ≤ t ∧ t ≤ 1000 ∧ 0 ≤ d ∧ d ≤ t ∧ 1 ≤ r ∧ r ≤ 64 ∧ 0 ≤ k ∧ k ≤ 90 ∧ 1 ≤ g ∧ g ≤ 16)) : fitsC v s c n t d r k g = false := by
  unfold fitsC; rw [decide_eq_false_iff_not]; exact h

def isTickB (k : Int) : Bool := decide (0 ≤ k) && decide (k ≤ 1099511627776)
theorem isTickB_iff (k : Int) : isTickB k = true ↔ 0 ≤ k ∧ k ≤ 1099511627776 := by simp [isTickB]
theorem isTickB_no (k : Int) : isTickB k = false ↔ k < 0 ∨ 1099511627776 < k := by
  rw [← Bool.not_eq_true, isTickB_iff]; omega

/- the answers: a number and an error -/
def productA (m e : Int) : Int × Int := if 1099511627776 < m * e then (0, 8) else (m * e, 0)
def slotA (fit : Bool) (t k : Int) : Int × Int := if fit && isTickB k then (k / t, 0) else (0, 1)
def startA (fit : Bool) (t k : Int) : Int × Int := if fit && decide (0 ≤ k) then productA k t else (0, 1)
def epochA (fit : Bool) (s k : Int) : Int × Int := if fit && decide (0 ≤ k) then (k / s, 0) else (0, 1)
def firstA (fit : Bool) (s t k : Int) : Int × Int := if fit && decide (0 ≤ k) then (if 1099511627776 < k * s * t then (0, 8) else (k * s, 0)) else (0, 1)
def forwardA (fit : Bool) (k b : Int) : Int × Int := if fit && isTickB k && decide (0 ≤ b) then (if 1099511627776 < k + b then (0, 8) else (k + b, 0)) else (0, 1)

theorem over_iff {m e : Int} (he : 1 ≤ e) : 1099511627776 / e < m ↔ 1099511627776 < m * e := by
  rw [Int.ediv_lt_iff_lt_mul (by omega)]
theorem prod_le {m e : Int} (hm : 0 ≤ m) (he : 1 ≤ e) : m ≤ m * e := by
  have := Int.mul_le_mul_of_nonneg_left he hm
  omega
end Go.Proofs.YtjcpeimlebpglaaDoor
