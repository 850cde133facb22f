/- Plain facts for layer 12: when slots open and close, how they stand, and which may come. (No program.) -/
import Derived.WalkKit
namespace Go.Proofs.YtjcpeimlebpglaaDoor

def opnW (T D s : Nat) : Nat := s * T - D
def clsW (T D R s : Nat) : Nat := min (s * T + (R + 1) * T + D - 1) 1099511627776
/-- How a slot stands: 0 early, 1 ripe, 2 late. -/
def standW (T D R t s : Nat) : Nat := if 1099511627776 < s * T ∨ t < opnW T D s then 0 else if clsW T D R s < t then 2 else 1
def lowW (T D R t : Nat) : Nat := (t - D) / T - R
def highW (T D t : Nat) : Nat := min (t + D) 1099511627776 / T

theorem le_high {T D t s : Nat} (hT : 1 ≤ T) : s ≤ highW T D t ↔ s * T ≤ t + D ∧ s * T ≤ 1099511627776 := by
  unfold highW
  rw [Nat.le_div_iff_mul_le (by omega)]
  omega
theorem lt_low {T D R t s : Nat} (hT : 1 ≤ T) : s < lowW T D R t ↔ s * T + (R + 1) * T + D ≤ t := by
  unfold lowW
  have h1 : s < (t - D) / T - R ↔ s + (R + 1) ≤ (t - D) / T := by omega
  have h2 : 1 ≤ (R + 1) * T := Nat.mul_pos (by omega) hT
  rw [h1, Nat.le_div_iff_mul_le (by omega), Nat.add_mul s (R + 1) T]
  omega
theorem stand_cases {T D R t s : Nat} (hT : 1 ≤ T) (ht : t ≤ 1099511627776) :
    (standW T D R t s = 1 ↔ lowW T D R t ≤ s ∧ s ≤ highW T D t) ∧ (standW T D R t s = 2 ↔ s < lowW T D R t) ∧ (standW T D R t s = 0 ↔ highW T D t < s) := by
  have h1 := le_high (D := D) (t := t) (s := s) hT
  have h2 := lt_low (D := D) (R := R) (t := t) (s := s) hT
  have h3 : 1 ≤ (R + 1) * T := Nat.mul_pos (by omega) hT
  unfold standW opnW clsW
  generalize (R + 1) * T = Q at *
  generalize s * T = P at *
  generalize lowW T D R t = lo at *
  generalize highW T D t = hi at *
  split
  · refine ⟨?_, ?_, ?_⟩ <;> simp <;> omega
  · split
    · refine ⟨?_, ?_, ?_⟩ <;> simp <;> omega
    · refine ⟨?_, ?_, ?_⟩ <;> simp <;> omega
theorem stand_le {T D R t s : Nat} : standW T D R t s ≤ 2 := by
  unfold standW
  split
  · omega
  · split <;> omega
theorem own_low {T D R t : Nat} : lowW T D R t ≤ t / T := by
  unfold lowW
  exact Nat.le_trans (Nat.sub_le _ _) (Nat.div_le_div_right (by omega))
theorem own_high {T D t : Nat} (ht : t ≤ 1099511627776) : t / T ≤ highW T D t := Nat.div_le_div_right (by omega)
theorem span_le {T D R t : Nat} (hT : 1 ≤ T) (hD : D ≤ T) : highW T D t < lowW T D R t + (R + 3) := by
  have h1 : highW T D t ≤ t / T + 1 := by
    unfold highW
    rw [← Nat.add_div_right t (by omega)]
    exact Nat.div_le_div_right (by omega)
  have h2 : t / T ≤ (t - D) / T + 1 := by
    rw [← Nat.add_div_right (t - D) (by omega)]
    exact Nat.div_le_div_right (by omega)
  unfold lowW
  omega
theorem low_mono {T D R t u : Nat} (h : t ≤ u) : lowW T D R t ≤ lowW T D R u := by
  unfold lowW
  have : (t - D) / T ≤ (u - D) / T := Nat.div_le_div_right (by omega)
  omega
theorem high_mono {T D t u : Nat} (h : t ≤ u) : highW T D t ≤ highW T D u := Nat.div_le_div_right (by omega)
theorem low_step {T D R t : Nat} (hT : 1 ≤ T) : lowW T D R (t + 1) ≤ lowW T D R t + 1 := by
  have h2 : (t + 1 - D) / T ≤ (t - D) / T + 1 := by
    rw [← Nat.add_div_right (t - D) (by omega)]
    exact Nat.div_le_div_right (by omega)
  unfold lowW
  omega
theorem high_step {T D t : Nat} (hT : 1 ≤ T) : highW T D (t + 1) ≤ highW T D t + 1 := by
  unfold highW
  rw [← Nat.add_div_right (min (t + D) 1099511627776) (by omega)]
  exact Nat.div_le_div_right (by omega)
theorem stand_mono {T D R t u s : Nat} (h : t ≤ u) : standW T D R t s ≤ standW T D R u s := by
  unfold standW
  generalize opnW T D s = a
  generalize clsW T D R s = b
  generalize s * T = P
  split <;> split <;> (try split) <;> (try split) <;> omega
theorem stand_opn {T D R s : Nat} (hT : 1 ≤ T) (hs : s * T ≤ 1099511627776) : standW T D R (opnW T D s) s = 1 := by
  have h3 : 1 ≤ (R + 1) * T := Nat.mul_pos (by omega) hT
  unfold standW clsW opnW
  generalize (R + 1) * T = Q at *
  generalize s * T = P at *
  rw [if_neg (by omega), if_neg (by omega)]
theorem opn_cls {T D R s : Nat} (hT : 1 ≤ T) (hs : s * T ≤ 1099511627776) : opnW T D s ≤ clsW T D R s ∧ clsW T D R s ≤ 1099511627776 := by
  have h3 : 1 ≤ (R + 1) * T := Nat.mul_pos (by omega) hT
  unfold clsW opnW
  generalize (R + 1) * T = Q at *
  generalize s * T = P at *
  omega
theorem stand_cls {T D R s : Nat} (hT : 1 ≤ T) (hs : s * T ≤ 1099511627776) : standW T D R (clsW T D R s) s = 1 := by
  obtain ⟨h1, _⟩ := opn_cls (D := D) (R := R) hT hs
  unfold standW
  generalize clsW T D R s = b at *
  generalize opnW T D s = a at *
  rw [if_neg (by omega), if_neg (by omega)]
theorem stand_one {T D R t s : Nat} (hs : s * T ≤ 1099511627776) : (standW T D R t s = 1 ↔ opnW T D s ≤ t ∧ t ≤ clsW T D R s) ∧ (standW T D R t s = 0 ↔ t < opnW T D s) := by
  unfold standW
  generalize clsW T D R s = b at *
  generalize opnW T D s = a at *
  generalize s * T = P at *
  split
  · refine ⟨?_, ?_⟩ <;> simp <;> omega
  · split
    · refine ⟨?_, ?_⟩ <;> simp <;> omega
    · refine ⟨?_, ?_⟩ <;> simp <;> omega
end Go.Proofs.YtjcpeimlebpglaaDoor
