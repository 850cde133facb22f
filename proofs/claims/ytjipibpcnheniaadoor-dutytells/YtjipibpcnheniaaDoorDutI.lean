/- Layer 10's laws: plain facts on committees. -/
import Derived.Test.YtjipibpcnheniaaDoorDutH
import Derived.OpenShut
namespace Go.Proofs.YtjipibpcnheniaaDoor
open Go.RowKit Go.Lib

theorem hold_uniq {V M j k : Nat} (hV : 1 ≤ V) (hM : 1 ≤ M) (h1 : bndC V M k ≤ j) (h2 : j < bndC V M (k + 1)) : holdD V M j = k := by
  unfold bndC at h1 h2
  have hp : 1 ≤ (j + 1) * M := Nat.mul_pos (by omega) hM
  have a1 : V * k < (j + 1) * M := by
    rw [← Nat.div_lt_iff_lt_mul (by omega)]; omega
  have a2 : (j + 1) * M ≤ V * (k + 1) := by
    rw [← Nat.le_div_iff_mul_le (by omega)]; omega
  unfold holdD
  apply Nat.le_antisymm
  · have : ((j + 1) * M - 1) / V < k + 1 := (Nat.div_lt_iff_lt_mul (by omega)).2 (by rw [Nat.mul_comm (k + 1) V]; omega)
    omega
  · exact (Nat.le_div_iff_mul_le (by omega)).2 (by rw [Nat.mul_comm k V]; omega)
theorem numD_at {S C e s i : Nat} (hs : s < S) : numD S C (e * S + s) i = s * C + i := by
  unfold numD
  rw [Nat.mul_comm e S, Nat.mul_add_mod, Nat.mod_eq_of_lt hs]
theorem slot_div {S e s : Nat} (hs : s < S) : (e * S + s) / S = e := by
  rw [Nat.mul_comm e S, Nat.mul_add_div (by omega), Nat.div_eq_of_lt hs, Nat.add_zero]
theorem num_parts {S C kk : Nat} (hC : 1 ≤ C) (hk : kk < numC S C) : kk / C < S ∧ kk % C < C ∧ kk / C * C + kk % C = kk := by
  unfold numC at hk
  refine ⟨?_, Nat.mod_lt _ hC, Nat.div_add_mod' kk C⟩
  rw [Nat.div_lt_iff_lt_mul hC]; exact hk
theorem memL_get {V K sd a b i : Nat} (h : i < (memL V K sd a b).length) : (memL V K sd a b)[i] = placeS (roundS V sd) K (a + i) := by
  simp only [memL, List.getElem_map, List.getElem_range', Nat.one_mul]
end Go.Proofs.YtjipibpcnheniaaDoor
