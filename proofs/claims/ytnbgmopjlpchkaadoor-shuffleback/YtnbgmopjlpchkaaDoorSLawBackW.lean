/- The walk of the law ShuffleBack. -/
import Derived.Test.YtnbgmopjlpchkaaDoorShuG
namespace Go.Proofs.YtnbgmopjlpchkaaDoor
open Go.RowKit

set_option maxHeartbeats 2000000 in
set_option maxRecDepth 100000 in
theorem back_calls (n : Int) (wn : (Lit.int .i64 n).wf = true) (m : Int) (wm : (Lit.int .i64 m).wf = true) (s : Int) (ws : (Lit.int .u64 s).wf = true) (i : Int) (wi : (Lit.int .i64 i).wf = true) (j : Int) (wj : (Lit.int .i64 j).wf = true) (w : World) (hT : Tab w) :
    Calls Tryd.prog 5 #[.int .i64 n, .int .i64 m, .int .u64 s, .int .i64 i, .int .i64 j] w fun e w' => e = .returned (.bool true) ∧ Below w.heap.size w w' := by
  refine Calls.mono (R := fun e w' => e = .returned (.bool true) ∧ At w w') ?_ fun _ _ h => ⟨h.1, h.2.2⟩
  have A0 := At.refl hT
  have bn := i64_of_wf wn
  have bm := i64_of_wf wm
  obtain ⟨s, rfl, ls⟩ := u64_of_wf ws
  have bi := i64_of_wf wi
  have bj := i64_of_wf wj
  obtain ⟨P, hP⟩ : ∃ x, pickS n 65536 = x := ⟨_, rfl⟩
  have lP := pickS_lt n 65536 (by omega)
  rw [hP] at lP
  have cP : ∀ W, At w W → Calls Tryd.prog 9 #[.int .i64 n, .int .i64 65536] W fun e w' => e = .returned (.int .i64 P) ∧ At w w' := fun W hA => an_pick n 65536 P hP bn (by omega) (by omega) hA
  obtain ⟨N, hN⟩ : ∃ N : Nat, N = P + 1 := ⟨_, rfl⟩
  have eN : (1 : Int) + (P : Int) = (N : Int) := by omega
  obtain ⟨M, hM⟩ : ∃ x, pickS m 91 = x := ⟨_, rfl⟩
  have lM := pickS_lt m 91 (by omega)
  rw [hM] at lM
  have cM : ∀ W, At w W → Calls Tryd.prog 9 #[.int .i64 m, .int .i64 91] W fun e w' => e = .returned (.int .i64 M) ∧ At w w' := fun W hA => an_pick m 91 M hM bm (by omega) (by omega) hA
  obtain ⟨I, hI⟩ : ∃ x, pickS i (N : Int) = x := ⟨_, rfl⟩
  have lI := pickS_lt i (N : Int) (by omega)
  rw [hI] at lI
  have cI : ∀ W, At w W → Calls Tryd.prog 9 #[.int .i64 i, .int .i64 (N : Int)] W fun e w' => e = .returned (.int .i64 I) ∧ At w w' := fun W hA => an_pick i (N : Int) I hI bi (by omega) (by omega) hA
  obtain ⟨J, hJ⟩ : ∃ x, pickS j (N : Int) = x := ⟨_, rfl⟩
  have lJ := pickS_lt j (N : Int) (by omega)
  rw [hJ] at lJ
  have cJ : ∀ W, At w W → Calls Tryd.prog 9 #[.int .i64 j, .int .i64 (N : Int)] W fun e w' => e = .returned (.int .i64 J) ∧ At w w' := fun W hA => an_pick j (N : Int) J hJ bj (by omega) (by omega) hA
  obtain ⟨X, hX⟩ : ∃ X, placeS (roundS N s) M I = X := ⟨_, rfl⟩
  have lX : X < N := by rw [← hX]; exact runS_lt stS_lt _ (by omega)
  have hB : backS (roundS N s) M X = I := by rw [← hX]; exact back_place stS_lt stS_st M (by omega)
  obtain ⟨Y, hY⟩ : ∃ Y, backS (roundS N s) M I = Y := ⟨_, rfl⟩
  have lY : Y < N := by rw [← hY]; exact runS_lt stS_lt _ (by omega)
  have hD : placeS (roundS N s) M Y = I := by rw [← hY]; exact place_back stS_lt stS_st M (by omega)
  obtain ⟨Z, hZ⟩ : ∃ Z, placeS (roundS N s) M J = Z := ⟨_, rfl⟩
  have hE : X = Z ↔ I = J := by rw [← hX, ← hZ]; exact place_inj stS_lt stS_st M (by omega) (by omega)
  have d1 : ∀ W, At w W → Calls Tryd.prog 12 #[.int .i64 N, .int .i64 M, .int .u64 s, .int .i64 I] W fun e w' => e = .returned (.tuple #[.int .i64 X, .int .i64 0]) ∧ At w w' := fun W hA => an_place N M s I X _ rfl hX (by omega) (by omega) (by omega) (by omega) hA
  have d2 : ∀ W, At w W → Calls Tryd.prog 14 #[.int .i64 N, .int .i64 M, .int .u64 s, .int .i64 X] W fun e w' => e = .returned (.tuple #[.int .i64 I, .int .i64 0]) ∧ At w w' := fun W hA => an_back N M s X I _ rfl hB (by omega) (by omega) (by omega) (by omega) hA
  have d3 : ∀ W, At w W → Calls Tryd.prog 14 #[.int .i64 N, .int .i64 M, .int .u64 s, .int .i64 I] W fun e w' => e = .returned (.tuple #[.int .i64 Y, .int .i64 0]) ∧ At w w' := fun W hA => an_back N M s I Y _ rfl hY (by omega) (by omega) (by omega) (by omega) hA
  have d4 : ∀ W, At w W → Calls Tryd.prog 12 #[.int .i64 N, .int .i64 M, .int .u64 s, .int .i64 Y] W fun e w' => e = .returned (.tuple #[.int .i64 I, .int .i64 0]) ∧ At w w' := fun W hA => an_place N M s Y I _ rfl hD (by omega) (by omega) (by omega) (by omega) hA
  have d5 : ∀ W, At w W → Calls Tryd.prog 12 #[.int .i64 N, .int .i64 M, .int .u64 s, .int .i64 J] W fun e w' => e = .returned (.tuple #[.int .i64 Z, .int .i64 0]) ∧ At w w' := fun W hA => an_place N M s J Z _ rfl hZ (by omega) (by omega) (by omega) (by omega) hA
  have f1 := eq_true (show (0 : Int) ≤ (X : Int) by omega)
  have f2 := eq_true (show (X : Int) < (N : Int) by omega)
  have f3 := eq_true lX
  have f4 := eq_true (show (0 : Int) ≤ (Y : Int) by omega)
  have f5 := eq_true (show (Y : Int) < (N : Int) by omega)
  have f6 := eq_true lY
  have hW : (((X : Int) == (Z : Int)) = true ∧ ((I : Int) == (J : Int)) = true) ∨ (((X : Int) == (Z : Int)) = false ∧ ((I : Int) == (J : Int)) = false) := by
    by_cases e : I = J
    · exact .inl ⟨by rw [hE.2 e]; simp, by rw [e]; simp⟩
    · exact .inr ⟨beq_of_ne fun h => e (hE.1 h), beq_of_ne e⟩
  clear hP hM hI hJ hX hB hY hD hZ hE hN lX lY
  rcases hW with ⟨q1, q2⟩ | ⟨q1, q2⟩
  all_goals
    go_enter Tryd.func5, Tryd.ntmps5
    go_wp2_with (first
      | (with_reducible refine (an_awake (by assumption)).mono ?_; rintro e w1 ⟨rfl, A1⟩)
      | (with_reducible refine (cP _ (by assumption)).mono ?_; rintro e w1 ⟨rfl, A1⟩)
      | (with_reducible refine (cM _ (by assumption)).mono ?_; rintro e w1 ⟨rfl, A1⟩)
      | (with_reducible refine (cI _ (by assumption)).mono ?_; rintro e w1 ⟨rfl, A1⟩)
      | (with_reducible refine (cJ _ (by assumption)).mono ?_; rintro e w1 ⟨rfl, A1⟩)
      | (with_reducible refine (d1 _ (by assumption)).mono ?_; rintro e w1 ⟨rfl, A1⟩)
      | (with_reducible refine (d2 _ (by assumption)).mono ?_; rintro e w1 ⟨rfl, A1⟩)
      | (with_reducible refine (d3 _ (by assumption)).mono ?_; rintro e w1 ⟨rfl, A1⟩)
      | (with_reducible refine (d4 _ (by assumption)).mono ?_; rintro e w1 ⟨rfl, A1⟩)
      | (with_reducible refine (d5 _ (by assumption)).mono ?_; rintro e w1 ⟨rfl, A1⟩))
    go_ret
    exact ⟨rfl, by assumption⟩
end Go.Proofs.YtnbgmopjlpchkaaDoor
