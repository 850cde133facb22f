/- The walk of the law ShuffleNext. -/
import Derived.Test.YtnbgmopjlpchkaaDoorShuG
namespace Go.Proofs.YtnbgmopjlpchkaaDoor
open Go.RowKit

set_option maxHeartbeats 2000000 in
set_option maxRecDepth 100000 in
theorem next_calls (n : Int) (wn : (Lit.int .i64 n).wf = true) (m : Int) (wm : (Lit.int .i64 m).wf = true) (s : Int) (ws : (Lit.int .u64 s).wf = true) (i : Int) (wi : (Lit.int .i64 i).wf = true) (w : World) (hT : Tab w) :
    Calls Tryd.prog 7 #[.int .i64 n, .int .i64 m, .int .u64 s, .int .i64 i] w fun e w' => e = .returned (.bool true) ∧ Below w.heap.size w w' := by
  refine Calls.mono (R := fun e w' => e = .returned (.bool true) ∧ At w w') ?_ fun _ _ h => ⟨h.1, h.2.2⟩
  have A0 := At.refl hT
  have bn := i64_of_wf wn
  have bm := i64_of_wf wm
  obtain ⟨s, rfl, ls⟩ := u64_of_wf ws
  have bi := i64_of_wf wi
  obtain ⟨P, hP⟩ : ∃ x, pickS n 65536 = x := ⟨_, rfl⟩
  have lP := pickS_lt n 65536 (by omega)
  rw [hP] at lP
  have cP : ∀ W, At w W → Calls Tryd.prog 9 #[.int .i64 n, .int .i64 65536] W fun e w' => e = .returned (.int .i64 P) ∧ At w w' := fun W hA => an_pick n 65536 P hP bn (by omega) (by omega) hA
  obtain ⟨N, hN⟩ : ∃ N : Nat, N = P + 1 := ⟨_, rfl⟩
  have eN : (1 : Int) + (P : Int) = (N : Int) := by omega
  obtain ⟨M, hM⟩ : ∃ x, pickS m 90 = x := ⟨_, rfl⟩
  have lM := pickS_lt m 90 (by omega)
  rw [hM] at lM
  have cM : ∀ W, At w W → Calls Tryd.prog 9 #[.int .i64 m, .int .i64 90] W fun e w' => e = .returned (.int .i64 M) ∧ At w w' := fun W hA => an_pick m 90 M hM bm (by omega) (by omega) hA
  obtain ⟨I, hI⟩ : ∃ x, pickS i (N : Int) = x := ⟨_, rfl⟩
  have lI := pickS_lt i (N : Int) (by omega)
  rw [hI] at lI
  have cI : ∀ W, At w W → Calls Tryd.prog 9 #[.int .i64 i, .int .i64 (N : Int)] W fun e w' => e = .returned (.int .i64 I) ∧ At w w' := fun W hA => an_pick i (N : Int) I hI bi (by omega) (by omega) hA
  obtain ⟨X, hX⟩ : ∃ X, placeS (roundS N s) M I = X := ⟨_, rfl⟩
  have lX : X < N := by rw [← hX]; exact runS_lt stS_lt _ (by omega)
  obtain ⟨Y, hY⟩ : ∃ Y, roundS N s M X = Y := ⟨_, rfl⟩
  have hZ : placeS (roundS N s) (M + 1) I = Y := by rw [placeS_succ, hX, hY]
  obtain ⟨U, hU⟩ : ∃ U, roundS N s M I = U := ⟨_, rfl⟩
  have lU : U < N := by rw [← hU]; exact roundS_lt (by omega)
  obtain ⟨V, hV⟩ : ∃ V, backS (roundS N s) M U = V := ⟨_, rfl⟩
  have hQ : backS (roundS N s) (M + 1) I = V := by rw [backS_succ, hU, hV]
  have d1 : ∀ W, At w W → Calls Tryd.prog 12 #[.int .i64 N, .int .i64 M, .int .u64 s, .int .i64 I] W fun e w' => e = .returned (.tuple #[.int .i64 X, .int .i64 0]) ∧ At w w' := fun W hA => an_place N M s I X _ rfl hX (by omega) (by omega) (by omega) (by omega) hA
  have d2 : ∀ W, At w W → Calls Tryd.prog 10 #[.int .i64 N, .int .u64 s, .int .i64 M, .int .i64 X] W fun e w' => e = .returned (.tuple #[.int .i64 Y, .int .i64 0]) ∧ At w w' := fun W hA => an_round N s M X Y hY (by omega) (by omega) (by omega) (by omega) hA
  have d3 : ∀ W, At w W → Calls Tryd.prog 12 #[.int .i64 N, .int .i64 ((M : Int) + 1), .int .u64 s, .int .i64 I] W fun e w' => e = .returned (.tuple #[.int .i64 Y, .int .i64 0]) ∧ At w w' := fun W hA => an_place N (M + 1) s I Y _ (by omega) hZ (by omega) (by omega) (by omega) (by omega) hA
  have d4 : ∀ W, At w W → Calls Tryd.prog 10 #[.int .i64 N, .int .u64 s, .int .i64 M, .int .i64 I] W fun e w' => e = .returned (.tuple #[.int .i64 U, .int .i64 0]) ∧ At w w' := fun W hA => an_round N s M I U hU (by omega) (by omega) (by omega) (by omega) hA
  have d5 : ∀ W, At w W → Calls Tryd.prog 14 #[.int .i64 N, .int .i64 M, .int .u64 s, .int .i64 U] W fun e w' => e = .returned (.tuple #[.int .i64 V, .int .i64 0]) ∧ At w w' := fun W hA => an_back N M s U V _ rfl hV (by omega) (by omega) (by omega) (by omega) hA
  have d6 : ∀ W, At w W → Calls Tryd.prog 14 #[.int .i64 N, .int .i64 ((M : Int) + 1), .int .u64 s, .int .i64 I] W fun e w' => e = .returned (.tuple #[.int .i64 V, .int .i64 0]) ∧ At w w' := fun W hA => an_back N (M + 1) s I V _ (by omega) hQ (by omega) (by omega) (by omega) (by omega) hA
  clear hP hM hI hX hY hZ hU hV hQ hN lX lU
  go_enter Tryd.func7, Tryd.ntmps7
  go_wp2_with (first
    | (with_reducible refine (an_awake (by assumption)).mono ?_; rintro e w1 ⟨rfl, A1⟩)
    | (with_reducible refine (cP _ (by assumption)).mono ?_; rintro e w1 ⟨rfl, A1⟩)
    | (with_reducible refine (cM _ (by assumption)).mono ?_; rintro e w1 ⟨rfl, A1⟩)
    | (with_reducible refine (cI _ (by assumption)).mono ?_; rintro e w1 ⟨rfl, A1⟩)
    | (with_reducible refine (d1 _ (by assumption)).mono ?_; rintro e w1 ⟨rfl, A1⟩)
    | (with_reducible refine (d2 _ (by assumption)).mono ?_; rintro e w1 ⟨rfl, A1⟩)
    | (with_reducible refine (d3 _ (by assumption)).mono ?_; rintro e w1 ⟨rfl, A1⟩)
    | (with_reducible refine (d4 _ (by assumption)).mono ?_; rintro e w1 ⟨rfl, A1⟩)
    | (with_reducible refine (d5 _ (by assumption)).mono ?_; rintro e w1 ⟨rfl, A1⟩)
    | (with_reducible refine (d6 _ (by assumption)).mono ?_; rintro e w1 ⟨rfl, A1⟩))
  go_ret
  exact ⟨rfl, by assumption⟩
end Go.Proofs.YtnbgmopjlpchkaaDoor
