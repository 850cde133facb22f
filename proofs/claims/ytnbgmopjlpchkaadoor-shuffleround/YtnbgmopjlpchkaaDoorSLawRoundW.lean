/- The walk of the law ShuffleRound. -/
import Derived.Test.YtnbgmopjlpchkaaDoorShuG
namespace Go.Proofs.YtnbgmopjlpchkaaDoor
open Go.RowKit

set_option maxHeartbeats 2000000 in
set_option maxRecDepth 100000 in
theorem round_calls (n : Int) (wn : (Lit.int .i64 n).wf = true) (s : Int) (ws : (Lit.int .u64 s).wf = true) (r : Int) (wr : (Lit.int .i64 r).wf = true) (i : Int) (wi : (Lit.int .i64 i).wf = true) (w : World) (hT : Tab w) :
    Calls Tryd.prog 4 #[.int .i64 n, .int .u64 s, .int .i64 r, .int .i64 i] w fun e w' => e = .returned (.bool true) ∧ Below w.heap.size w w' := by
  refine Calls.mono (R := fun e w' => e = .returned (.bool true) ∧ At w w') ?_ fun _ _ h => ⟨h.1, h.2.2⟩
  have A0 := At.refl hT
  have bn := i64_of_wf wn
  obtain ⟨s, rfl, ls⟩ := u64_of_wf ws
  have br := i64_of_wf wr
  have bi := i64_of_wf wi
  obtain ⟨P, hP⟩ : ∃ x, pickS n 65536 = x := ⟨_, rfl⟩
  have lP := pickS_lt n 65536 (by omega)
  rw [hP] at lP
  have cP : ∀ W, At w W → Calls Tryd.prog 9 #[.int .i64 n, .int .i64 65536] W fun e w' => e = .returned (.int .i64 P) ∧ At w w' := fun W hA => an_pick n 65536 P hP bn (by omega) (by omega) hA
  obtain ⟨N, hN⟩ : ∃ N : Nat, N = P + 1 := ⟨_, rfl⟩
  have eN : (1 : Int) + (P : Int) = (N : Int) := by omega
  obtain ⟨R, hR⟩ : ∃ x, pickS r 90 = x := ⟨_, rfl⟩
  have lR := pickS_lt r 90 (by omega)
  rw [hR] at lR
  have cR : ∀ W, At w W → Calls Tryd.prog 9 #[.int .i64 r, .int .i64 90] W fun e w' => e = .returned (.int .i64 R) ∧ At w w' := fun W hA => an_pick r 90 R hR br (by omega) (by omega) hA
  obtain ⟨I, hI⟩ : ∃ x, pickS i (N : Int) = x := ⟨_, rfl⟩
  have lI := pickS_lt i (N : Int) (by omega)
  rw [hI] at lI
  have cI : ∀ W, At w W → Calls Tryd.prog 9 #[.int .i64 i, .int .i64 (N : Int)] W fun e w' => e = .returned (.int .i64 I) ∧ At w w' := fun W hA => an_pick i (N : Int) I hI bi (by omega) (by omega) hA
  obtain ⟨X, hX⟩ : ∃ X, roundS N s R I = X := ⟨_, rfl⟩
  have lX : X < N := by rw [← hX]; exact roundS_lt (by omega)
  have hB : roundS N s R X = I := by rw [← hX]; exact roundS_round (by omega)
  have d1 : ∀ W, At w W → Calls Tryd.prog 10 #[.int .i64 N, .int .u64 s, .int .i64 R, .int .i64 I] W fun e w' => e = .returned (.tuple #[.int .i64 X, .int .i64 0]) ∧ At w w' := fun W hA => an_round N s R I X hX (by omega) (by omega) (by omega) (by omega) hA
  have d2 : ∀ W, At w W → Calls Tryd.prog 10 #[.int .i64 N, .int .u64 s, .int .i64 R, .int .i64 X] W fun e w' => e = .returned (.tuple #[.int .i64 I, .int .i64 0]) ∧ At w w' := fun W hA => an_round N s R X I hB (by omega) (by omega) (by omega) (by omega) hA
  have f1 := eq_true (show (0 : Int) ≤ (X : Int) by omega)
  have f2 := eq_true (show (X : Int) < (N : Int) by omega)
  have f3 := eq_true lX
  clear hP hR hI hX hB hN lX
  go_enter Tryd.func4, Tryd.ntmps4
  go_wp2_with (first
    | (with_reducible refine (an_awake (by assumption)).mono ?_; rintro e w1 ⟨rfl, A1⟩)
    | (with_reducible refine (cP _ (by assumption)).mono ?_; rintro e w1 ⟨rfl, A1⟩)
    | (with_reducible refine (cR _ (by assumption)).mono ?_; rintro e w1 ⟨rfl, A1⟩)
    | (with_reducible refine (cI _ (by assumption)).mono ?_; rintro e w1 ⟨rfl, A1⟩)
    | (with_reducible refine (d1 _ (by assumption)).mono ?_; rintro e w1 ⟨rfl, A1⟩)
    | (with_reducible refine (d2 _ (by assumption)).mono ?_; rintro e w1 ⟨rfl, A1⟩))
  go_ret
  exact ⟨rfl, by assumption⟩
end Go.Proofs.YtnbgmopjlpchkaaDoor
