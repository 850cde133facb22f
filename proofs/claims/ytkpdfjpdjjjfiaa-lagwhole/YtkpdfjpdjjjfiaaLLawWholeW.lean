/- The walk of LagWhole. -/
import Derived.Test.YtkpdfjpdjjjfiaaLagI
import Derived.OpenShut
namespace Go.Proofs.Ytkpdfjpdjjjfiaa
open Go.RowKit Ieee

set_option maxHeartbeats 4000000 in
set_option maxRecDepth 100000 in
theorem lwhole_walk (n m : Int) (w : World) (hn : -9223372036854775808 ≤ n ∧ n ≤ 9223372036854775807) (hm : -9223372036854775808 ≤ m ∧ m ≤ 9223372036854775807) :
    Calls Try.prog 7 #[.int .i64 n, .int .i64 m] w fun e w' => e = .returned (.bool true) ∧ Below w.heap.size w w' := by
  obtain ⟨A, hA, pA⟩ := pick_calls n 1099511627777 hn (by omega) (by omega)
  obtain ⟨X, hX, pX⟩ := pick_calls n 18014398509481984 hn (by omega) (by omega)
  obtain ⟨Y, hY, pY⟩ := pick_calls m 18014398509481984 hm (by omega) (by omega)
  have oA := fun W => Of_any (A : Int) W
  have oN := fun W => Of_any (-(A : Int)) W
  have tA := fun W => Ticks_any (ofW A) W (ofW_lt _)
  have tN := fun W => Ticks_any (ofW (-(A : Int))) W (ofW_lt _)
  obtain ⟨e1, e2, e3, e4⟩ := ticks_of A (by omega)
  rw [e1, e2] at tA
  rw [e3, e4] at tN
  clear e1 e2 e3 e4
  have oX := fun W => Of_any ((X : Int) - 9007199254740992) W
  have oY := fun W => Of_any ((Y : Int) - 9007199254740992) W
  have hl := fun W => Less_any (ofW ((X : Int) - 9007199254740992)) (ofW ((Y : Int) - 9007199254740992)) W (ofW_lt _) (ofW_lt _)
  rw [of_less _ _ (by omega) (by omega) (by omega) (by omega)] at hl
  have hi := of_inj ((X : Int) - 9007199254740992) ((Y : Int) - 9007199254740992) (by omega) (by omega) (by omega) (by omega)
  generalize ofW (A : Int) = OA at *
  generalize ofW (-(A : Int)) = ON at *
  rcases Int.lt_trichotomy ((X : Int) - 9007199254740992) ((Y : Int) - 9007199254740992) with h | h | h
  · rw [decide_eq_true h] at hl
    have h2 : (((X : Int) - 9007199254740992) == ((Y : Int) - 9007199254740992)) = false := by simp; omega
    have h3 : ((ofW ((X : Int) - 9007199254740992) : Int) == (ofW ((Y : Int) - 9007199254740992) : Int)) = false := by
      simp only [beq_eq_false_iff_ne, ne_eq]
      intro g
      have := hi.1 (by omega)
      omega
    generalize ofW ((X : Int) - 9007199254740992) = OX at *
    generalize ofW ((Y : Int) - 9007199254740992) = OY at *
    clear hi
    go_enter Try.func7, Try.ntmps7
    go_wp2_with fail
    with_reducible refine (awake_any _).mono ?_
    rintro e w1 ⟨rfl, hB⟩
    go_wp2_with (first
      | (with_reducible refine (pA _).mono ?_; rintro e w2 ⟨rfl, rfl⟩)
      | (with_reducible refine (oA _).mono ?_; rintro e w2 ⟨rfl, rfl⟩)
      | (with_reducible refine (tA _).mono ?_; rintro e w2 ⟨rfl, rfl⟩)
      | (with_reducible refine (oN _).mono ?_; rintro e w2 ⟨rfl, rfl⟩)
      | (with_reducible refine (tN _).mono ?_; rintro e w2 ⟨rfl, rfl⟩)
      | (with_reducible refine (pX _).mono ?_; rintro e w2 ⟨rfl, rfl⟩)
      | (with_reducible refine (pY _).mono ?_; rintro e w2 ⟨rfl, rfl⟩)
      | (with_reducible refine (oX _).mono ?_; rintro e w2 ⟨rfl, rfl⟩)
      | (with_reducible refine (oY _).mono ?_; rintro e w2 ⟨rfl, rfl⟩)
      | (with_reducible refine (hl _).mono ?_; rintro e w2 ⟨rfl, rfl⟩))
    go_ret
    exact ⟨rfl, hB⟩
  · obtain rfl : X = Y := by omega
    rw [decide_eq_false (by omega)] at hl
    generalize ofW ((X : Int) - 9007199254740992) = OX at *
    clear hi h
    go_enter Try.func7, Try.ntmps7
    go_wp2_with fail
    with_reducible refine (awake_any _).mono ?_
    rintro e w1 ⟨rfl, hB⟩
    go_wp2_with (first
      | (with_reducible refine (pA _).mono ?_; rintro e w2 ⟨rfl, rfl⟩)
      | (with_reducible refine (oA _).mono ?_; rintro e w2 ⟨rfl, rfl⟩)
      | (with_reducible refine (tA _).mono ?_; rintro e w2 ⟨rfl, rfl⟩)
      | (with_reducible refine (oN _).mono ?_; rintro e w2 ⟨rfl, rfl⟩)
      | (with_reducible refine (tN _).mono ?_; rintro e w2 ⟨rfl, rfl⟩)
      | (with_reducible refine (pX _).mono ?_; rintro e w2 ⟨rfl, rfl⟩)
      | (with_reducible refine (pY _).mono ?_; rintro e w2 ⟨rfl, rfl⟩)
      | (with_reducible refine (oX _).mono ?_; rintro e w2 ⟨rfl, rfl⟩)
      | (with_reducible refine (oY _).mono ?_; rintro e w2 ⟨rfl, rfl⟩)
      | (with_reducible refine (hl _).mono ?_; rintro e w2 ⟨rfl, rfl⟩))
    go_ret
    exact ⟨rfl, hB⟩
  · rw [decide_eq_false (by omega)] at hl
    have h1 : ((X : Int) - 9007199254740992 < (Y : Int) - 9007199254740992) = False := eq_false (by omega)
    have h2 : (((X : Int) - 9007199254740992) == ((Y : Int) - 9007199254740992)) = false := by simp; omega
    have h3 : ((ofW ((X : Int) - 9007199254740992) : Int) == (ofW ((Y : Int) - 9007199254740992) : Int)) = false := by
      simp only [beq_eq_false_iff_ne, ne_eq]
      intro g
      have := hi.1 (by omega)
      omega
    generalize ofW ((X : Int) - 9007199254740992) = OX at *
    generalize ofW ((Y : Int) - 9007199254740992) = OY at *
    clear hi h
    go_enter Try.func7, Try.ntmps7
    go_wp2_with fail
    with_reducible refine (awake_any _).mono ?_
    rintro e w1 ⟨rfl, hB⟩
    go_wp2_with (first
      | (with_reducible refine (pA _).mono ?_; rintro e w2 ⟨rfl, rfl⟩)
      | (with_reducible refine (oA _).mono ?_; rintro e w2 ⟨rfl, rfl⟩)
      | (with_reducible refine (tA _).mono ?_; rintro e w2 ⟨rfl, rfl⟩)
      | (with_reducible refine (oN _).mono ?_; rintro e w2 ⟨rfl, rfl⟩)
      | (with_reducible refine (tN _).mono ?_; rintro e w2 ⟨rfl, rfl⟩)
      | (with_reducible refine (pX _).mono ?_; rintro e w2 ⟨rfl, rfl⟩)
      | (with_reducible refine (pY _).mono ?_; rintro e w2 ⟨rfl, rfl⟩)
      | (with_reducible refine (oX _).mono ?_; rintro e w2 ⟨rfl, rfl⟩)
      | (with_reducible refine (oY _).mono ?_; rintro e w2 ⟨rfl, rfl⟩)
      | (with_reducible refine (hl _).mono ?_; rintro e w2 ⟨rfl, rfl⟩))
    go_ret
    exact ⟨rfl, hB⟩

theorem lwhole_calls (a : Int) (hfa : (Lit.int .i64 a).wf = true) (b : Int) (hfb : (Lit.int .i64 b).wf = true) (w : World) :
    Calls Try.prog 7 #[.int .i64 a, .int .i64 b] w fun e w' => e = .returned (.bool true) ∧ Below w.heap.size w w' :=
  lwhole_walk a b w (i64_of_wf hfa) (i64_of_wf hfb)
end Go.Proofs.Ytkpdfjpdjjjfiaa
