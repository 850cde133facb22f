/- Layer 12: the statements' own small functions: pick, awake. -/
import Derived.Test.YtjcpeimlebpglaaDoorWinCp
namespace Go.Proofs.YtjcpeimlebpglaaDoor
open Go.RowKit

theorem pickW_any (c n : Int) (w : World) (hc : -9223372036854775808 ≤ c ∧ c ≤ 9223372036854775807) (hn : 0 < n) (hn2 : n ≤ 4398046511104) :
    Calls Tryd.prog 10 #[.int .i64 c, .int .i64 n] w fun e w' => e = .returned (.int .i64 (cpick c n)) ∧ w = w' := by
  by_cases h : c < 0
  · have he : cpick c n = -((c + 1).tmod n) := by
      unfold cpick
      rw [if_pos h, ← Int.neg_tmod, Int.tmod_eq_emod_of_nonneg (by omega)]
    rw [he]
    clear he
    go_enter Tryd.func10, Tryd.ntmps10
    go_wp2
    go_ret
    exact ⟨rfl, rfl⟩
  · have he : cpick c n = c % n := by unfold cpick; rw [if_neg h]
    rw [he]
    clear he
    go_enter Tryd.func10, Tryd.ntmps10
    go_wp2
    go_ret
    exact ⟨rfl, rfl⟩
theorem pickW_of {c n p : Int} (hp : cpick c n = p) (hc : -9223372036854775808 ≤ c ∧ c ≤ 9223372036854775807) (hn : 0 < n) (hn2 : n ≤ 4398046511104) (w : World) :
    Calls Tryd.prog 10 #[.int .i64 c, .int .i64 n] w fun e w' => e = .returned (.int .i64 p) ∧ w = w' := by
  subst hp; exact pickW_any c n w hc hn hn2
abbrev exW : List Value := [.int .i64 1, .int .i64 4, .int .i64 1, .int .i64 1, .int .i64 10, .int .i64 2, .int .i64 3, .int .i64 0, .int .i64 1, .int .u64 0]
theorem span_ex1 : SpanOf 10 2 3 38 0 4 := span_nat 10 2 3 38 (by decide) (by decide)
theorem span_ex2 : SpanOf 10 2 3 42 1 4 := span_nat 10 2 3 42 (by decide) (by decide)
set_option maxHeartbeats 2000000 in
set_option maxRecDepth 100000 in
theorem awake12_any (w : World) (hT : Spans w) :
    Calls Tryd.prog 8 #[] w fun e w' => e = .returned (.bool true) ∧ Below w.heap.size w w' := by
  have c0 : ∀ W, AtC w W w.heap.size exW → Calls Tryd.prog 11 #[.agg #[.int .i64 1, .int .i64 4, .int .i64 1, .int .i64 1, .int .i64 10, .int .i64 2, .int .i64 3, .int .i64 0, .int .i64 1, .int .u64 0], .int .i64 4] W fun e w' => e = .returned (.tuple #[.int .i64 38, .int .i64 0]) ∧ AtC w w' w.heap.size exW := fun W h => atc_of h (wOpens_any (v := 1) (s := 4) (c := 1) (n := 1) (t := 10) (d := 2) (r := 3) (k := 0) (g := 1) (fit := true) (by decide) 0 W h.1 4 (by decide) 38 0 (by decide))
  have c1 : ∀ W, AtC w W w.heap.size exW → Calls Tryd.prog 13 #[.agg #[.int .i64 1, .int .i64 4, .int .i64 1, .int .i64 1, .int .i64 10, .int .i64 2, .int .i64 3, .int .i64 0, .int .i64 1, .int .u64 0], .int .i64 4] W fun e w' => e = .returned (.tuple #[.int .i64 81, .int .i64 0]) ∧ AtC w w' w.heap.size exW := fun W h => atc_of h (wCloses_any (v := 1) (s := 4) (c := 1) (n := 1) (t := 10) (d := 2) (r := 3) (k := 0) (g := 1) (fit := true) (by decide) 0 W h.1 4 (by decide) 81 0 (by decide))
  have c2 : ∀ W, AtC w W w.heap.size exW → Calls Tryd.prog 17 #[.agg #[.int .i64 1, .int .i64 4, .int .i64 1, .int .i64 1, .int .i64 10, .int .i64 2, .int .i64 3, .int .i64 0, .int .i64 1, .int .u64 0], .int .i64 38] W fun e w' => e = .returned (.tuple #[.int .i64 0, .int .i64 4, .int .i64 0]) ∧ AtC w w' w.heap.size exW := fun W h => atc_of h (wSpan_yes (v := 1) (s := 4) (c := 1) (n := 1) (t := 10) (d := 2) (r := 3) (k := 0) (g := 1) (by decide) 0 W h.1 38 (by decide) 0 4 span_ex1)
  have c3 : ∀ W, AtC w W w.heap.size exW → Calls Tryd.prog 17 #[.agg #[.int .i64 1, .int .i64 4, .int .i64 1, .int .i64 1, .int .i64 10, .int .i64 2, .int .i64 3, .int .i64 0, .int .i64 1, .int .u64 0], .int .i64 42] W fun e w' => e = .returned (.tuple #[.int .i64 1, .int .i64 4, .int .i64 0]) ∧ AtC w w' w.heap.size exW := fun W h => atc_of h (wSpan_yes (v := 1) (s := 4) (c := 1) (n := 1) (t := 10) (d := 2) (r := 3) (k := 0) (g := 1) (by decide) 0 W h.1 42 (by decide) 1 4 span_ex2)
  have c4 : ∀ W, AtC w W w.heap.size exW → Calls Tryd.prog 15 #[.agg #[.int .i64 1, .int .i64 4, .int .i64 1, .int .i64 1, .int .i64 10, .int .i64 2, .int .i64 3, .int .i64 0, .int .i64 1, .int .u64 0], .int .i64 82, .int .i64 4] W fun e w' => e = .returned (.tuple #[.int .i64 2, .int .i64 0]) ∧ AtC w w' w.heap.size exW := fun W h => atc_of h (wStand_any (v := 1) (s := 4) (c := 1) (n := 1) (t := 10) (d := 2) (r := 3) (k := 0) (g := 1) (fit := true) (by decide) 0 W h.1 82 (by decide) 4 (by decide) 2 0 (by decide))
  have c5 : ∀ W, AtC w W w.heap.size exW → Calls Tryd.prog 15 #[.agg #[.int .i64 1, .int .i64 4, .int .i64 1, .int .i64 1, .int .i64 10, .int .i64 2, .int .i64 3, .int .i64 0, .int .i64 1, .int .u64 0], .int .i64 37, .int .i64 4] W fun e w' => e = .returned (.tuple #[.int .i64 0, .int .i64 0]) ∧ AtC w w' w.heap.size exW := fun W h => atc_of h (wStand_any (v := 1) (s := 4) (c := 1) (n := 1) (t := 10) (d := 2) (r := 3) (k := 0) (g := 1) (fit := true) (by decide) 0 W h.1 37 (by decide) 4 (by decide) 0 0 (by decide))
  have c6 : ∀ W, AtC w W w.heap.size exW → Calls Tryd.prog 15 #[.agg #[.int .i64 1, .int .i64 4, .int .i64 1, .int .i64 1, .int .i64 10, .int .i64 2, .int .i64 3, .int .i64 0, .int .i64 1, .int .u64 0], .int .i64 38, .int .i64 4] W fun e w' => e = .returned (.tuple #[.int .i64 1, .int .i64 0]) ∧ AtC w w' w.heap.size exW := fun W h => atc_of h (wStand_any (v := 1) (s := 4) (c := 1) (n := 1) (t := 10) (d := 2) (r := 3) (k := 0) (g := 1) (fit := true) (by decide) 0 W h.1 38 (by decide) 4 (by decide) 1 0 (by decide))
  have c7 : ∀ W, AtC w W w.heap.size exW → Calls Tryd.prog 11 #[.agg #[.int .i64 1, .int .i64 4, .int .i64 1, .int .i64 1, .int .i64 10, .int .i64 2, .int .i64 3, .int .i64 0, .int .i64 1, .int .u64 0], .int .i64 1099511627776] W fun e w' => e = .returned (.tuple #[.int .i64 0, .int .i64 8]) ∧ AtC w w' w.heap.size exW := fun W h => atc_of h (wOpens_any (v := 1) (s := 4) (c := 1) (n := 1) (t := 10) (d := 2) (r := 3) (k := 0) (g := 1) (fit := true) (by decide) 0 W h.1 1099511627776 (by decide) 0 8 (by decide))
  have c8 : ∀ W, AtC w W w.heap.size exW → Calls Tryd.prog 15 #[.agg #[.int .i64 1, .int .i64 4, .int .i64 1, .int .i64 1, .int .i64 10, .int .i64 2, .int .i64 3, .int .i64 0, .int .i64 1, .int .u64 0], .int .i64 1099511627777, .int .i64 0] W fun e w' => e = .returned (.tuple #[.int .i64 0, .int .i64 1]) ∧ AtC w w' w.heap.size exW := fun W h => atc_of h (wStand_any (v := 1) (s := 4) (c := 1) (n := 1) (t := 10) (d := 2) (r := 3) (k := 0) (g := 1) (fit := true) (by decide) 0 W h.1 1099511627777 (by decide) 0 (by decide) 0 1 (by decide))
  have A0 : AtC w (w.alloc (.cells #[.int .i64 1, .int .i64 4, .int .i64 1, .int .i64 1, .int .i64 10, .int .i64 2, .int .i64 3, .int .i64 0, .int .i64 1, .int .u64 0] 24)) w.heap.size exW := AtC.new hT (Below.refl _ _)
  go_enter Tryd.func8, Tryd.ntmps8
  go_wp2_with (first
    | ((with_reducible refine (c0 _ (by assumption)).mono ?_); rintro e w1 ⟨rfl, A1⟩; obtain ⟨q0, q1, q2, q3, q4, q5, q6, q7, q8, q9⟩ := A1.cells)
    | ((with_reducible refine (c1 _ (by assumption)).mono ?_); rintro e w1 ⟨rfl, A1⟩; obtain ⟨q0, q1, q2, q3, q4, q5, q6, q7, q8, q9⟩ := A1.cells)
    | ((with_reducible refine (c2 _ (by assumption)).mono ?_); rintro e w1 ⟨rfl, A1⟩; obtain ⟨q0, q1, q2, q3, q4, q5, q6, q7, q8, q9⟩ := A1.cells)
    | ((with_reducible refine (c3 _ (by assumption)).mono ?_); rintro e w1 ⟨rfl, A1⟩; obtain ⟨q0, q1, q2, q3, q4, q5, q6, q7, q8, q9⟩ := A1.cells)
    | ((with_reducible refine (c4 _ (by assumption)).mono ?_); rintro e w1 ⟨rfl, A1⟩; obtain ⟨q0, q1, q2, q3, q4, q5, q6, q7, q8, q9⟩ := A1.cells)
    | ((with_reducible refine (c5 _ (by assumption)).mono ?_); rintro e w1 ⟨rfl, A1⟩; obtain ⟨q0, q1, q2, q3, q4, q5, q6, q7, q8, q9⟩ := A1.cells)
    | ((with_reducible refine (c6 _ (by assumption)).mono ?_); rintro e w1 ⟨rfl, A1⟩; obtain ⟨q0, q1, q2, q3, q4, q5, q6, q7, q8, q9⟩ := A1.cells)
    | ((with_reducible refine (c7 _ (by assumption)).mono ?_); rintro e w1 ⟨rfl, A1⟩; obtain ⟨q0, q1, q2, q3, q4, q5, q6, q7, q8, q9⟩ := A1.cells)
    | ((with_reducible refine (c8 _ (by assumption)).mono ?_); rintro e w1 ⟨rfl, A1⟩; obtain ⟨q0, q1, q2, q3, q4, q5, q6, q7, q8, q9⟩ := A1.cells))
  go_ret
  exact ⟨rfl, (by assumption : AtC w _ _ _).2.1⟩
end Go.Proofs.YtjcpeimlebpglaaDoor
