/- The walk of the law WindowEdges. -/
import Derived.Test.YtjcpeimlebpglaaDoorWinD
import Derived.Deep.QuietTactic
import Derived.BigQuiet
import Derived.Lib.MinMax
import Derived.Lib.Hide
namespace Go.Proofs.YtjcpeimlebpglaaDoor
open Go.RowKit

set_option maxHeartbeats 4000000 in
set_option maxRecDepth 100000 in
theorem edges_late {n0 n1 n2 n3 n4 n5 v s c n t d r k g : Int} (hch : ChainOf n0 n1 n2 n3 n4 n5 v s c n t d r k g) (w : World) (hT : Spans w) (b0 : I64K n0) (b1 : I64K n1) (b2 : I64K n2) (b3 : I64K n3) (b4 : I64K n4) (b5 : I64K n5) (x p S P Q b : Int) (HP : ∀ W, Calls Tryd.prog 10 #[.int .i64 x, .int .i64 (1099511627776 / t)] W fun e w' => e = .returned (.int .i64 p) ∧ W = w') (hs : 1 + p = S) (hp0 : 0 ≤ p) (hp1 : p < 1099511627776 / t) (hm0 : 0 ≤ 1099511627776 / t) (hm1 : 1099511627776 / t ≤ 1099511627776) (hS : S * t = P) (hS1 : (S + 1) * t = P + t) (hQ : (r + 1) * t = Q) (hP0 : t ≤ P) (hP1 : P ≤ 1099511627776) (hQ0 : 1 ≤ Q) (hQ1 : Q ≤ 65000) (hb : min (P + Q + d - 1) 1099511627776 = b) (hcase : 1099511627776 < P + t) :
    Calls Tryd.prog 7 #[.agg #[.int .i64 n0, .int .i64 n1, .int .i64 n2, .int .i64 n3, .int .i64 n4, .int .i64 n5], .int .i64 x] w fun e w' => e = .returned (.bool true) ∧ Below w.heap.size w w' := by
  obtain ⟨_, _, _, _, ⟨t1, t2⟩, ⟨d1, d2⟩, ⟨r1, r2⟩, _, _⟩ := hch.small
  have hf := hch.small.fits
  have hbq : b ≤ 1099511627776 ∧ P - d ≤ b := by omega
  have c0 : ∀ W G, AtC w W G [.int .i64 v, .int .i64 s, .int .i64 c, .int .i64 n, .int .i64 t, .int .i64 d, .int .i64 r, .int .i64 k, .int .i64 g, .int .u64 0] → Calls Tryd.prog 11 #[.agg #[.int .i64 v, .int .i64 s, .int .i64 c, .int .i64 n, .int .i64 t, .int .i64 d, .int .i64 r, .int .i64 k, .int .i64 g, .int .u64 0], .int .i64 S] W fun e w' => e = .returned (.tuple #[.int .i64 (P - d), .int .i64 0]) ∧ AtC w w' G [.int .i64 v, .int .i64 s, .int .i64 c, .int .i64 n, .int .i64 t, .int .i64 d, .int .i64 r, .int .i64 k, .int .i64 g, .int .u64 0] := fun W G h => atc_of h (wOpens_any hf 0 W h.1 S (by omega) (P - d) 0 (opens_ok (by rw [hS]; omega) (by omega) (by rw [hS]; omega)))
  have c1 : ∀ W G, AtC w W G [.int .i64 v, .int .i64 s, .int .i64 c, .int .i64 n, .int .i64 t, .int .i64 d, .int .i64 r, .int .i64 k, .int .i64 g, .int .u64 0] → Calls Tryd.prog 13 #[.agg #[.int .i64 v, .int .i64 s, .int .i64 c, .int .i64 n, .int .i64 t, .int .i64 d, .int .i64 r, .int .i64 k, .int .i64 g, .int .u64 0], .int .i64 S] W fun e w' => e = .returned (.tuple #[.int .i64 b, .int .i64 0]) ∧ AtC w w' G [.int .i64 v, .int .i64 s, .int .i64 c, .int .i64 n, .int .i64 t, .int .i64 d, .int .i64 r, .int .i64 k, .int .i64 g, .int .u64 0] := fun W G h => atc_of h (wCloses_any hf 0 W h.1 S (by omega) b 0 (closes_ok (by rw [hS]; omega) (by omega) (by rw [hS, hQ]; exact hb)))
  have c2 : ∀ W G, AtC w W G [.int .i64 v, .int .i64 s, .int .i64 c, .int .i64 n, .int .i64 t, .int .i64 d, .int .i64 r, .int .i64 k, .int .i64 g, .int .u64 0] → Calls Tryd.prog 11 #[.agg #[.int .i64 v, .int .i64 s, .int .i64 c, .int .i64 n, .int .i64 t, .int .i64 d, .int .i64 r, .int .i64 k, .int .i64 g, .int .u64 0], .int .i64 (S + 1)] W fun e w' => e = .returned (.tuple #[.int .i64 0, .int .i64 8]) ∧ AtC w w' G [.int .i64 v, .int .i64 s, .int .i64 c, .int .i64 n, .int .i64 t, .int .i64 d, .int .i64 r, .int .i64 k, .int .i64 g, .int .u64 0] := fun W G h => atc_of h (wOpens_any hf 0 W h.1 (S + 1) (by omega) 0 8 (opens_late (by rw [hS1]; exact hcase) (by omega)))
  have c3 : ∀ W G, AtC w W G [.int .i64 v, .int .i64 s, .int .i64 c, .int .i64 n, .int .i64 t, .int .i64 d, .int .i64 r, .int .i64 k, .int .i64 g, .int .u64 0] → Calls Tryd.prog 13 #[.agg #[.int .i64 v, .int .i64 s, .int .i64 c, .int .i64 n, .int .i64 t, .int .i64 d, .int .i64 r, .int .i64 k, .int .i64 g, .int .u64 0], .int .i64 (S + 1)] W fun e w' => e = .returned (.tuple #[.int .i64 0, .int .i64 8]) ∧ AtC w w' G [.int .i64 v, .int .i64 s, .int .i64 c, .int .i64 n, .int .i64 t, .int .i64 d, .int .i64 r, .int .i64 k, .int .i64 g, .int .u64 0] := fun W G h => atc_of h (wCloses_any hf 0 W h.1 (S + 1) (by omega) 0 8 (closes_late (by rw [hS1]; exact hcase) (by omega)))
  have hway : (b < 1099511627776 ∧ b = P + Q + d - 1) ∨ (b = 1099511627776 ∧ 1099511627776 ≤ P + Q + d - 1) := by omega
  clear hf hb
  obtain ⟨h8, h9⟩ | ⟨h8, h9⟩ := hway
  all_goals
    have hA : Below w.heap.size w (w.alloc (.cells #[.int .i64 n0, .int .i64 n1, .int .i64 n2, .int .i64 n3, .int .i64 n4, .int .i64 n5] 25)) := (Below.refl _ _).alloc (Nat.le_refl _) _
    go_enter Tryd.func7, Tryd.ntmps7
    go_wp2_with fail
    with_reducible refine (awake12_any _ (hT.on hA)).mono ?_
    rintro e w1 ⟨rfl, hb1⟩
    have hw1 : Below w.heap.size w w1 := box_bel (by simpa using hb1)
    have R1 : RowAt w1 w.heap.size 25 [.int .i64 n0, .int .i64 n1, .int .i64 n2, .int .i64 n3, .int .i64 n4, .int .i64 n5] := (RowAt.new w 25 #[.int .i64 n0, .int .i64 n1, .int .i64 n2, .int .i64 n3, .int .i64 n4, .int .i64 n5]).below hb1 (by simp)
    have r0 : w1.cell? ⟨w.heap.size, 0, none⟩ = some (.int .i64 n0) := by rw [R1.cell]; rfl
    have r1 : w1.cell? ⟨w.heap.size, 1, none⟩ = some (.int .i64 n1) := by rw [R1.cell]; rfl
    have r2 : w1.cell? ⟨w.heap.size, 2, none⟩ = some (.int .i64 n2) := by rw [R1.cell]; rfl
    have r3 : w1.cell? ⟨w.heap.size, 3, none⟩ = some (.int .i64 n3) := by rw [R1.cell]; rfl
    have r4 : w1.cell? ⟨w.heap.size, 4, none⟩ = some (.int .i64 n4) := by rw [R1.cell]; rfl
    have r5 : w1.cell? ⟨w.heap.size, 5, none⟩ = some (.int .i64 n5) := by rw [R1.cell]; rfl
    clear R1 hb1 hA
    go_wp2_with fail
    with_reducible refine (Chain_any hch 0 _ b0 b1 b2 b3 b4 b5).mono ?_
    rintro e w2 ⟨rfl, hb2⟩
    have hw2 := hw1.trans (hb2.mono hw1.size)
    have A1 : AtC w (w2.alloc (.cells #[.int .i64 v, .int .i64 s, .int .i64 c, .int .i64 n, .int .i64 t, .int .i64 d, .int .i64 r, .int .i64 k, .int .i64 g, .int .u64 0] 24)) w2.heap.size [.int .i64 v, .int .i64 s, .int .i64 c, .int .i64 n, .int .i64 t, .int .i64 d, .int .i64 r, .int .i64 k, .int .i64 g, .int .u64 0] := AtC.new (hT.on hw2) hw2
    clear r0 r1 r2 r3 r4 r5 hb2 hw1 hch
    go_wp2_with (first
      | ((with_reducible refine (c0 _ _ (by assumption)).mono ?_); rintro e w3 ⟨rfl, A1⟩; obtain ⟨q0, q1, q2, q3, q4, q5, q6, q7, q8, q9⟩ := A1.cells)
      | ((with_reducible refine (c1 _ _ (by assumption)).mono ?_); rintro e w3 ⟨rfl, A1⟩; obtain ⟨q0, q1, q2, q3, q4, q5, q6, q7, q8, q9⟩ := A1.cells)
      | ((with_reducible refine (c2 _ _ (by assumption)).mono ?_); rintro e w3 ⟨rfl, A1⟩; obtain ⟨q0, q1, q2, q3, q4, q5, q6, q7, q8, q9⟩ := A1.cells)
      | ((with_reducible refine (c3 _ _ (by assumption)).mono ?_); rintro e w3 ⟨rfl, A1⟩; obtain ⟨q0, q1, q2, q3, q4, q5, q6, q7, q8, q9⟩ := A1.cells)
      | ((with_reducible refine (HP _).mono ?_); rintro e w_ ⟨rfl, rfl⟩))
    go_ret
    refine ⟨?_, (by assumption : AtC w _ _ _).2.1⟩
    first | rfl | (simp; omega)
set_option maxHeartbeats 4000000 in
set_option maxRecDepth 100000 in
theorem edges_on {n0 n1 n2 n3 n4 n5 v s c n t d r k g : Int} (hch : ChainOf n0 n1 n2 n3 n4 n5 v s c n t d r k g) (w : World) (hT : Spans w) (b0 : I64K n0) (b1 : I64K n1) (b2 : I64K n2) (b3 : I64K n3) (b4 : I64K n4) (b5 : I64K n5) (x p S P Q b q : Int) (HP : ∀ W, Calls Tryd.prog 10 #[.int .i64 x, .int .i64 (1099511627776 / t)] W fun e w' => e = .returned (.int .i64 p) ∧ W = w') (hs : 1 + p = S) (hp0 : 0 ≤ p) (hp1 : p < 1099511627776 / t) (hm0 : 0 ≤ 1099511627776 / t) (hm1 : 1099511627776 / t ≤ 1099511627776) (hS : S * t = P) (hS1 : (S + 1) * t = P + t) (hQ : (r + 1) * t = Q) (hP0 : t ≤ P) (hP1 : P ≤ 1099511627776) (hQ0 : 1 ≤ Q) (hQ1 : Q ≤ 65000) (hb : min (P + Q + d - 1) 1099511627776 = b) (hcase : P + t ≤ 1099511627776) (hq : min (P + t + Q + d - 1) 1099511627776 = q) :
    Calls Tryd.prog 7 #[.agg #[.int .i64 n0, .int .i64 n1, .int .i64 n2, .int .i64 n3, .int .i64 n4, .int .i64 n5], .int .i64 x] w fun e w' => e = .returned (.bool true) ∧ Below w.heap.size w w' := by
  obtain ⟨_, _, _, _, ⟨t1, t2⟩, ⟨d1, d2⟩, ⟨r1, r2⟩, _, _⟩ := hch.small
  have hf := hch.small.fits
  have hbq : b ≤ 1099511627776 ∧ P - d ≤ b := by omega
  have c0 : ∀ W G, AtC w W G [.int .i64 v, .int .i64 s, .int .i64 c, .int .i64 n, .int .i64 t, .int .i64 d, .int .i64 r, .int .i64 k, .int .i64 g, .int .u64 0] → Calls Tryd.prog 11 #[.agg #[.int .i64 v, .int .i64 s, .int .i64 c, .int .i64 n, .int .i64 t, .int .i64 d, .int .i64 r, .int .i64 k, .int .i64 g, .int .u64 0], .int .i64 S] W fun e w' => e = .returned (.tuple #[.int .i64 (P - d), .int .i64 0]) ∧ AtC w w' G [.int .i64 v, .int .i64 s, .int .i64 c, .int .i64 n, .int .i64 t, .int .i64 d, .int .i64 r, .int .i64 k, .int .i64 g, .int .u64 0] := fun W G h => atc_of h (wOpens_any hf 0 W h.1 S (by omega) (P - d) 0 (opens_ok (by rw [hS]; omega) (by omega) (by rw [hS]; omega)))
  have c1 : ∀ W G, AtC w W G [.int .i64 v, .int .i64 s, .int .i64 c, .int .i64 n, .int .i64 t, .int .i64 d, .int .i64 r, .int .i64 k, .int .i64 g, .int .u64 0] → Calls Tryd.prog 13 #[.agg #[.int .i64 v, .int .i64 s, .int .i64 c, .int .i64 n, .int .i64 t, .int .i64 d, .int .i64 r, .int .i64 k, .int .i64 g, .int .u64 0], .int .i64 S] W fun e w' => e = .returned (.tuple #[.int .i64 b, .int .i64 0]) ∧ AtC w w' G [.int .i64 v, .int .i64 s, .int .i64 c, .int .i64 n, .int .i64 t, .int .i64 d, .int .i64 r, .int .i64 k, .int .i64 g, .int .u64 0] := fun W G h => atc_of h (wCloses_any hf 0 W h.1 S (by omega) b 0 (closes_ok (by rw [hS]; omega) (by omega) (by rw [hS, hQ]; exact hb)))
  have c2 : ∀ W G, AtC w W G [.int .i64 v, .int .i64 s, .int .i64 c, .int .i64 n, .int .i64 t, .int .i64 d, .int .i64 r, .int .i64 k, .int .i64 g, .int .u64 0] → Calls Tryd.prog 11 #[.agg #[.int .i64 v, .int .i64 s, .int .i64 c, .int .i64 n, .int .i64 t, .int .i64 d, .int .i64 r, .int .i64 k, .int .i64 g, .int .u64 0], .int .i64 (S + 1)] W fun e w' => e = .returned (.tuple #[.int .i64 (P - d + t), .int .i64 0]) ∧ AtC w w' G [.int .i64 v, .int .i64 s, .int .i64 c, .int .i64 n, .int .i64 t, .int .i64 d, .int .i64 r, .int .i64 k, .int .i64 g, .int .u64 0] := fun W G h => atc_of h (wOpens_any hf 0 W h.1 (S + 1) (by omega) (P - d + t) 0 (opens_ok (by rw [hS1]; exact hcase) (by omega) (by rw [hS1]; omega)))
  have c3 : ∀ W G, AtC w W G [.int .i64 v, .int .i64 s, .int .i64 c, .int .i64 n, .int .i64 t, .int .i64 d, .int .i64 r, .int .i64 k, .int .i64 g, .int .u64 0] → Calls Tryd.prog 13 #[.agg #[.int .i64 v, .int .i64 s, .int .i64 c, .int .i64 n, .int .i64 t, .int .i64 d, .int .i64 r, .int .i64 k, .int .i64 g, .int .u64 0], .int .i64 (S + 1)] W fun e w' => e = .returned (.tuple #[.int .i64 q, .int .i64 0]) ∧ AtC w w' G [.int .i64 v, .int .i64 s, .int .i64 c, .int .i64 n, .int .i64 t, .int .i64 d, .int .i64 r, .int .i64 k, .int .i64 g, .int .u64 0] := fun W G h => atc_of h (wCloses_any hf 0 W h.1 (S + 1) (by omega) q 0 (closes_ok (by rw [hS1]; exact hcase) (by omega) (by rw [hS1, hQ]; exact hq)))
  have hway : (b < 1099511627776 ∧ b = P + Q + d - 1) ∨ (b = 1099511627776 ∧ 1099511627776 ≤ P + Q + d - 1) := by omega
  have hwaq : (q = b + t) ∨ (q = 1099511627776 ∧ q ≠ b + t ∧ 1099511627776 < b + t) := by omega
  clear hf hb hq
  obtain ⟨h8, h9⟩ | ⟨h8, h9⟩ := hway
  all_goals obtain hz | ⟨hz, hzn, hzl⟩ := hwaq
  all_goals
    have hA : Below w.heap.size w (w.alloc (.cells #[.int .i64 n0, .int .i64 n1, .int .i64 n2, .int .i64 n3, .int .i64 n4, .int .i64 n5] 25)) := (Below.refl _ _).alloc (Nat.le_refl _) _
    go_enter Tryd.func7, Tryd.ntmps7
    go_wp2_with fail
    with_reducible refine (awake12_any _ (hT.on hA)).mono ?_
    rintro e w1 ⟨rfl, hb1⟩
    have hw1 : Below w.heap.size w w1 := box_bel (by simpa using hb1)
    have R1 : RowAt w1 w.heap.size 25 [.int .i64 n0, .int .i64 n1, .int .i64 n2, .int .i64 n3, .int .i64 n4, .int .i64 n5] := (RowAt.new w 25 #[.int .i64 n0, .int .i64 n1, .int .i64 n2, .int .i64 n3, .int .i64 n4, .int .i64 n5]).below hb1 (by simp)
    have r0 : w1.cell? ⟨w.heap.size, 0, none⟩ = some (.int .i64 n0) := by rw [R1.cell]; rfl
    have r1 : w1.cell? ⟨w.heap.size, 1, none⟩ = some (.int .i64 n1) := by rw [R1.cell]; rfl
    have r2 : w1.cell? ⟨w.heap.size, 2, none⟩ = some (.int .i64 n2) := by rw [R1.cell]; rfl
    have r3 : w1.cell? ⟨w.heap.size, 3, none⟩ = some (.int .i64 n3) := by rw [R1.cell]; rfl
    have r4 : w1.cell? ⟨w.heap.size, 4, none⟩ = some (.int .i64 n4) := by rw [R1.cell]; rfl
    have r5 : w1.cell? ⟨w.heap.size, 5, none⟩ = some (.int .i64 n5) := by rw [R1.cell]; rfl
    clear R1 hb1 hA
    go_wp2_with fail
    with_reducible refine (Chain_any hch 0 _ b0 b1 b2 b3 b4 b5).mono ?_
    rintro e w2 ⟨rfl, hb2⟩
    have hw2 := hw1.trans (hb2.mono hw1.size)
    have A1 : AtC w (w2.alloc (.cells #[.int .i64 v, .int .i64 s, .int .i64 c, .int .i64 n, .int .i64 t, .int .i64 d, .int .i64 r, .int .i64 k, .int .i64 g, .int .u64 0] 24)) w2.heap.size [.int .i64 v, .int .i64 s, .int .i64 c, .int .i64 n, .int .i64 t, .int .i64 d, .int .i64 r, .int .i64 k, .int .i64 g, .int .u64 0] := AtC.new (hT.on hw2) hw2
    clear r0 r1 r2 r3 r4 r5 hb2 hw1 hch
    go_wp2_with (first
      | ((with_reducible refine (c0 _ _ (by assumption)).mono ?_); rintro e w3 ⟨rfl, A1⟩; obtain ⟨q0, q1, q2, q3, q4, q5, q6, q7, q8, q9⟩ := A1.cells)
      | ((with_reducible refine (c1 _ _ (by assumption)).mono ?_); rintro e w3 ⟨rfl, A1⟩; obtain ⟨q0, q1, q2, q3, q4, q5, q6, q7, q8, q9⟩ := A1.cells)
      | ((with_reducible refine (c2 _ _ (by assumption)).mono ?_); rintro e w3 ⟨rfl, A1⟩; obtain ⟨q0, q1, q2, q3, q4, q5, q6, q7, q8, q9⟩ := A1.cells)
      | ((with_reducible refine (c3 _ _ (by assumption)).mono ?_); rintro e w3 ⟨rfl, A1⟩; obtain ⟨q0, q1, q2, q3, q4, q5, q6, q7, q8, q9⟩ := A1.cells)
      | ((with_reducible refine (HP _).mono ?_); rintro e w_ ⟨rfl, rfl⟩))
    go_ret
    refine ⟨?_, (by assumption : AtC w _ _ _).2.1⟩
    first | rfl | (simp; omega)

theorem edges_calls {n0 n1 n2 n3 n4 n5 : Int} (b0 : I64K n0) (b1 : I64K n1) (b2 : I64K n2) (b3 : I64K n3) (b4 : I64K n4) (b5 : I64K n5) (x : Int) (hx : I64K x) (w : World) (hT : Spans w) :
    Calls Tryd.prog 7 #[.agg #[.int .i64 n0, .int .i64 n1, .int .i64 n2, .int .i64 n3, .int .i64 n4, .int .i64 n5], .int .i64 x] w fun e w' => e = .returned (.bool true) ∧ Below w.heap.size w w' := by
  obtain ⟨v, s, c, n, t, d, r, k, g, hch⟩ := chain_of n0 n1 n2 n3 n4 n5
  have ht := hch.small.T
  have hd := hch.small.D
  have hr := hch.small.R
  have hm0 : 1 ≤ (1099511627776 : Int) / t := (Int.le_ediv_iff_mul_le (by omega)).2 (by omega)
  have hm1 : (1099511627776 : Int) / t ≤ 1099511627776 := Int.ediv_le_self _ (by omega)
  have hp := cpick_bd x (1099511627776 / t) (by omega)
  have HP := fun W => pickW_any x (1099511627776 / t) W hx (by omega) (by omega)
  generalize cpick x (1099511627776 / t) = p at hp HP
  obtain ⟨S, hS⟩ : ∃ S, 1 + p = S := ⟨_, rfl⟩
  obtain ⟨P, hP⟩ : ∃ P, S * t = P := ⟨_, rfl⟩
  obtain ⟨Q, hQ⟩ : ∃ Q, (r + 1) * t = Q := ⟨_, rfl⟩
  have hS1 : (S + 1) * t = P + t := by rw [Int.add_mul, Int.one_mul, hP]
  have hQb := wide_bd ht.1 (show t ≤ 1000 by omega) hr.1 (show r ≤ 64 by omega)
  rw [hQ] at hQb
  have hP1 : P ≤ 1099511627776 := by rw [← hP]; exact (Int.le_ediv_iff_mul_le (by omega)).1 (by omega)
  have hP0 : t ≤ P := by
    have := Int.mul_le_mul_of_nonneg_right (show (1 : Int) ≤ S by omega) (show 0 ≤ t by omega)
    omega
  obtain ⟨b, hb⟩ : ∃ b, min (P + Q + d - 1) 1099511627776 = b := ⟨_, rfl⟩
  obtain ⟨q, hq⟩ : ∃ q, min (P + t + Q + d - 1) 1099511627776 = q := ⟨_, rfl⟩
  by_cases hc : 1099511627776 < P + t
  · exact edges_late hch w hT b0 b1 b2 b3 b4 b5 x p S P Q b HP hS hp.1 hp.2 (by omega) hm1 hP hS1 hQ hP0 hP1 hQb.1 hQb.2 hb hc
  · exact edges_on hch w hT b0 b1 b2 b3 b4 b5 x p S P Q b q HP hS hp.1 hp.2 (by omega) hm1 hP hS1 hQ hP0 hP1 hQb.1 hQb.2 hb (by omega) hq
end Go.Proofs.YtjcpeimlebpglaaDoor
