/- The walk of a law of layer 8. -/
import Derived.Test.YtnibfcoecfppnaaDoorKLawSlotsW
import Derived.Deep.QuietTactic
import Derived.BigQuiet
import Derived.Lib.MinMax
namespace Go.Proofs.YtnibfcoecfppnaaDoor
open Go.RowKit

set_option maxHeartbeats 4000000 in
set_option maxRecDepth 100000 in
theorem epochs_late {n0 n1 n2 n3 n4 n5 v s c n t d r k g : Int} (hch : ChainOf n0 n1 n2 n3 n4 n5 v s c n t d r k g) (w : World) (hT : Spans w) (b0 : I64 n0) (b1 : I64 n1) (b2 : I64 n2) (b3 : I64 n3) (b4 : I64 n4) (b5 : I64 n5) (x p q a : Int) (hx0 : 0 ≤ p) (hx1 : p ≤ 1099511627776 / t) (hq : p / s = q) (ha : q * s = a) (hr : a / s = q) (hb : (q + 1) * s = a + s) (hq0 : 0 ≤ q) (hqa : q ≤ a) (ha0 : 0 ≤ a) (hax : a ≤ p) (hxa : p < a + s) (HP : ∀ W, Calls Tryd.prog 13 #[.int .i64 x, .int .i64 (1099511627776 / t + 1)] W fun e w' => e = .returned (.int .i64 p) ∧ W = w') (hcase : 1099511627776 / t < a + s) :
    Calls Tryd.prog 5 #[.agg #[.int .i64 n0, .int .i64 n1, .int .i64 n2, .int .i64 n3, .int .i64 n4, .int .i64 n5], .int .i64 x] w fun e w' => e = .returned (.bool true) ∧ Below w.heap.size w w' := by
  obtain ⟨_, ⟨s1, s2⟩, _, _, ⟨t1, t2⟩, _, _, _, _⟩ := hch.small
  have hf := hch.small.fits
  have hm0 := Int.ediv_nonneg (a := 1099511627776) (b := t) (by omega) (by omega)
  have hm1 : (1099511627776 : Int) / t ≤ 1099511627776 := Int.ediv_le_self _ (by omega)
  have hi : ∀ y : Int, 0 ≤ y → y ≤ 1099511627789 → -9223372036854775808 ≤ y ∧ y ≤ 9223372036854775807 := fun y h0 h1 => by omega
  have le_of : ∀ y : Int, y ≤ 1099511627776 / t → y * t ≤ 1099511627776 := fun y hy => (Int.le_ediv_iff_mul_le (by omega)).1 hy
  have lt_of : ∀ y : Int, 1099511627776 / t < y → 1099511627776 < y * t := fun y hy => (over_iff (by omega)).1 hy
  have hat := le_of a (by omega)
  have hlate := lt_of (a + s) hcase
  have c0 : ∀ W G, AtC w W G [.int .i64 v, .int .i64 s, .int .i64 c, .int .i64 n, .int .i64 t, .int .i64 d, .int .i64 r, .int .i64 k, .int .i64 g, .int .u64 0] → Calls Tryd.prog 18 #[.agg #[.int .i64 v, .int .i64 s, .int .i64 c, .int .i64 n, .int .i64 t, .int .i64 d, .int .i64 r, .int .i64 k, .int .i64 g, .int .u64 0], .int .i64 p] W fun e w' => e = .returned (.tuple #[.int .i64 q, .int .i64 0]) ∧ AtC w w' G [.int .i64 v, .int .i64 s, .int .i64 c, .int .i64 n, .int .i64 t, .int .i64 d, .int .i64 r, .int .i64 k, .int .i64 g, .int .u64 0] := fun W G h => atc_of h (EpochOf_any hf 0 W h.1 p (hi p (by omega) (by omega)) q 0 (epochA_on hx0 hq))
  have c1 : ∀ W G, AtC w W G [.int .i64 v, .int .i64 s, .int .i64 c, .int .i64 n, .int .i64 t, .int .i64 d, .int .i64 r, .int .i64 k, .int .i64 g, .int .u64 0] → Calls Tryd.prog 20 #[.agg #[.int .i64 v, .int .i64 s, .int .i64 c, .int .i64 n, .int .i64 t, .int .i64 d, .int .i64 r, .int .i64 k, .int .i64 g, .int .u64 0], .int .i64 q] W fun e w' => e = .returned (.tuple #[.int .i64 a, .int .i64 0]) ∧ AtC w w' G [.int .i64 v, .int .i64 s, .int .i64 c, .int .i64 n, .int .i64 t, .int .i64 d, .int .i64 r, .int .i64 k, .int .i64 g, .int .u64 0] := fun W G h => atc_of h (First_any hf 0 W h.1 q (hi q (by omega) (by omega)) a 0 (firstA_on hq0 ha hat))
  have c2 : ∀ W G, AtC w W G [.int .i64 v, .int .i64 s, .int .i64 c, .int .i64 n, .int .i64 t, .int .i64 d, .int .i64 r, .int .i64 k, .int .i64 g, .int .u64 0] → Calls Tryd.prog 20 #[.agg #[.int .i64 v, .int .i64 s, .int .i64 c, .int .i64 n, .int .i64 t, .int .i64 d, .int .i64 r, .int .i64 k, .int .i64 g, .int .u64 0], .int .i64 (q + 1)] W fun e w' => e = .returned (.tuple #[.int .i64 0, .int .i64 8]) ∧ AtC w w' G [.int .i64 v, .int .i64 s, .int .i64 c, .int .i64 n, .int .i64 t, .int .i64 d, .int .i64 r, .int .i64 k, .int .i64 g, .int .u64 0] := fun W G h => atc_of h (First_any hf 0 W h.1 (q + 1) (hi (q + 1) (by omega) (by omega)) 0 8 (firstA_late (by omega) hb hlate))
  have c3 : ∀ W G, AtC w W G [.int .i64 v, .int .i64 s, .int .i64 c, .int .i64 n, .int .i64 t, .int .i64 d, .int .i64 r, .int .i64 k, .int .i64 g, .int .u64 0] → Calls Tryd.prog 18 #[.agg #[.int .i64 v, .int .i64 s, .int .i64 c, .int .i64 n, .int .i64 t, .int .i64 d, .int .i64 r, .int .i64 k, .int .i64 g, .int .u64 0], .int .i64 a] W fun e w' => e = .returned (.tuple #[.int .i64 q, .int .i64 0]) ∧ AtC w w' G [.int .i64 v, .int .i64 s, .int .i64 c, .int .i64 n, .int .i64 t, .int .i64 d, .int .i64 r, .int .i64 k, .int .i64 g, .int .u64 0] := fun W G h => atc_of h (EpochOf_any hf 0 W h.1 a (hi a (by omega) (by omega)) q 0 (epochA_on ha0 hr))
  have wa : IntKind.i64.wrap (a + s) = a + s := IntWalk.i64_in _ (by omega)
  have wd : IntKind.i64.wrap ((1099511627776 : Int).tdiv t) = 1099511627776 / t := by rw [Int.tdiv_eq_ediv_of_nonneg (by omega)]; exact IntWalk.i64_in _ (by omega)
  have ht0 : (t == 0) = false := by simp; omega
  have HQ := Lib.hid (And.intro wa (And.intro wd ht0))
  clear wa wd ht0 hlate
  have hpa : p - a < s := by omega
  clear hq hr hb hf hi le_of lt_of hat
  have hA : Below w.heap.size w (w.alloc (.cells #[.int .i64 n0, .int .i64 n1, .int .i64 n2, .int .i64 n3, .int .i64 n4, .int .i64 n5] 25)) := (Below.refl _ _).alloc (Nat.le_refl _) _
  go_enter Tryd.func5, Tryd.ntmps5
  go_wp2_with fail
  with_reducible refine (awake_any _ (hT.on hA)).mono ?_
  rintro e w1 ⟨rfl, hb1⟩
  have hw1 : Below w.heap.size w w1 := box_bel (by simpa using hb1)
  have R1 : RowAt w1 w.heap.size 25 [.int .i64 n0, .int .i64 n1, .int .i64 n2, .int .i64 n3, .int .i64 n4, .int .i64 n5] := (RowAt.new w 25 #[.int .i64 n0, .int .i64 n1, .int .i64 n2, .int .i64 n3, .int .i64 n4, .int .i64 n5]).below hb1 (by simp)
  have r0 : w1.cell? ⟨w.heap.size, 0, none⟩ = some (.int .i64 n0) := by rw [R1.cell]; rfl
  have r1 : w1.cell? ⟨w.heap.size, 1, none⟩ = some (.int .i64 n1) := by rw [R1.cell]; rfl
  have r2 : w1.cell? ⟨w.heap.size, 2, none⟩ = some (.int .i64 n2) := by rw [R1.cell]; rfl
  have r3 : w1.cell? ⟨w.heap.size, 3, none⟩ = some (.int .i64 n3) := by rw [R1.cell]; rfl
  have r4 : w1.cell? ⟨w.heap.size, 4, none⟩ = some (.int .i64 n4) := by rw [R1.cell]; rfl
  have r5 : w1.cell? ⟨w.heap.size, 5, none⟩ = some (.int .i64 n5) := by rw [R1.cell]; rfl
  clear R1 hb1 hA
  go_wp2_with fail
  with_reducible refine (Chain_any hch 0 _ b0 b1 b2 b3 b4 b5).mono ?_
  rintro e w2 ⟨rfl, hb2⟩
  have hw2 := hw1.trans (hb2.mono hw1.size)
  have A1 : AtC w (w2.alloc (.cells #[.int .i64 v, .int .i64 s, .int .i64 c, .int .i64 n, .int .i64 t, .int .i64 d, .int .i64 r, .int .i64 k, .int .i64 g, .int .u64 0] 24)) w2.heap.size [.int .i64 v, .int .i64 s, .int .i64 c, .int .i64 n, .int .i64 t, .int .i64 d, .int .i64 r, .int .i64 k, .int .i64 g, .int .u64 0] := AtC.new (hT.on hw2) hw2
  clear r0 r1 r2 r3 r4 r5 hb2 hw1 hch
  go_wp2_with (first
    | ((with_reducible refine (c0 _ _ (by assumption)).mono ?_); rintro e w3 ⟨rfl, A1⟩; obtain ⟨q0, q1, q2, q3, q4, q5, q6, q7, q8, q9⟩ := A1.cells)
    | ((with_reducible refine (c1 _ _ (by assumption)).mono ?_); rintro e w3 ⟨rfl, A1⟩; obtain ⟨q0, q1, q2, q3, q4, q5, q6, q7, q8, q9⟩ := A1.cells)
    | ((with_reducible refine (c2 _ _ (by assumption)).mono ?_); rintro e w3 ⟨rfl, A1⟩; obtain ⟨q0, q1, q2, q3, q4, q5, q6, q7, q8, q9⟩ := A1.cells)
    | ((with_reducible refine (c3 _ _ (by assumption)).mono ?_); rintro e w3 ⟨rfl, A1⟩; obtain ⟨q0, q1, q2, q3, q4, q5, q6, q7, q8, q9⟩ := A1.cells)
    | ((with_reducible refine (HP _).mono ?_); rintro e w_ ⟨rfl, rfl⟩))
  obtain ⟨wa, wd, ht0⟩ := HQ.out
  go_quiet (fail)
  go_wp2
  go_ret
  exact ⟨rfl, (AtC.step (by assumption) (below_drewN (Below.refl _ _) _)).2.1⟩
set_option maxHeartbeats 4000000 in
set_option maxRecDepth 100000 in
theorem epochs_on {n0 n1 n2 n3 n4 n5 v s c n t d r k g : Int} (hch : ChainOf n0 n1 n2 n3 n4 n5 v s c n t d r k g) (w : World) (hT : Spans w) (b0 : I64 n0) (b1 : I64 n1) (b2 : I64 n2) (b3 : I64 n3) (b4 : I64 n4) (b5 : I64 n5) (x p q a : Int) (hx0 : 0 ≤ p) (hx1 : p ≤ 1099511627776 / t) (hq : p / s = q) (ha : q * s = a) (hr : a / s = q) (hb : (q + 1) * s = a + s) (hq0 : 0 ≤ q) (hqa : q ≤ a) (ha0 : 0 ≤ a) (hax : a ≤ p) (hxa : p < a + s) (HP : ∀ W, Calls Tryd.prog 13 #[.int .i64 x, .int .i64 (1099511627776 / t + 1)] W fun e w' => e = .returned (.int .i64 p) ∧ W = w') (hcase : a + s ≤ 1099511627776 / t) :
    Calls Tryd.prog 5 #[.agg #[.int .i64 n0, .int .i64 n1, .int .i64 n2, .int .i64 n3, .int .i64 n4, .int .i64 n5], .int .i64 x] w fun e w' => e = .returned (.bool true) ∧ Below w.heap.size w w' := by
  obtain ⟨_, ⟨s1, s2⟩, _, _, ⟨t1, t2⟩, _, _, _, _⟩ := hch.small
  have hf := hch.small.fits
  have hm0 := Int.ediv_nonneg (a := 1099511627776) (b := t) (by omega) (by omega)
  have hm1 : (1099511627776 : Int) / t ≤ 1099511627776 := Int.ediv_le_self _ (by omega)
  have hi : ∀ y : Int, 0 ≤ y → y ≤ 1099511627789 → -9223372036854775808 ≤ y ∧ y ≤ 9223372036854775807 := fun y h0 h1 => by omega
  have le_of : ∀ y : Int, y ≤ 1099511627776 / t → y * t ≤ 1099511627776 := fun y hy => (Int.le_ediv_iff_mul_le (by omega)).1 hy
  have lt_of : ∀ y : Int, 1099511627776 / t < y → 1099511627776 < y * t := fun y hy => (over_iff (by omega)).1 hy
  have hat := le_of a (by omega)
  have hon := le_of (a + s) hcase
  have c0 : ∀ W G, AtC w W G [.int .i64 v, .int .i64 s, .int .i64 c, .int .i64 n, .int .i64 t, .int .i64 d, .int .i64 r, .int .i64 k, .int .i64 g, .int .u64 0] → Calls Tryd.prog 18 #[.agg #[.int .i64 v, .int .i64 s, .int .i64 c, .int .i64 n, .int .i64 t, .int .i64 d, .int .i64 r, .int .i64 k, .int .i64 g, .int .u64 0], .int .i64 p] W fun e w' => e = .returned (.tuple #[.int .i64 q, .int .i64 0]) ∧ AtC w w' G [.int .i64 v, .int .i64 s, .int .i64 c, .int .i64 n, .int .i64 t, .int .i64 d, .int .i64 r, .int .i64 k, .int .i64 g, .int .u64 0] := fun W G h => atc_of h (EpochOf_any hf 0 W h.1 p (hi p (by omega) (by omega)) q 0 (epochA_on hx0 hq))
  have c1 : ∀ W G, AtC w W G [.int .i64 v, .int .i64 s, .int .i64 c, .int .i64 n, .int .i64 t, .int .i64 d, .int .i64 r, .int .i64 k, .int .i64 g, .int .u64 0] → Calls Tryd.prog 20 #[.agg #[.int .i64 v, .int .i64 s, .int .i64 c, .int .i64 n, .int .i64 t, .int .i64 d, .int .i64 r, .int .i64 k, .int .i64 g, .int .u64 0], .int .i64 q] W fun e w' => e = .returned (.tuple #[.int .i64 a, .int .i64 0]) ∧ AtC w w' G [.int .i64 v, .int .i64 s, .int .i64 c, .int .i64 n, .int .i64 t, .int .i64 d, .int .i64 r, .int .i64 k, .int .i64 g, .int .u64 0] := fun W G h => atc_of h (First_any hf 0 W h.1 q (hi q (by omega) (by omega)) a 0 (firstA_on hq0 ha hat))
  have c2 : ∀ W G, AtC w W G [.int .i64 v, .int .i64 s, .int .i64 c, .int .i64 n, .int .i64 t, .int .i64 d, .int .i64 r, .int .i64 k, .int .i64 g, .int .u64 0] → Calls Tryd.prog 20 #[.agg #[.int .i64 v, .int .i64 s, .int .i64 c, .int .i64 n, .int .i64 t, .int .i64 d, .int .i64 r, .int .i64 k, .int .i64 g, .int .u64 0], .int .i64 (q + 1)] W fun e w' => e = .returned (.tuple #[.int .i64 (a + s), .int .i64 0]) ∧ AtC w w' G [.int .i64 v, .int .i64 s, .int .i64 c, .int .i64 n, .int .i64 t, .int .i64 d, .int .i64 r, .int .i64 k, .int .i64 g, .int .u64 0] := fun W G h => atc_of h (First_any hf 0 W h.1 (q + 1) (hi (q + 1) (by omega) (by omega)) (a + s) 0 (firstA_on (by omega) hb hon))
  have c3 : ∀ W G, AtC w W G [.int .i64 v, .int .i64 s, .int .i64 c, .int .i64 n, .int .i64 t, .int .i64 d, .int .i64 r, .int .i64 k, .int .i64 g, .int .u64 0] → Calls Tryd.prog 18 #[.agg #[.int .i64 v, .int .i64 s, .int .i64 c, .int .i64 n, .int .i64 t, .int .i64 d, .int .i64 r, .int .i64 k, .int .i64 g, .int .u64 0], .int .i64 a] W fun e w' => e = .returned (.tuple #[.int .i64 q, .int .i64 0]) ∧ AtC w w' G [.int .i64 v, .int .i64 s, .int .i64 c, .int .i64 n, .int .i64 t, .int .i64 d, .int .i64 r, .int .i64 k, .int .i64 g, .int .u64 0] := fun W G h => atc_of h (EpochOf_any hf 0 W h.1 a (hi a (by omega) (by omega)) q 0 (epochA_on ha0 hr))
  have hpa : p - a < s := by omega
  clear hq hr hb hf hi le_of lt_of hat hon
  have hA : Below w.heap.size w (w.alloc (.cells #[.int .i64 n0, .int .i64 n1, .int .i64 n2, .int .i64 n3, .int .i64 n4, .int .i64 n5] 25)) := (Below.refl _ _).alloc (Nat.le_refl _) _
  go_enter Tryd.func5, Tryd.ntmps5
  go_wp2_with fail
  with_reducible refine (awake_any _ (hT.on hA)).mono ?_
  rintro e w1 ⟨rfl, hb1⟩
  have hw1 : Below w.heap.size w w1 := box_bel (by simpa using hb1)
  have R1 : RowAt w1 w.heap.size 25 [.int .i64 n0, .int .i64 n1, .int .i64 n2, .int .i64 n3, .int .i64 n4, .int .i64 n5] := (RowAt.new w 25 #[.int .i64 n0, .int .i64 n1, .int .i64 n2, .int .i64 n3, .int .i64 n4, .int .i64 n5]).below hb1 (by simp)
  have r0 : w1.cell? ⟨w.heap.size, 0, none⟩ = some (.int .i64 n0) := by rw [R1.cell]; rfl
  have r1 : w1.cell? ⟨w.heap.size, 1, none⟩ = some (.int .i64 n1) := by rw [R1.cell]; rfl
  have r2 : w1.cell? ⟨w.heap.size, 2, none⟩ = some (.int .i64 n2) := by rw [R1.cell]; rfl
  have r3 : w1.cell? ⟨w.heap.size, 3, none⟩ = some (.int .i64 n3) := by rw [R1.cell]; rfl
  have r4 : w1.cell? ⟨w.heap.size, 4, none⟩ = some (.int .i64 n4) := by rw [R1.cell]; rfl
  have r5 : w1.cell? ⟨w.heap.size, 5, none⟩ = some (.int .i64 n5) := by rw [R1.cell]; rfl
  clear R1 hb1 hA
  go_wp2_with fail
  with_reducible refine (Chain_any hch 0 _ b0 b1 b2 b3 b4 b5).mono ?_
  rintro e w2 ⟨rfl, hb2⟩
  have hw2 := hw1.trans (hb2.mono hw1.size)
  have A1 : AtC w (w2.alloc (.cells #[.int .i64 v, .int .i64 s, .int .i64 c, .int .i64 n, .int .i64 t, .int .i64 d, .int .i64 r, .int .i64 k, .int .i64 g, .int .u64 0] 24)) w2.heap.size [.int .i64 v, .int .i64 s, .int .i64 c, .int .i64 n, .int .i64 t, .int .i64 d, .int .i64 r, .int .i64 k, .int .i64 g, .int .u64 0] := AtC.new (hT.on hw2) hw2
  clear r0 r1 r2 r3 r4 r5 hb2 hw1 hch
  go_wp2_with (first
    | ((with_reducible refine (c0 _ _ (by assumption)).mono ?_); rintro e w3 ⟨rfl, A1⟩; obtain ⟨q0, q1, q2, q3, q4, q5, q6, q7, q8, q9⟩ := A1.cells)
    | ((with_reducible refine (c1 _ _ (by assumption)).mono ?_); rintro e w3 ⟨rfl, A1⟩; obtain ⟨q0, q1, q2, q3, q4, q5, q6, q7, q8, q9⟩ := A1.cells)
    | ((with_reducible refine (c2 _ _ (by assumption)).mono ?_); rintro e w3 ⟨rfl, A1⟩; obtain ⟨q0, q1, q2, q3, q4, q5, q6, q7, q8, q9⟩ := A1.cells)
    | ((with_reducible refine (c3 _ _ (by assumption)).mono ?_); rintro e w3 ⟨rfl, A1⟩; obtain ⟨q0, q1, q2, q3, q4, q5, q6, q7, q8, q9⟩ := A1.cells)
    | ((with_reducible refine (HP _).mono ?_); rintro e w_ ⟨rfl, rfl⟩))
  go_ret
  exact ⟨rfl, (by assumption : AtC w _ _ _).2.1⟩

theorem epochs_calls {n0 n1 n2 n3 n4 n5 : Int} (b0 : I64 n0) (b1 : I64 n1) (b2 : I64 n2) (b3 : I64 n3) (b4 : I64 n4) (b5 : I64 n5) (x : Int) (hx : I64 x) (w : World) (hT : Spans w) :
    Calls Tryd.prog 5 #[.agg #[.int .i64 n0, .int .i64 n1, .int .i64 n2, .int .i64 n3, .int .i64 n4, .int .i64 n5], .int .i64 x] w fun e w' => e = .returned (.bool true) ∧ Below w.heap.size w w' := by
  obtain ⟨v, s, c, n, t, d, r, k, g, hch⟩ := chain_of n0 n1 n2 n3 n4 n5
  have ht := hch.small.T
  have hs := hch.small.S
  have hm0 := Int.ediv_nonneg (a := 1099511627776) (b := t) (by omega) (by omega)
  have hm1 : (1099511627776 : Int) / t ≤ 1099511627776 := Int.ediv_le_self _ (by omega)
  have hp := cpick_bd x (1099511627776 / t + 1) (by omega)
  have HP := fun W => cpick_any x (1099511627776 / t + 1) W hx (by omega) (by omega)
  generalize cpick x (1099511627776 / t + 1) = p at hp HP
  obtain ⟨q, a, h1, h2, h3, h4, h5, h6, h7, h8, h9⟩ := parts_of p s hp.1 hs.1
  by_cases hc : 1099511627776 / t < a + s
  · exact epochs_late hch w hT b0 b1 b2 b3 b4 b5 x p q a hp.1 (by omega) h1 h2 h3 h4 h5 h6 h7 h8 h9 HP hc
  · exact epochs_on hch w hT b0 b1 b2 b3 b4 b5 x p q a hp.1 (by omega) h1 h2 h3 h4 h5 h6 h7 h8 h9 HP (by omega)
end Go.Proofs.YtnibfcoecfppnaaDoor
