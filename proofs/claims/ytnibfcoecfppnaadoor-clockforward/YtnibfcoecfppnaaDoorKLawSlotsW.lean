/- The walks of the laws ClockSlots, ClockEpochs, ClockForward, ClockRises. -/
import Derived.Test.YtnibfcoecfppnaaDoorClkE
import Derived.Lib.Hide
namespace Go.Proofs.YtnibfcoecfppnaaDoor
open Go.RowKit

theorem slotA_on {t x q : Int} (h0 : 0 ≤ x) (h1 : x ≤ 1099511627776) (hq : x / t = q) : slotA true t x = (q, 0) := by rw [slotA_is ((isTickB_iff x).2 ⟨h0, h1⟩), hq]
theorem epochA_on {t x q : Int} (h0 : 0 ≤ x) (hq : x / t = q) : epochA true t x = (q, 0) := by rw [epochA_is h0, hq]
theorem startA_on {t x y : Int} (h0 : 0 ≤ x) (hy : x * t = y) (h1 : y ≤ 1099511627776) : startA true t x = (y, 0) := by rw [startA_is h0]; unfold productA; rw [hy, if_neg (by omega)]
theorem startA_late {t x y : Int} (h0 : 0 ≤ x) (hy : x * t = y) (h1 : 1099511627776 < y) : startA true t x = (0, 8) := by rw [startA_is h0]; unfold productA; rw [hy, if_pos h1]
theorem firstA_on {s t x y : Int} (h0 : 0 ≤ x) (hy : x * s = y) (h1 : y * t ≤ 1099511627776) : firstA true s t x = (y, 0) := by rw [firstA_is h0, hy, if_neg (by omega)]
theorem firstA_late {s t x y : Int} (h0 : 0 ≤ x) (hy : x * s = y) (h1 : 1099511627776 < y * t) : firstA true s t x = (0, 8) := by rw [firstA_is h0, hy, if_pos h1]
theorem forwardA_on {x b : Int} (h0 : 0 ≤ x) (hb : 0 ≤ b) (h1 : x + b ≤ 1099511627776) : forwardA true x b = (x + b, 0) := by rw [forwardA_is ((isTickB_iff x).2 ⟨h0, by omega⟩) hb, if_neg (by omega)]
theorem forwardA_late {x b : Int} (h0 : 0 ≤ x) (h9 : x ≤ 1099511627776) (hb : 0 ≤ b) (h1 : 1099511627776 < x + b) : forwardA true x b = (0, 8) := by rw [forwardA_is ((isTickB_iff x).2 ⟨h0, h9⟩) hb, if_pos h1]
/-- A number, its part by another one, and what is left. -/
theorem parts_of (x t : Int) (h0 : 0 ≤ x) (ht : 1 ≤ t) : ∃ q a, x / t = q ∧ q * t = a ∧ a / t = q ∧ (q + 1) * t = a + t ∧ 0 ≤ q ∧ q ≤ a ∧ 0 ≤ a ∧ a ≤ x ∧ x < a + t := by
  have h1 := Int.ediv_nonneg h0 (by omega : 0 ≤ t)
  have h2 := Int.ediv_mul_le x (show t ≠ 0 by omega)
  have h3 := Int.lt_ediv_add_one_mul_self x (show 0 < t by omega)
  refine ⟨x / t, x / t * t, rfl, rfl, Int.mul_ediv_cancel _ (by omega), by rw [Int.add_mul, Int.one_mul], h1, prod_le h1 ht, Int.mul_nonneg h1 (by omega), h2, ?_⟩
  rw [Int.add_mul, Int.one_mul] at h3
  exact h3
set_option maxHeartbeats 4000000 in
set_option maxRecDepth 100000 in
theorem slots_late {n0 n1 n2 n3 n4 n5 v s c n t d r k g : Int} (hch : ChainOf n0 n1 n2 n3 n4 n5 v s c n t d r k g) (w : World) (hT : Spans w) (b0 : I64 n0) (b1 : I64 n1) (b2 : I64 n2) (b3 : I64 n3) (b4 : I64 n4) (b5 : I64 n5) (x p q a : Int) (hx0 : 0 ≤ p) (hx1 : p ≤ 1099511627776) (hq : p / t = q) (ha : q * t = a) (hr : a / t = q) (hb : (q + 1) * t = a + t) (hq0 : 0 ≤ q) (hqa : q ≤ a) (ha0 : 0 ≤ a) (hax : a ≤ p) (hxa : p < a + t) (HP : ∀ W, Calls Tryd.prog 13 #[.int .i64 x, .int .i64 1099511627777] W fun e w' => e = .returned (.int .i64 p) ∧ W = w') (hcase : 1099511627776 < a + t) :
    Calls Tryd.prog 4 #[.agg #[.int .i64 n0, .int .i64 n1, .int .i64 n2, .int .i64 n3, .int .i64 n4, .int .i64 n5], .int .i64 x] w fun e w' => e = .returned (.bool true) ∧ Below w.heap.size w w' := by
  obtain ⟨_, _, _, _, ⟨t1, t2⟩, _, _, _, _⟩ := hch.small
  have hf := hch.small.fits
  have hi : ∀ y : Int, 0 ≤ y → y ≤ 1099511627789 → -9223372036854775808 ≤ y ∧ y ≤ 9223372036854775807 := fun y h0 h1 => by omega
  have c0 : ∀ W G, AtC w W G [.int .i64 v, .int .i64 s, .int .i64 c, .int .i64 n, .int .i64 t, .int .i64 d, .int .i64 r, .int .i64 k, .int .i64 g, .int .u64 0] → Calls Tryd.prog 14 #[.agg #[.int .i64 v, .int .i64 s, .int .i64 c, .int .i64 n, .int .i64 t, .int .i64 d, .int .i64 r, .int .i64 k, .int .i64 g, .int .u64 0], .int .i64 p] W fun e w' => e = .returned (.tuple #[.int .i64 q, .int .i64 0]) ∧ AtC w w' G [.int .i64 v, .int .i64 s, .int .i64 c, .int .i64 n, .int .i64 t, .int .i64 d, .int .i64 r, .int .i64 k, .int .i64 g, .int .u64 0] := fun W G h => atc_of h (SlotOf_any hf 0 W h.1 p (hi p (by omega) (by omega)) q 0 (slotA_on hx0 hx1 hq))
  have c1 : ∀ W G, AtC w W G [.int .i64 v, .int .i64 s, .int .i64 c, .int .i64 n, .int .i64 t, .int .i64 d, .int .i64 r, .int .i64 k, .int .i64 g, .int .u64 0] → Calls Tryd.prog 16 #[.agg #[.int .i64 v, .int .i64 s, .int .i64 c, .int .i64 n, .int .i64 t, .int .i64 d, .int .i64 r, .int .i64 k, .int .i64 g, .int .u64 0], .int .i64 q] W fun e w' => e = .returned (.tuple #[.int .i64 a, .int .i64 0]) ∧ AtC w w' G [.int .i64 v, .int .i64 s, .int .i64 c, .int .i64 n, .int .i64 t, .int .i64 d, .int .i64 r, .int .i64 k, .int .i64 g, .int .u64 0] := fun W G h => atc_of h (Start_any hf 0 W h.1 q (hi q (by omega) (by omega)) a 0 (startA_on hq0 ha (by omega)))
  have c2 : ∀ W G, AtC w W G [.int .i64 v, .int .i64 s, .int .i64 c, .int .i64 n, .int .i64 t, .int .i64 d, .int .i64 r, .int .i64 k, .int .i64 g, .int .u64 0] → Calls Tryd.prog 16 #[.agg #[.int .i64 v, .int .i64 s, .int .i64 c, .int .i64 n, .int .i64 t, .int .i64 d, .int .i64 r, .int .i64 k, .int .i64 g, .int .u64 0], .int .i64 (q + 1)] W fun e w' => e = .returned (.tuple #[.int .i64 0, .int .i64 8]) ∧ AtC w w' G [.int .i64 v, .int .i64 s, .int .i64 c, .int .i64 n, .int .i64 t, .int .i64 d, .int .i64 r, .int .i64 k, .int .i64 g, .int .u64 0] := fun W G h => atc_of h (Start_any hf 0 W h.1 (q + 1) (hi (q + 1) (by omega) (by omega)) 0 8 (startA_late (by omega) hb hcase))
  have c3 : ∀ W G, AtC w W G [.int .i64 v, .int .i64 s, .int .i64 c, .int .i64 n, .int .i64 t, .int .i64 d, .int .i64 r, .int .i64 k, .int .i64 g, .int .u64 0] → Calls Tryd.prog 14 #[.agg #[.int .i64 v, .int .i64 s, .int .i64 c, .int .i64 n, .int .i64 t, .int .i64 d, .int .i64 r, .int .i64 k, .int .i64 g, .int .u64 0], .int .i64 a] W fun e w' => e = .returned (.tuple #[.int .i64 q, .int .i64 0]) ∧ AtC w w' G [.int .i64 v, .int .i64 s, .int .i64 c, .int .i64 n, .int .i64 t, .int .i64 d, .int .i64 r, .int .i64 k, .int .i64 g, .int .u64 0] := fun W G h => atc_of h (SlotOf_any hf 0 W h.1 a (hi a (by omega) (by omega)) q 0 (slotA_on ha0 (by omega) hr))
  have hpa : p - a < t := by omega
  clear hq hr hb hf hi
  have hA : Below w.heap.size w (w.alloc (.cells #[.int .i64 n0, .int .i64 n1, .int .i64 n2, .int .i64 n3, .int .i64 n4, .int .i64 n5] 25)) := (Below.refl _ _).alloc (Nat.le_refl _) _
  go_enter Tryd.func4, Tryd.ntmps4
  go_wp2_with fail
  with_reducible refine (awake_any _ (hT.on hA)).mono ?_
  rintro e w1 ⟨rfl, hb1⟩
  have hw1 : Below w.heap.size w w1 := box_bel (by simpa using hb1)
  have R1 : RowAt w1 w.heap.size 25 [.int .i64 n0, .int .i64 n1, .int .i64 n2, .int .i64 n3, .int .i64 n4, .int .i64 n5] := (RowAt.new w 25 #[.int .i64 n0, .int .i64 n1, .int .i64 n2, .int .i64 n3, .int .i64 n4, .int .i64 n5]).below hb1 (by simp)
  have r0 : w1.cell? ⟨w.heap.size, 0, none⟩ = some (.int .i64 n0) := by rw [R1.cell]; rfl
  have r1 : w1.cell? ⟨w.heap.size, 1, none⟩ = some (.int .i64 n1) := by rw [R1.cell]; rfl
  have r2 : w1.cell? ⟨w.heap.size, 2, none⟩ = some (.int .i64 n2) := by rw [R1.cell]; rfl
  have r3 : w1.cell? ⟨w.heap.size, 3, none⟩ = some (.int .i64 n3) := by rw [R1.cell]; rfl
  have r4 : w1.cell? ⟨w.heap.size, 4, none⟩ = some (.int .i64 n4) := by rw [R1.cell]; rfl
  have r5 : w1.cell? ⟨w.heap.size, 5, none⟩ = some (.int .i64 n5) := by rw [R1.cell]; rfl
  clear R1 hb1 hA
  go_wp2_with fail
  with_reducible refine (Chain_any hch 0 _ b0 b1 b2 b3 b4 b5).mono ?_
  rintro e w2 ⟨rfl, hb2⟩
  have hw2 := hw1.trans (hb2.mono hw1.size)
  have A1 : AtC w (w2.alloc (.cells #[.int .i64 v, .int .i64 s, .int .i64 c, .int .i64 n, .int .i64 t, .int .i64 d, .int .i64 r, .int .i64 k, .int .i64 g, .int .u64 0] 24)) w2.heap.size [.int .i64 v, .int .i64 s, .int .i64 c, .int .i64 n, .int .i64 t, .int .i64 d, .int .i64 r, .int .i64 k, .int .i64 g, .int .u64 0] := AtC.new (hT.on hw2) hw2
  clear r0 r1 r2 r3 r4 r5 hb2 hw1 hch
  go_wp2_with (first
    | ((with_reducible refine (c0 _ _ (by assumption)).mono ?_); rintro e w3 ⟨rfl, A1⟩; obtain ⟨q0, q1, q2, q3, q4, q5, q6, q7, q8, q9⟩ := A1.cells)
    | ((with_reducible refine (c1 _ _ (by assumption)).mono ?_); rintro e w3 ⟨rfl, A1⟩; obtain ⟨q0, q1, q2, q3, q4, q5, q6, q7, q8, q9⟩ := A1.cells)
    | ((with_reducible refine (c2 _ _ (by assumption)).mono ?_); rintro e w3 ⟨rfl, A1⟩; obtain ⟨q0, q1, q2, q3, q4, q5, q6, q7, q8, q9⟩ := A1.cells)
    | ((with_reducible refine (c3 _ _ (by assumption)).mono ?_); rintro e w3 ⟨rfl, A1⟩; obtain ⟨q0, q1, q2, q3, q4, q5, q6, q7, q8, q9⟩ := A1.cells)
    | ((with_reducible refine (HP _).mono ?_); rintro e w_ ⟨rfl, rfl⟩))
  go_ret
  exact ⟨rfl, (by assumption : AtC w _ _ _).2.1⟩
set_option maxHeartbeats 4000000 in
set_option maxRecDepth 100000 in
theorem slots_on {n0 n1 n2 n3 n4 n5 v s c n t d r k g : Int} (hch : ChainOf n0 n1 n2 n3 n4 n5 v s c n t d r k g) (w : World) (hT : Spans w) (b0 : I64 n0) (b1 : I64 n1) (b2 : I64 n2) (b3 : I64 n3) (b4 : I64 n4) (b5 : I64 n5) (x p q a : Int) (hx0 : 0 ≤ p) (hx1 : p ≤ 1099511627776) (hq : p / t = q) (ha : q * t = a) (hr : a / t = q) (hb : (q + 1) * t = a + t) (hq0 : 0 ≤ q) (hqa : q ≤ a) (ha0 : 0 ≤ a) (hax : a ≤ p) (hxa : p < a + t) (HP : ∀ W, Calls Tryd.prog 13 #[.int .i64 x, .int .i64 1099511627777] W fun e w' => e = .returned (.int .i64 p) ∧ W = w') (hcase : a + t ≤ 1099511627776) :
    Calls Tryd.prog 4 #[.agg #[.int .i64 n0, .int .i64 n1, .int .i64 n2, .int .i64 n3, .int .i64 n4, .int .i64 n5], .int .i64 x] w fun e w' => e = .returned (.bool true) ∧ Below w.heap.size w w' := by
  obtain ⟨_, _, _, _, ⟨t1, t2⟩, _, _, _, _⟩ := hch.small
  have hf := hch.small.fits
  have hi : ∀ y : Int, 0 ≤ y → y ≤ 1099511627789 → -9223372036854775808 ≤ y ∧ y ≤ 9223372036854775807 := fun y h0 h1 => by omega
  have c0 : ∀ W G, AtC w W G [.int .i64 v, .int .i64 s, .int .i64 c, .int .i64 n, .int .i64 t, .int .i64 d, .int .i64 r, .int .i64 k, .int .i64 g, .int .u64 0] → Calls Tryd.prog 14 #[.agg #[.int .i64 v, .int .i64 s, .int .i64 c, .int .i64 n, .int .i64 t, .int .i64 d, .int .i64 r, .int .i64 k, .int .i64 g, .int .u64 0], .int .i64 p] W fun e w' => e = .returned (.tuple #[.int .i64 q, .int .i64 0]) ∧ AtC w w' G [.int .i64 v, .int .i64 s, .int .i64 c, .int .i64 n, .int .i64 t, .int .i64 d, .int .i64 r, .int .i64 k, .int .i64 g, .int .u64 0] := fun W G h => atc_of h (SlotOf_any hf 0 W h.1 p (hi p (by omega) (by omega)) q 0 (slotA_on hx0 hx1 hq))
  have c1 : ∀ W G, AtC w W G [.int .i64 v, .int .i64 s, .int .i64 c, .int .i64 n, .int .i64 t, .int .i64 d, .int .i64 r, .int .i64 k, .int .i64 g, .int .u64 0] → Calls Tryd.prog 16 #[.agg #[.int .i64 v, .int .i64 s, .int .i64 c, .int .i64 n, .int .i64 t, .int .i64 d, .int .i64 r, .int .i64 k, .int .i64 g, .int .u64 0], .int .i64 q] W fun e w' => e = .returned (.tuple #[.int .i64 a, .int .i64 0]) ∧ AtC w w' G [.int .i64 v, .int .i64 s, .int .i64 c, .int .i64 n, .int .i64 t, .int .i64 d, .int .i64 r, .int .i64 k, .int .i64 g, .int .u64 0] := fun W G h => atc_of h (Start_any hf 0 W h.1 q (hi q (by omega) (by omega)) a 0 (startA_on hq0 ha (by omega)))
  have c2 : ∀ W G, AtC w W G [.int .i64 v, .int .i64 s, .int .i64 c, .int .i64 n, .int .i64 t, .int .i64 d, .int .i64 r, .int .i64 k, .int .i64 g, .int .u64 0] → Calls Tryd.prog 16 #[.agg #[.int .i64 v, .int .i64 s, .int .i64 c, .int .i64 n, .int .i64 t, .int .i64 d, .int .i64 r, .int .i64 k, .int .i64 g, .int .u64 0], .int .i64 (q + 1)] W fun e w' => e = .returned (.tuple #[.int .i64 (a + t), .int .i64 0]) ∧ AtC w w' G [.int .i64 v, .int .i64 s, .int .i64 c, .int .i64 n, .int .i64 t, .int .i64 d, .int .i64 r, .int .i64 k, .int .i64 g, .int .u64 0] := fun W G h => atc_of h (Start_any hf 0 W h.1 (q + 1) (hi (q + 1) (by omega) (by omega)) (a + t) 0 (startA_on (by omega) hb hcase))
  have c3 : ∀ W G, AtC w W G [.int .i64 v, .int .i64 s, .int .i64 c, .int .i64 n, .int .i64 t, .int .i64 d, .int .i64 r, .int .i64 k, .int .i64 g, .int .u64 0] → Calls Tryd.prog 14 #[.agg #[.int .i64 v, .int .i64 s, .int .i64 c, .int .i64 n, .int .i64 t, .int .i64 d, .int .i64 r, .int .i64 k, .int .i64 g, .int .u64 0], .int .i64 a] W fun e w' => e = .returned (.tuple #[.int .i64 q, .int .i64 0]) ∧ AtC w w' G [.int .i64 v, .int .i64 s, .int .i64 c, .int .i64 n, .int .i64 t, .int .i64 d, .int .i64 r, .int .i64 k, .int .i64 g, .int .u64 0] := fun W G h => atc_of h (SlotOf_any hf 0 W h.1 a (hi a (by omega) (by omega)) q 0 (slotA_on ha0 (by omega) hr))
  have hpa : p - a < t := by omega
  clear hq hr hb hf hi
  have hA : Below w.heap.size w (w.alloc (.cells #[.int .i64 n0, .int .i64 n1, .int .i64 n2, .int .i64 n3, .int .i64 n4, .int .i64 n5] 25)) := (Below.refl _ _).alloc (Nat.le_refl _) _
  go_enter Tryd.func4, Tryd.ntmps4
  go_wp2_with fail
  with_reducible refine (awake_any _ (hT.on hA)).mono ?_
  rintro e w1 ⟨rfl, hb1⟩
  have hw1 : Below w.heap.size w w1 := box_bel (by simpa using hb1)
  have R1 : RowAt w1 w.heap.size 25 [.int .i64 n0, .int .i64 n1, .int .i64 n2, .int .i64 n3, .int .i64 n4, .int .i64 n5] := (RowAt.new w 25 #[.int .i64 n0, .int .i64 n1, .int .i64 n2, .int .i64 n3, .int .i64 n4, .int .i64 n5]).below hb1 (by simp)
  have r0 : w1.cell? ⟨w.heap.size, 0, none⟩ = some (.int .i64 n0) := by rw [R1.cell]; rfl
  have r1 : w1.cell? ⟨w.heap.size, 1, none⟩ = some (.int .i64 n1) := by rw [R1.cell]; rfl
  have r2 : w1.cell? ⟨w.heap.size, 2, none⟩ = some (.int .i64 n2) := by rw [R1.cell]; rfl
  have r3 : w1.cell? ⟨w.heap.size, 3, none⟩ = some (.int .i64 n3) := by rw [R1.cell]; rfl
  have r4 : w1.cell? ⟨w.heap.size, 4, none⟩ = some (.int .i64 n4) := by rw [R1.cell]; rfl
  have r5 : w1.cell? ⟨w.heap.size, 5, none⟩ = some (.int .i64 n5) := by rw [R1.cell]; rfl
  clear R1 hb1 hA
  go_wp2_with fail
  with_reducible refine (Chain_any hch 0 _ b0 b1 b2 b3 b4 b5).mono ?_
  rintro e w2 ⟨rfl, hb2⟩
  have hw2 := hw1.trans (hb2.mono hw1.size)
  have A1 : AtC w (w2.alloc (.cells #[.int .i64 v, .int .i64 s, .int .i64 c, .int .i64 n, .int .i64 t, .int .i64 d, .int .i64 r, .int .i64 k, .int .i64 g, .int .u64 0] 24)) w2.heap.size [.int .i64 v, .int .i64 s, .int .i64 c, .int .i64 n, .int .i64 t, .int .i64 d, .int .i64 r, .int .i64 k, .int .i64 g, .int .u64 0] := AtC.new (hT.on hw2) hw2
  clear r0 r1 r2 r3 r4 r5 hb2 hw1 hch
  go_wp2_with (first
    | ((with_reducible refine (c0 _ _ (by assumption)).mono ?_); rintro e w3 ⟨rfl, A1⟩; obtain ⟨q0, q1, q2, q3, q4, q5, q6, q7, q8, q9⟩ := A1.cells)
    | ((with_reducible refine (c1 _ _ (by assumption)).mono ?_); rintro e w3 ⟨rfl, A1⟩; obtain ⟨q0, q1, q2, q3, q4, q5, q6, q7, q8, q9⟩ := A1.cells)
    | ((with_reducible refine (c2 _ _ (by assumption)).mono ?_); rintro e w3 ⟨rfl, A1⟩; obtain ⟨q0, q1, q2, q3, q4, q5, q6, q7, q8, q9⟩ := A1.cells)
    | ((with_reducible refine (c3 _ _ (by assumption)).mono ?_); rintro e w3 ⟨rfl, A1⟩; obtain ⟨q0, q1, q2, q3, q4, q5, q6, q7, q8, q9⟩ := A1.cells)
    | ((with_reducible refine (HP _).mono ?_); rintro e w_ ⟨rfl, rfl⟩))
  go_ret
  exact ⟨rfl, (by assumption : AtC w _ _ _).2.1⟩

theorem slots_calls {n0 n1 n2 n3 n4 n5 : Int} (b0 : I64 n0) (b1 : I64 n1) (b2 : I64 n2) (b3 : I64 n3) (b4 : I64 n4) (b5 : I64 n5) (x : Int) (hx : I64 x) (w : World) (hT : Spans w) :
    Calls Tryd.prog 4 #[.agg #[.int .i64 n0, .int .i64 n1, .int .i64 n2, .int .i64 n3, .int .i64 n4, .int .i64 n5], .int .i64 x] w fun e w' => e = .returned (.bool true) ∧ Below w.heap.size w w' := by
  obtain ⟨v, s, c, n, t, d, r, k, g, hch⟩ := chain_of n0 n1 n2 n3 n4 n5
  have ht := hch.small.T
  have hp := cpick_bd x 1099511627777 (by omega)
  have HP := fun W => cpick_any x 1099511627777 W hx (by omega) (by omega)
  generalize cpick x 1099511627777 = p at hp HP
  obtain ⟨q, a, h1, h2, h3, h4, h5, h6, h7, h8, h9⟩ := parts_of p t hp.1 ht.1
  by_cases hc : 1099511627776 < a + t
  · exact slots_late hch w hT b0 b1 b2 b3 b4 b5 x p q a hp.1 (by omega) h1 h2 h3 h4 h5 h6 h7 h8 h9 HP hc
  · exact slots_on hch w hT b0 b1 b2 b3 b4 b5 x p q a hp.1 (by omega) h1 h2 h3 h4 h5 h6 h7 h8 h9 HP (by omega)
end Go.Proofs.YtnibfcoecfppnaaDoor
