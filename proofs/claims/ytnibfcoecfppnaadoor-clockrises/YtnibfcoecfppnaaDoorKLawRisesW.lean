/- The walk of a law of layer 8. -/
import Derived.Test.YtnibfcoecfppnaaDoorKLawSlotsW
import Derived.Deep.QuietTactic
import Derived.BigQuiet
import Derived.Lib.MinMax
namespace Go.Proofs.YtnibfcoecfppnaaDoor
open Go.RowKit

set_option maxHeartbeats 4000000 in
set_option maxRecDepth 100000 in
theorem rises_same {n0 n1 n2 n3 n4 n5 v s c n t d r k g : Int} (hch : ChainOf n0 n1 n2 n3 n4 n5 v s c n t d r k g) (w : World) (hT : Spans w) (b0 : I64 n0) (b1 : I64 n1) (b2 : I64 n2) (b3 : I64 n3) (b4 : I64 n4) (b5 : I64 n5) (x y p1 p2 lo hi q a e1 : Int) (hmn : min p1 p2 = lo) (hmx : max p1 p2 = hi) (hl0 : 0 ≤ lo) (hlh : lo ≤ hi) (hh : hi ≤ 1099511627776) (HP : ∀ W, Calls Tryd.prog 13 #[.int .i64 x, .int .i64 1099511627777] W fun e w' => e = .returned (.int .i64 p1) ∧ W = w') (HY : ∀ W, Calls Tryd.prog 13 #[.int .i64 y, .int .i64 1099511627777] W fun e w' => e = .returned (.int .i64 p2) ∧ W = w') (h1 : lo / t = q) (h2 : hi / t = q) (h3 : q / s = e1) (h4 : q * t = a) (hq0 : 0 ≤ q) (hqa : q ≤ a) (hal : a ≤ lo) :
    Calls Tryd.prog 7 #[.agg #[.int .i64 n0, .int .i64 n1, .int .i64 n2, .int .i64 n3, .int .i64 n4, .int .i64 n5], .int .i64 x, .int .i64 y] w fun e w' => e = .returned (.bool true) ∧ Below w.heap.size w w' := by
  have hf := hch.small.fits
  have hi_ : ∀ y : Int, 0 ≤ y → y ≤ 6597069766656 → -9223372036854775808 ≤ y ∧ y ≤ 9223372036854775807 := fun y h0 h1 => by omega
  have c0 : ∀ W G, AtC w W G [.int .i64 v, .int .i64 s, .int .i64 c, .int .i64 n, .int .i64 t, .int .i64 d, .int .i64 r, .int .i64 k, .int .i64 g, .int .u64 0] → Calls Tryd.prog 14 #[.agg #[.int .i64 v, .int .i64 s, .int .i64 c, .int .i64 n, .int .i64 t, .int .i64 d, .int .i64 r, .int .i64 k, .int .i64 g, .int .u64 0], .int .i64 lo] W fun e w' => e = .returned (.tuple #[.int .i64 q, .int .i64 0]) ∧ AtC w w' G [.int .i64 v, .int .i64 s, .int .i64 c, .int .i64 n, .int .i64 t, .int .i64 d, .int .i64 r, .int .i64 k, .int .i64 g, .int .u64 0] := fun W G h => atc_of h (SlotOf_any hf 0 W h.1 lo (hi_ lo (by omega) (by omega)) q 0 (slotA_on hl0 (by omega) h1))
  have c1 : ∀ W G, AtC w W G [.int .i64 v, .int .i64 s, .int .i64 c, .int .i64 n, .int .i64 t, .int .i64 d, .int .i64 r, .int .i64 k, .int .i64 g, .int .u64 0] → Calls Tryd.prog 14 #[.agg #[.int .i64 v, .int .i64 s, .int .i64 c, .int .i64 n, .int .i64 t, .int .i64 d, .int .i64 r, .int .i64 k, .int .i64 g, .int .u64 0], .int .i64 hi] W fun e w' => e = .returned (.tuple #[.int .i64 q, .int .i64 0]) ∧ AtC w w' G [.int .i64 v, .int .i64 s, .int .i64 c, .int .i64 n, .int .i64 t, .int .i64 d, .int .i64 r, .int .i64 k, .int .i64 g, .int .u64 0] := fun W G h => atc_of h (SlotOf_any hf 0 W h.1 hi (hi_ hi (by omega) (by omega)) q 0 (slotA_on (by omega) hh h2))
  have c2 : ∀ W G, AtC w W G [.int .i64 v, .int .i64 s, .int .i64 c, .int .i64 n, .int .i64 t, .int .i64 d, .int .i64 r, .int .i64 k, .int .i64 g, .int .u64 0] → Calls Tryd.prog 18 #[.agg #[.int .i64 v, .int .i64 s, .int .i64 c, .int .i64 n, .int .i64 t, .int .i64 d, .int .i64 r, .int .i64 k, .int .i64 g, .int .u64 0], .int .i64 q] W fun e w' => e = .returned (.tuple #[.int .i64 e1, .int .i64 0]) ∧ AtC w w' G [.int .i64 v, .int .i64 s, .int .i64 c, .int .i64 n, .int .i64 t, .int .i64 d, .int .i64 r, .int .i64 k, .int .i64 g, .int .u64 0] := fun W G h => atc_of h (EpochOf_any hf 0 W h.1 q (hi_ q (by omega) (by omega)) e1 0 (epochA_on hq0 h3))
  have c3 : ∀ W G, AtC w W G [.int .i64 v, .int .i64 s, .int .i64 c, .int .i64 n, .int .i64 t, .int .i64 d, .int .i64 r, .int .i64 k, .int .i64 g, .int .u64 0] → Calls Tryd.prog 16 #[.agg #[.int .i64 v, .int .i64 s, .int .i64 c, .int .i64 n, .int .i64 t, .int .i64 d, .int .i64 r, .int .i64 k, .int .i64 g, .int .u64 0], .int .i64 q] W fun e w' => e = .returned (.tuple #[.int .i64 a, .int .i64 0]) ∧ AtC w w' G [.int .i64 v, .int .i64 s, .int .i64 c, .int .i64 n, .int .i64 t, .int .i64 d, .int .i64 r, .int .i64 k, .int .i64 g, .int .u64 0] := fun W G h => atc_of h (Start_any hf 0 W h.1 q (hi_ q (by omega) (by omega)) a 0 (startA_on hq0 h4 (by omega)))
  clear hf hi_ h1 h2 h3 h4
  have hA : Below w.heap.size w (w.alloc (.cells #[.int .i64 n0, .int .i64 n1, .int .i64 n2, .int .i64 n3, .int .i64 n4, .int .i64 n5] 25)) := (Below.refl _ _).alloc (Nat.le_refl _) _
  go_enter Tryd.func7, Tryd.ntmps7
  go_wp2_with fail
  with_reducible refine (awake_any _ (hT.on hA)).mono ?_
  rintro e w1 ⟨rfl, hb1⟩
  have hw1 : Below w.heap.size w w1 := box_bel (by simpa using hb1)
  have R1 : RowAt w1 w.heap.size 25 [.int .i64 n0, .int .i64 n1, .int .i64 n2, .int .i64 n3, .int .i64 n4, .int .i64 n5] := (RowAt.new w 25 #[.int .i64 n0, .int .i64 n1, .int .i64 n2, .int .i64 n3, .int .i64 n4, .int .i64 n5]).below hb1 (by simp)
  have r0 : w1.cell? ⟨w.heap.size, 0, none⟩ = some (.int .i64 n0) := by rw [R1.cell]; rfl
  have r1 : w1.cell? ⟨w.heap.size, 1, none⟩ = some (.int .i64 n1) := by rw [R1.cell]; rfl
  have r2 : w1.cell? ⟨w.heap.size, 2, none⟩ = some (.int .i64 n2) := by rw [R1.cell]; rfl
  have r3 : w1.cell? ⟨w.heap.size, 3, none⟩ = some (.int .i64 n3) := by rw [R1.cell]; rfl
  have r4 : w1.cell? ⟨w.heap.size, 4, none⟩ = some (.int .i64 n4) := by rw [R1.cell]; rfl
  have r5 : w1.cell? ⟨w.heap.size, 5, none⟩ = some (.int .i64 n5) := by rw [R1.cell]; rfl
  clear R1 hb1 hA
  go_wp2_with fail
  with_reducible refine (Chain_any hch 0 _ b0 b1 b2 b3 b4 b5).mono ?_
  rintro e w2 ⟨rfl, hb2⟩
  have hw2 := hw1.trans (hb2.mono hw1.size)
  have A1 : AtC w (w2.alloc (.cells #[.int .i64 v, .int .i64 s, .int .i64 c, .int .i64 n, .int .i64 t, .int .i64 d, .int .i64 r, .int .i64 k, .int .i64 g, .int .u64 0] 24)) w2.heap.size [.int .i64 v, .int .i64 s, .int .i64 c, .int .i64 n, .int .i64 t, .int .i64 d, .int .i64 r, .int .i64 k, .int .i64 g, .int .u64 0] := AtC.new (hT.on hw2) hw2
  clear r0 r1 r2 r3 r4 r5 hb2 hw1 hch
  go_wp2_with (first
    | ((with_reducible refine (c0 _ _ (by assumption)).mono ?_); rintro e w3 ⟨rfl, A1⟩; obtain ⟨q0, q1, q2, q3, q4, q5, q6, q7, q8, q9⟩ := A1.cells)
    | ((with_reducible refine (c1 _ _ (by assumption)).mono ?_); rintro e w3 ⟨rfl, A1⟩; obtain ⟨q0, q1, q2, q3, q4, q5, q6, q7, q8, q9⟩ := A1.cells)
    | ((with_reducible refine (c2 _ _ (by assumption)).mono ?_); rintro e w3 ⟨rfl, A1⟩; obtain ⟨q0, q1, q2, q3, q4, q5, q6, q7, q8, q9⟩ := A1.cells)
    | ((with_reducible refine (c3 _ _ (by assumption)).mono ?_); rintro e w3 ⟨rfl, A1⟩; obtain ⟨q0, q1, q2, q3, q4, q5, q6, q7, q8, q9⟩ := A1.cells)
    | ((with_reducible refine (HP _).mono ?_); rintro e w_ ⟨rfl, rfl⟩)
    | ((with_reducible refine (HY _).mono ?_); rintro e w_ ⟨rfl, rfl⟩))
  go_ret
  exact ⟨rfl, (by assumption : AtC w _ _ _).2.1⟩
set_option maxHeartbeats 4000000 in
set_option maxRecDepth 100000 in
theorem rises_less {n0 n1 n2 n3 n4 n5 v s c n t d r k g : Int} (hch : ChainOf n0 n1 n2 n3 n4 n5 v s c n t d r k g) (w : World) (hT : Spans w) (b0 : I64 n0) (b1 : I64 n1) (b2 : I64 n2) (b3 : I64 n3) (b4 : I64 n4) (b5 : I64 n5) (x y p1 p2 lo hi q a e1 q2 a2 e2 : Int) (hmn : min p1 p2 = lo) (hmx : max p1 p2 = hi) (hl0 : 0 ≤ lo) (hlh : lo ≤ hi) (hh : hi ≤ 1099511627776) (HP : ∀ W, Calls Tryd.prog 13 #[.int .i64 x, .int .i64 1099511627777] W fun e w' => e = .returned (.int .i64 p1) ∧ W = w') (HY : ∀ W, Calls Tryd.prog 13 #[.int .i64 y, .int .i64 1099511627777] W fun e w' => e = .returned (.int .i64 p2) ∧ W = w') (h1 : lo / t = q) (h2 : hi / t = q2) (h3 : q / s = e1) (h4 : q * t = a) (hq0 : 0 ≤ q) (hqa : q ≤ a) (hal : a ≤ lo) (h5 : q2 / s = e2) (h6 : q2 * t = a2) (hq2 : q < q2) (hqa2 : q2 ≤ a2) (hah : a2 ≤ hi) (haa : a < a2) (hee : e1 ≤ e2) :
    Calls Tryd.prog 7 #[.agg #[.int .i64 n0, .int .i64 n1, .int .i64 n2, .int .i64 n3, .int .i64 n4, .int .i64 n5], .int .i64 x, .int .i64 y] w fun e w' => e = .returned (.bool true) ∧ Below w.heap.size w w' := by
  have hf := hch.small.fits
  have hi_ : ∀ y : Int, 0 ≤ y → y ≤ 6597069766656 → -9223372036854775808 ≤ y ∧ y ≤ 9223372036854775807 := fun y h0 h1 => by omega
  have c0 : ∀ W G, AtC w W G [.int .i64 v, .int .i64 s, .int .i64 c, .int .i64 n, .int .i64 t, .int .i64 d, .int .i64 r, .int .i64 k, .int .i64 g, .int .u64 0] → Calls Tryd.prog 14 #[.agg #[.int .i64 v, .int .i64 s, .int .i64 c, .int .i64 n, .int .i64 t, .int .i64 d, .int .i64 r, .int .i64 k, .int .i64 g, .int .u64 0], .int .i64 lo] W fun e w' => e = .returned (.tuple #[.int .i64 q, .int .i64 0]) ∧ AtC w w' G [.int .i64 v, .int .i64 s, .int .i64 c, .int .i64 n, .int .i64 t, .int .i64 d, .int .i64 r, .int .i64 k, .int .i64 g, .int .u64 0] := fun W G h => atc_of h (SlotOf_any hf 0 W h.1 lo (hi_ lo (by omega) (by omega)) q 0 (slotA_on hl0 (by omega) h1))
  have c1 : ∀ W G, AtC w W G [.int .i64 v, .int .i64 s, .int .i64 c, .int .i64 n, .int .i64 t, .int .i64 d, .int .i64 r, .int .i64 k, .int .i64 g, .int .u64 0] → Calls Tryd.prog 14 #[.agg #[.int .i64 v, .int .i64 s, .int .i64 c, .int .i64 n, .int .i64 t, .int .i64 d, .int .i64 r, .int .i64 k, .int .i64 g, .int .u64 0], .int .i64 hi] W fun e w' => e = .returned (.tuple #[.int .i64 q2, .int .i64 0]) ∧ AtC w w' G [.int .i64 v, .int .i64 s, .int .i64 c, .int .i64 n, .int .i64 t, .int .i64 d, .int .i64 r, .int .i64 k, .int .i64 g, .int .u64 0] := fun W G h => atc_of h (SlotOf_any hf 0 W h.1 hi (hi_ hi (by omega) (by omega)) q2 0 (slotA_on (by omega) hh h2))
  have c2 : ∀ W G, AtC w W G [.int .i64 v, .int .i64 s, .int .i64 c, .int .i64 n, .int .i64 t, .int .i64 d, .int .i64 r, .int .i64 k, .int .i64 g, .int .u64 0] → Calls Tryd.prog 18 #[.agg #[.int .i64 v, .int .i64 s, .int .i64 c, .int .i64 n, .int .i64 t, .int .i64 d, .int .i64 r, .int .i64 k, .int .i64 g, .int .u64 0], .int .i64 q] W fun e w' => e = .returned (.tuple #[.int .i64 e1, .int .i64 0]) ∧ AtC w w' G [.int .i64 v, .int .i64 s, .int .i64 c, .int .i64 n, .int .i64 t, .int .i64 d, .int .i64 r, .int .i64 k, .int .i64 g, .int .u64 0] := fun W G h => atc_of h (EpochOf_any hf 0 W h.1 q (hi_ q (by omega) (by omega)) e1 0 (epochA_on hq0 h3))
  have c3 : ∀ W G, AtC w W G [.int .i64 v, .int .i64 s, .int .i64 c, .int .i64 n, .int .i64 t, .int .i64 d, .int .i64 r, .int .i64 k, .int .i64 g, .int .u64 0] → Calls Tryd.prog 16 #[.agg #[.int .i64 v, .int .i64 s, .int .i64 c, .int .i64 n, .int .i64 t, .int .i64 d, .int .i64 r, .int .i64 k, .int .i64 g, .int .u64 0], .int .i64 q] W fun e w' => e = .returned (.tuple #[.int .i64 a, .int .i64 0]) ∧ AtC w w' G [.int .i64 v, .int .i64 s, .int .i64 c, .int .i64 n, .int .i64 t, .int .i64 d, .int .i64 r, .int .i64 k, .int .i64 g, .int .u64 0] := fun W G h => atc_of h (Start_any hf 0 W h.1 q (hi_ q (by omega) (by omega)) a 0 (startA_on hq0 h4 (by omega)))
  have c4 : ∀ W G, AtC w W G [.int .i64 v, .int .i64 s, .int .i64 c, .int .i64 n, .int .i64 t, .int .i64 d, .int .i64 r, .int .i64 k, .int .i64 g, .int .u64 0] → Calls Tryd.prog 18 #[.agg #[.int .i64 v, .int .i64 s, .int .i64 c, .int .i64 n, .int .i64 t, .int .i64 d, .int .i64 r, .int .i64 k, .int .i64 g, .int .u64 0], .int .i64 q2] W fun e w' => e = .returned (.tuple #[.int .i64 e2, .int .i64 0]) ∧ AtC w w' G [.int .i64 v, .int .i64 s, .int .i64 c, .int .i64 n, .int .i64 t, .int .i64 d, .int .i64 r, .int .i64 k, .int .i64 g, .int .u64 0] := fun W G h => atc_of h (EpochOf_any hf 0 W h.1 q2 (hi_ q2 (by omega) (by omega)) e2 0 (epochA_on (by omega) h5))
  have c5 : ∀ W G, AtC w W G [.int .i64 v, .int .i64 s, .int .i64 c, .int .i64 n, .int .i64 t, .int .i64 d, .int .i64 r, .int .i64 k, .int .i64 g, .int .u64 0] → Calls Tryd.prog 16 #[.agg #[.int .i64 v, .int .i64 s, .int .i64 c, .int .i64 n, .int .i64 t, .int .i64 d, .int .i64 r, .int .i64 k, .int .i64 g, .int .u64 0], .int .i64 q2] W fun e w' => e = .returned (.tuple #[.int .i64 a2, .int .i64 0]) ∧ AtC w w' G [.int .i64 v, .int .i64 s, .int .i64 c, .int .i64 n, .int .i64 t, .int .i64 d, .int .i64 r, .int .i64 k, .int .i64 g, .int .u64 0] := fun W G h => atc_of h (Start_any hf 0 W h.1 q2 (hi_ q2 (by omega) (by omega)) a2 0 (startA_on (by omega) h6 (by omega)))
  have nq : (q == q2) = false := by simp; omega
  have na : (a == a2) = false := by simp; omega
  have lq : q ≤ q2 := by omega
  have la : a ≤ a2 := by omega
  clear hf hi_ h1 h2 h3 h4 h5 h6
  have hA : Below w.heap.size w (w.alloc (.cells #[.int .i64 n0, .int .i64 n1, .int .i64 n2, .int .i64 n3, .int .i64 n4, .int .i64 n5] 25)) := (Below.refl _ _).alloc (Nat.le_refl _) _
  go_enter Tryd.func7, Tryd.ntmps7
  go_wp2_with fail
  with_reducible refine (awake_any _ (hT.on hA)).mono ?_
  rintro e w1 ⟨rfl, hb1⟩
  have hw1 : Below w.heap.size w w1 := box_bel (by simpa using hb1)
  have R1 : RowAt w1 w.heap.size 25 [.int .i64 n0, .int .i64 n1, .int .i64 n2, .int .i64 n3, .int .i64 n4, .int .i64 n5] := (RowAt.new w 25 #[.int .i64 n0, .int .i64 n1, .int .i64 n2, .int .i64 n3, .int .i64 n4, .int .i64 n5]).below hb1 (by simp)
  have r0 : w1.cell? ⟨w.heap.size, 0, none⟩ = some (.int .i64 n0) := by rw [R1.cell]; rfl
  have r1 : w1.cell? ⟨w.heap.size, 1, none⟩ = some (.int .i64 n1) := by rw [R1.cell]; rfl
  have r2 : w1.cell? ⟨w.heap.size, 2, none⟩ = some (.int .i64 n2) := by rw [R1.cell]; rfl
  have r3 : w1.cell? ⟨w.heap.size, 3, none⟩ = some (.int .i64 n3) := by rw [R1.cell]; rfl
  have r4 : w1.cell? ⟨w.heap.size, 4, none⟩ = some (.int .i64 n4) := by rw [R1.cell]; rfl
  have r5 : w1.cell? ⟨w.heap.size, 5, none⟩ = some (.int .i64 n5) := by rw [R1.cell]; rfl
  clear R1 hb1 hA
  go_wp2_with fail
  with_reducible refine (Chain_any hch 0 _ b0 b1 b2 b3 b4 b5).mono ?_
  rintro e w2 ⟨rfl, hb2⟩
  have hw2 := hw1.trans (hb2.mono hw1.size)
  have A1 : AtC w (w2.alloc (.cells #[.int .i64 v, .int .i64 s, .int .i64 c, .int .i64 n, .int .i64 t, .int .i64 d, .int .i64 r, .int .i64 k, .int .i64 g, .int .u64 0] 24)) w2.heap.size [.int .i64 v, .int .i64 s, .int .i64 c, .int .i64 n, .int .i64 t, .int .i64 d, .int .i64 r, .int .i64 k, .int .i64 g, .int .u64 0] := AtC.new (hT.on hw2) hw2
  clear r0 r1 r2 r3 r4 r5 hb2 hw1 hch
  go_wp2_with (first
    | ((with_reducible refine (c0 _ _ (by assumption)).mono ?_); rintro e w3 ⟨rfl, A1⟩; obtain ⟨q0, q1, q2, q3, q4, q5, q6, q7, q8, q9⟩ := A1.cells)
    | ((with_reducible refine (c1 _ _ (by assumption)).mono ?_); rintro e w3 ⟨rfl, A1⟩; obtain ⟨q0, q1, q2, q3, q4, q5, q6, q7, q8, q9⟩ := A1.cells)
    | ((with_reducible refine (c2 _ _ (by assumption)).mono ?_); rintro e w3 ⟨rfl, A1⟩; obtain ⟨q0, q1, q2, q3, q4, q5, q6, q7, q8, q9⟩ := A1.cells)
    | ((with_reducible refine (c3 _ _ (by assumption)).mono ?_); rintro e w3 ⟨rfl, A1⟩; obtain ⟨q0, q1, q2, q3, q4, q5, q6, q7, q8, q9⟩ := A1.cells)
    | ((with_reducible refine (c4 _ _ (by assumption)).mono ?_); rintro e w3 ⟨rfl, A1⟩; obtain ⟨q0, q1, q2, q3, q4, q5, q6, q7, q8, q9⟩ := A1.cells)
    | ((with_reducible refine (c5 _ _ (by assumption)).mono ?_); rintro e w3 ⟨rfl, A1⟩; obtain ⟨q0, q1, q2, q3, q4, q5, q6, q7, q8, q9⟩ := A1.cells)
    | ((with_reducible refine (HP _).mono ?_); rintro e w_ ⟨rfl, rfl⟩)
    | ((with_reducible refine (HY _).mono ?_); rintro e w_ ⟨rfl, rfl⟩))
  go_ret
  exact ⟨rfl, (by assumption : AtC w _ _ _).2.1⟩

theorem rises_calls {n0 n1 n2 n3 n4 n5 : Int} (b0 : I64 n0) (b1 : I64 n1) (b2 : I64 n2) (b3 : I64 n3) (b4 : I64 n4) (b5 : I64 n5) (x : Int) (hx : I64 x) (y : Int) (hy : I64 y) (w : World) (hT : Spans w) :
    Calls Tryd.prog 7 #[.agg #[.int .i64 n0, .int .i64 n1, .int .i64 n2, .int .i64 n3, .int .i64 n4, .int .i64 n5], .int .i64 x, .int .i64 y] w fun e w' => e = .returned (.bool true) ∧ Below w.heap.size w w' := by
  obtain ⟨v, s, c, n, t, d, r, k, g, hch⟩ := chain_of n0 n1 n2 n3 n4 n5
  have ht := hch.small.T
  have hs := hch.small.S
  have hp := cpick_bd x 1099511627777 (by omega)
  have ha := cpick_bd y 1099511627777 (by omega)
  have HP := fun W => cpick_any x 1099511627777 W hx (by omega) (by omega)
  have HY := fun W => cpick_any y 1099511627777 W hy (by omega) (by omega)
  generalize cpick x 1099511627777 = p1 at hp HP
  generalize cpick y 1099511627777 = p2 at ha HY
  obtain ⟨lo, hlo⟩ : ∃ lo, min p1 p2 = lo := ⟨_, rfl⟩
  obtain ⟨hi, hhi⟩ : ∃ hi, max p1 p2 = hi := ⟨_, rfl⟩
  obtain ⟨q, a, h1, h2, h3, h4, h5, h6, h7, h8, h9⟩ := parts_of lo t (by omega) ht.1
  obtain ⟨q2, a2, g1, g2, g3, g4, g5, g6, g7, g8, g9⟩ := parts_of hi t (by omega) ht.1
  obtain ⟨e1, k1⟩ : ∃ e1, q / s = e1 := ⟨_, rfl⟩
  obtain ⟨e2, k2⟩ : ∃ e2, q2 / s = e2 := ⟨_, rfl⟩
  have hle : q ≤ q2 := by rw [← h1, ← g1]; exact Int.ediv_le_ediv (by omega) (by omega)
  by_cases hq : q = q2
  · subst hq
    exact rises_same hch w hT b0 b1 b2 b3 b4 b5 x y p1 p2 lo hi q a e1 hlo hhi (by omega) (by omega) (by omega) HP HY h1 g1 k1 h2 h5 h6 h8
  · have haa : a < a2 := by rw [← h2, ← g2]; exact Int.mul_lt_mul_of_pos_right (by omega) (by omega)
    have hee : e1 ≤ e2 := by rw [← k1, ← k2]; exact Int.ediv_le_ediv (by omega) hle
    exact rises_less hch w hT b0 b1 b2 b3 b4 b5 x y p1 p2 lo hi q a e1 q2 a2 e2 hlo hhi (by omega) (by omega) (by omega) HP HY h1 g1 k1 h2 h5 h6 h8 k2 g2 (by omega) g6 g8 haa hee
end Go.Proofs.YtnibfcoecfppnaaDoor
