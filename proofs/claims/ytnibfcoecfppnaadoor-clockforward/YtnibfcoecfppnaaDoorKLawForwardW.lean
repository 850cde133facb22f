/- The walk of a law of layer 8. -/
import Derived.Test.YtnibfcoecfppnaaDoorKLawSlotsW
import Derived.Deep.QuietTactic
import Derived.BigQuiet
import Derived.Lib.MinMax
namespace Go.Proofs.YtnibfcoecfppnaaDoor
open Go.RowKit

set_option maxHeartbeats 4000000 in
set_option maxRecDepth 100000 in
theorem forward_1 {n0 n1 n2 n3 n4 n5 v s c n t d r k g : Int} (hch : ChainOf n0 n1 n2 n3 n4 n5 v s c n t d r k g) (w : World) (hT : Spans w) (b0 : I64 n0) (b1 : I64 n1) (b2 : I64 n2) (b3 : I64 n3) (b4 : I64 n4) (b5 : I64 n5) (x y z p a b R E : Int) (hx0 : 0 ≤ p) (hx1 : p ≤ 1099511627776) (ha0 : 0 ≤ a) (ha1 : a < 2199023255552) (hb0 : 0 ≤ b) (hb1 : b < 2199023255552) (hR : forwardA true 0 b = (R, E)) (HP : ∀ W, Calls Tryd.prog 13 #[.int .i64 x, .int .i64 1099511627777] W fun e w' => e = .returned (.int .i64 p) ∧ W = w') (HA : ∀ W, Calls Tryd.prog 13 #[.int .i64 y, .int .i64 2199023255552] W fun e w' => e = .returned (.int .i64 a) ∧ W = w') (HB : ∀ W, Calls Tryd.prog 13 #[.int .i64 z, .int .i64 2199023255552] W fun e w' => e = .returned (.int .i64 b) ∧ W = w') (hcase : 1099511627776 < p + a) :
    Calls Tryd.prog 6 #[.agg #[.int .i64 n0, .int .i64 n1, .int .i64 n2, .int .i64 n3, .int .i64 n4, .int .i64 n5], .int .i64 x, .int .i64 y, .int .i64 z] w fun e w' => e = .returned (.bool true) ∧ Below w.heap.size w w' := by
  have hf := hch.small.fits
  have hi : ∀ y : Int, 0 ≤ y → y ≤ 6597069766656 → -9223372036854775808 ≤ y ∧ y ≤ 9223372036854775807 := fun y h0 h1 => by omega
  have c0 : ∀ W G, AtC w W G [.int .i64 v, .int .i64 s, .int .i64 c, .int .i64 n, .int .i64 t, .int .i64 d, .int .i64 r, .int .i64 k, .int .i64 g, .int .u64 0] → Calls Tryd.prog 22 #[.agg #[.int .i64 v, .int .i64 s, .int .i64 c, .int .i64 n, .int .i64 t, .int .i64 d, .int .i64 r, .int .i64 k, .int .i64 g, .int .u64 0], .int .i64 p, .int .i64 a] W fun e w' => e = .returned (.tuple #[.int .i64 0, .int .i64 8]) ∧ AtC w w' G [.int .i64 v, .int .i64 s, .int .i64 c, .int .i64 n, .int .i64 t, .int .i64 d, .int .i64 r, .int .i64 k, .int .i64 g, .int .u64 0] := fun W G h => atc_of h (Forward_any hf 0 W h.1 p a (hi _ (by omega) (by omega)) (hi _ (by omega) (by omega)) 0 8 (forwardA_late hx0 hx1 ha0 hcase))
  have c1 : ∀ W G, AtC w W G [.int .i64 v, .int .i64 s, .int .i64 c, .int .i64 n, .int .i64 t, .int .i64 d, .int .i64 r, .int .i64 k, .int .i64 g, .int .u64 0] → Calls Tryd.prog 22 #[.agg #[.int .i64 v, .int .i64 s, .int .i64 c, .int .i64 n, .int .i64 t, .int .i64 d, .int .i64 r, .int .i64 k, .int .i64 g, .int .u64 0], .int .i64 0, .int .i64 b] W fun e w' => e = .returned (.tuple #[.int .i64 R, .int .i64 E]) ∧ AtC w w' G [.int .i64 v, .int .i64 s, .int .i64 c, .int .i64 n, .int .i64 t, .int .i64 d, .int .i64 r, .int .i64 k, .int .i64 g, .int .u64 0] := fun W G h => atc_of h (Forward_any hf 0 W h.1 0 b (hi _ (by omega) (by omega)) (hi _ (by omega) (by omega)) R E (hR))
  have c2 : ∀ W G, AtC w W G [.int .i64 v, .int .i64 s, .int .i64 c, .int .i64 n, .int .i64 t, .int .i64 d, .int .i64 r, .int .i64 k, .int .i64 g, .int .u64 0] → Calls Tryd.prog 22 #[.agg #[.int .i64 v, .int .i64 s, .int .i64 c, .int .i64 n, .int .i64 t, .int .i64 d, .int .i64 r, .int .i64 k, .int .i64 g, .int .u64 0], .int .i64 p, .int .i64 (a + b)] W fun e w' => e = .returned (.tuple #[.int .i64 0, .int .i64 8]) ∧ AtC w w' G [.int .i64 v, .int .i64 s, .int .i64 c, .int .i64 n, .int .i64 t, .int .i64 d, .int .i64 r, .int .i64 k, .int .i64 g, .int .u64 0] := fun W G h => atc_of h (Forward_any hf 0 W h.1 p (a + b) (hi _ (by omega) (by omega)) (hi _ (by omega) (by omega)) 0 8 (forwardA_late hx0 hx1 (by omega) (by omega)))
  have hall : 1099511627776 < p + a + b := by omega
  clear hf hi hR
  have hA : Below w.heap.size w (w.alloc (.cells #[.int .i64 n0, .int .i64 n1, .int .i64 n2, .int .i64 n3, .int .i64 n4, .int .i64 n5] 25)) := (Below.refl _ _).alloc (Nat.le_refl _) _
  go_enter Tryd.func6, Tryd.ntmps6
  go_wp2_with fail
  with_reducible refine (awake_any _ (hT.on hA)).mono ?_
  rintro e w1 ⟨rfl, hb1⟩
  have hw1 : Below w.heap.size w w1 := box_bel (by simpa using hb1)
  have R1 : RowAt w1 w.heap.size 25 [.int .i64 n0, .int .i64 n1, .int .i64 n2, .int .i64 n3, .int .i64 n4, .int .i64 n5] := (RowAt.new w 25 #[.int .i64 n0, .int .i64 n1, .int .i64 n2, .int .i64 n3, .int .i64 n4, .int .i64 n5]).below hb1 (by simp)
  have r0 : w1.cell? ⟨w.heap.size, 0, none⟩ = some (.int .i64 n0) := by rw [R1.cell]; rfl
  have r1 : w1.cell? ⟨w.heap.size, 1, none⟩ = some (.int .i64 n1) := by rw [R1.cell]; rfl
  have r2 : w1.cell? ⟨w.heap.size, 2, none⟩ = some (.int .i64 n2) := by rw [R1.cell]; rfl
  have r3 : w1.cell? ⟨w.heap.size, 3, none⟩ = some (.int .i64 n3) := by rw [R1.cell]; rfl
  have r4 : w1.cell? ⟨w.heap.size, 4, none⟩ = some (.int .i64 n4) := by rw [R1.cell]; rfl
  have r5 : w1.cell? ⟨w.heap.size, 5, none⟩ = some (.int .i64 n5) := by rw [R1.cell]; rfl
  clear R1 hb1 hA
  go_wp2_with fail
  with_reducible refine (Chain_any hch 0 _ b0 b1 b2 b3 b4 b5).mono ?_
  rintro e w2 ⟨rfl, hb2⟩
  have hw2 := hw1.trans (hb2.mono hw1.size)
  have A1 : AtC w (w2.alloc (.cells #[.int .i64 v, .int .i64 s, .int .i64 c, .int .i64 n, .int .i64 t, .int .i64 d, .int .i64 r, .int .i64 k, .int .i64 g, .int .u64 0] 24)) w2.heap.size [.int .i64 v, .int .i64 s, .int .i64 c, .int .i64 n, .int .i64 t, .int .i64 d, .int .i64 r, .int .i64 k, .int .i64 g, .int .u64 0] := AtC.new (hT.on hw2) hw2
  clear r0 r1 r2 r3 r4 r5 hb2 hw1 hch
  go_wp2_with (first
    | ((with_reducible refine (c0 _ _ (by assumption)).mono ?_); rintro e w3 ⟨rfl, A1⟩; obtain ⟨q0, q1, q2, q3, q4, q5, q6, q7, q8, q9⟩ := A1.cells)
    | ((with_reducible refine (c1 _ _ (by assumption)).mono ?_); rintro e w3 ⟨rfl, A1⟩; obtain ⟨q0, q1, q2, q3, q4, q5, q6, q7, q8, q9⟩ := A1.cells)
    | ((with_reducible refine (c2 _ _ (by assumption)).mono ?_); rintro e w3 ⟨rfl, A1⟩; obtain ⟨q0, q1, q2, q3, q4, q5, q6, q7, q8, q9⟩ := A1.cells)
    | ((with_reducible refine (HP _).mono ?_); rintro e w_ ⟨rfl, rfl⟩)
    | ((with_reducible refine (HA _).mono ?_); rintro e w_ ⟨rfl, rfl⟩)
    | ((with_reducible refine (HB _).mono ?_); rintro e w_ ⟨rfl, rfl⟩))
  go_ret
  exact ⟨rfl, (by assumption : AtC w _ _ _).2.1⟩
set_option maxHeartbeats 4000000 in
set_option maxRecDepth 100000 in
theorem forward_2 {n0 n1 n2 n3 n4 n5 v s c n t d r k g : Int} (hch : ChainOf n0 n1 n2 n3 n4 n5 v s c n t d r k g) (w : World) (hT : Spans w) (b0 : I64 n0) (b1 : I64 n1) (b2 : I64 n2) (b3 : I64 n3) (b4 : I64 n4) (b5 : I64 n5) (x y z p a b : Int) (hx0 : 0 ≤ p) (hx1 : p ≤ 1099511627776) (ha0 : 0 ≤ a) (ha1 : a < 2199023255552) (hb0 : 0 ≤ b) (hb1 : b < 2199023255552) (HP : ∀ W, Calls Tryd.prog 13 #[.int .i64 x, .int .i64 1099511627777] W fun e w' => e = .returned (.int .i64 p) ∧ W = w') (HA : ∀ W, Calls Tryd.prog 13 #[.int .i64 y, .int .i64 2199023255552] W fun e w' => e = .returned (.int .i64 a) ∧ W = w') (HB : ∀ W, Calls Tryd.prog 13 #[.int .i64 z, .int .i64 2199023255552] W fun e w' => e = .returned (.int .i64 b) ∧ W = w') (hcase : p + a ≤ 1099511627776) (hcase2 : 1099511627776 < p + a + b) :
    Calls Tryd.prog 6 #[.agg #[.int .i64 n0, .int .i64 n1, .int .i64 n2, .int .i64 n3, .int .i64 n4, .int .i64 n5], .int .i64 x, .int .i64 y, .int .i64 z] w fun e w' => e = .returned (.bool true) ∧ Below w.heap.size w w' := by
  have hf := hch.small.fits
  have hi : ∀ y : Int, 0 ≤ y → y ≤ 6597069766656 → -9223372036854775808 ≤ y ∧ y ≤ 9223372036854775807 := fun y h0 h1 => by omega
  have c0 : ∀ W G, AtC w W G [.int .i64 v, .int .i64 s, .int .i64 c, .int .i64 n, .int .i64 t, .int .i64 d, .int .i64 r, .int .i64 k, .int .i64 g, .int .u64 0] → Calls Tryd.prog 22 #[.agg #[.int .i64 v, .int .i64 s, .int .i64 c, .int .i64 n, .int .i64 t, .int .i64 d, .int .i64 r, .int .i64 k, .int .i64 g, .int .u64 0], .int .i64 p, .int .i64 a] W fun e w' => e = .returned (.tuple #[.int .i64 (p + a), .int .i64 0]) ∧ AtC w w' G [.int .i64 v, .int .i64 s, .int .i64 c, .int .i64 n, .int .i64 t, .int .i64 d, .int .i64 r, .int .i64 k, .int .i64 g, .int .u64 0] := fun W G h => atc_of h (Forward_any hf 0 W h.1 p a (hi _ (by omega) (by omega)) (hi _ (by omega) (by omega)) (p + a) 0 (forwardA_on hx0 ha0 hcase))
  have c1 : ∀ W G, AtC w W G [.int .i64 v, .int .i64 s, .int .i64 c, .int .i64 n, .int .i64 t, .int .i64 d, .int .i64 r, .int .i64 k, .int .i64 g, .int .u64 0] → Calls Tryd.prog 22 #[.agg #[.int .i64 v, .int .i64 s, .int .i64 c, .int .i64 n, .int .i64 t, .int .i64 d, .int .i64 r, .int .i64 k, .int .i64 g, .int .u64 0], .int .i64 (p + a), .int .i64 b] W fun e w' => e = .returned (.tuple #[.int .i64 0, .int .i64 8]) ∧ AtC w w' G [.int .i64 v, .int .i64 s, .int .i64 c, .int .i64 n, .int .i64 t, .int .i64 d, .int .i64 r, .int .i64 k, .int .i64 g, .int .u64 0] := fun W G h => atc_of h (Forward_any hf 0 W h.1 (p + a) b (hi _ (by omega) (by omega)) (hi _ (by omega) (by omega)) 0 8 (forwardA_late (by omega) hcase hb0 hcase2))
  have c2 : ∀ W G, AtC w W G [.int .i64 v, .int .i64 s, .int .i64 c, .int .i64 n, .int .i64 t, .int .i64 d, .int .i64 r, .int .i64 k, .int .i64 g, .int .u64 0] → Calls Tryd.prog 22 #[.agg #[.int .i64 v, .int .i64 s, .int .i64 c, .int .i64 n, .int .i64 t, .int .i64 d, .int .i64 r, .int .i64 k, .int .i64 g, .int .u64 0], .int .i64 p, .int .i64 (a + b)] W fun e w' => e = .returned (.tuple #[.int .i64 0, .int .i64 8]) ∧ AtC w w' G [.int .i64 v, .int .i64 s, .int .i64 c, .int .i64 n, .int .i64 t, .int .i64 d, .int .i64 r, .int .i64 k, .int .i64 g, .int .u64 0] := fun W G h => atc_of h (Forward_any hf 0 W h.1 p (a + b) (hi _ (by omega) (by omega)) (hi _ (by omega) (by omega)) 0 8 (forwardA_late hx0 hx1 (by omega) (by omega)))
  clear hf hi
  have hA : Below w.heap.size w (w.alloc (.cells #[.int .i64 n0, .int .i64 n1, .int .i64 n2, .int .i64 n3, .int .i64 n4, .int .i64 n5] 25)) := (Below.refl _ _).alloc (Nat.le_refl _) _
  go_enter Tryd.func6, Tryd.ntmps6
  go_wp2_with fail
  with_reducible refine (awake_any _ (hT.on hA)).mono ?_
  rintro e w1 ⟨rfl, hb1⟩
  have hw1 : Below w.heap.size w w1 := box_bel (by simpa using hb1)
  have R1 : RowAt w1 w.heap.size 25 [.int .i64 n0, .int .i64 n1, .int .i64 n2, .int .i64 n3, .int .i64 n4, .int .i64 n5] := (RowAt.new w 25 #[.int .i64 n0, .int .i64 n1, .int .i64 n2, .int .i64 n3, .int .i64 n4, .int .i64 n5]).below hb1 (by simp)
  have r0 : w1.cell? ⟨w.heap.size, 0, none⟩ = some (.int .i64 n0) := by rw [R1.cell]; rfl
  have r1 : w1.cell? ⟨w.heap.size, 1, none⟩ = some (.int .i64 n1) := by rw [R1.cell]; rfl
  have r2 : w1.cell? ⟨w.heap.size, 2, none⟩ = some (.int .i64 n2) := by rw [R1.cell]; rfl
  have r3 : w1.cell? ⟨w.heap.size, 3, none⟩ = some (.int .i64 n3) := by rw [R1.cell]; rfl
  have r4 : w1.cell? ⟨w.heap.size, 4, none⟩ = some (.int .i64 n4) := by rw [R1.cell]; rfl
  have r5 : w1.cell? ⟨w.heap.size, 5, none⟩ = some (.int .i64 n5) := by rw [R1.cell]; rfl
  clear R1 hb1 hA
  go_wp2_with fail
  with_reducible refine (Chain_any hch 0 _ b0 b1 b2 b3 b4 b5).mono ?_
  rintro e w2 ⟨rfl, hb2⟩
  have hw2 := hw1.trans (hb2.mono hw1.size)
  have A1 : AtC w (w2.alloc (.cells #[.int .i64 v, .int .i64 s, .int .i64 c, .int .i64 n, .int .i64 t, .int .i64 d, .int .i64 r, .int .i64 k, .int .i64 g, .int .u64 0] 24)) w2.heap.size [.int .i64 v, .int .i64 s, .int .i64 c, .int .i64 n, .int .i64 t, .int .i64 d, .int .i64 r, .int .i64 k, .int .i64 g, .int .u64 0] := AtC.new (hT.on hw2) hw2
  clear r0 r1 r2 r3 r4 r5 hb2 hw1 hch
  go_wp2_with (first
    | ((with_reducible refine (c0 _ _ (by assumption)).mono ?_); rintro e w3 ⟨rfl, A1⟩; obtain ⟨q0, q1, q2, q3, q4, q5, q6, q7, q8, q9⟩ := A1.cells)
    | ((with_reducible refine (c1 _ _ (by assumption)).mono ?_); rintro e w3 ⟨rfl, A1⟩; obtain ⟨q0, q1, q2, q3, q4, q5, q6, q7, q8, q9⟩ := A1.cells)
    | ((with_reducible refine (c2 _ _ (by assumption)).mono ?_); rintro e w3 ⟨rfl, A1⟩; obtain ⟨q0, q1, q2, q3, q4, q5, q6, q7, q8, q9⟩ := A1.cells)
    | ((with_reducible refine (HP _).mono ?_); rintro e w_ ⟨rfl, rfl⟩)
    | ((with_reducible refine (HA _).mono ?_); rintro e w_ ⟨rfl, rfl⟩)
    | ((with_reducible refine (HB _).mono ?_); rintro e w_ ⟨rfl, rfl⟩))
  go_ret
  exact ⟨rfl, (by assumption : AtC w _ _ _).2.1⟩
set_option maxHeartbeats 4000000 in
set_option maxRecDepth 100000 in
theorem forward_3 {n0 n1 n2 n3 n4 n5 v s c n t d r k g : Int} (hch : ChainOf n0 n1 n2 n3 n4 n5 v s c n t d r k g) (w : World) (hT : Spans w) (b0 : I64 n0) (b1 : I64 n1) (b2 : I64 n2) (b3 : I64 n3) (b4 : I64 n4) (b5 : I64 n5) (x y z p a b : Int) (hx0 : 0 ≤ p) (hx1 : p ≤ 1099511627776) (ha0 : 0 ≤ a) (ha1 : a < 2199023255552) (hb0 : 0 ≤ b) (hb1 : b < 2199023255552) (HP : ∀ W, Calls Tryd.prog 13 #[.int .i64 x, .int .i64 1099511627777] W fun e w' => e = .returned (.int .i64 p) ∧ W = w') (HA : ∀ W, Calls Tryd.prog 13 #[.int .i64 y, .int .i64 2199023255552] W fun e w' => e = .returned (.int .i64 a) ∧ W = w') (HB : ∀ W, Calls Tryd.prog 13 #[.int .i64 z, .int .i64 2199023255552] W fun e w' => e = .returned (.int .i64 b) ∧ W = w') (hcase : p + a ≤ 1099511627776) (hcase2 : p + a + b ≤ 1099511627776) :
    Calls Tryd.prog 6 #[.agg #[.int .i64 n0, .int .i64 n1, .int .i64 n2, .int .i64 n3, .int .i64 n4, .int .i64 n5], .int .i64 x, .int .i64 y, .int .i64 z] w fun e w' => e = .returned (.bool true) ∧ Below w.heap.size w w' := by
  have hf := hch.small.fits
  have hi : ∀ y : Int, 0 ≤ y → y ≤ 6597069766656 → -9223372036854775808 ≤ y ∧ y ≤ 9223372036854775807 := fun y h0 h1 => by omega
  have c0 : ∀ W G, AtC w W G [.int .i64 v, .int .i64 s, .int .i64 c, .int .i64 n, .int .i64 t, .int .i64 d, .int .i64 r, .int .i64 k, .int .i64 g, .int .u64 0] → Calls Tryd.prog 22 #[.agg #[.int .i64 v, .int .i64 s, .int .i64 c, .int .i64 n, .int .i64 t, .int .i64 d, .int .i64 r, .int .i64 k, .int .i64 g, .int .u64 0], .int .i64 p, .int .i64 a] W fun e w' => e = .returned (.tuple #[.int .i64 (p + a), .int .i64 0]) ∧ AtC w w' G [.int .i64 v, .int .i64 s, .int .i64 c, .int .i64 n, .int .i64 t, .int .i64 d, .int .i64 r, .int .i64 k, .int .i64 g, .int .u64 0] := fun W G h => atc_of h (Forward_any hf 0 W h.1 p a (hi _ (by omega) (by omega)) (hi _ (by omega) (by omega)) (p + a) 0 (forwardA_on hx0 ha0 hcase))
  have c1 : ∀ W G, AtC w W G [.int .i64 v, .int .i64 s, .int .i64 c, .int .i64 n, .int .i64 t, .int .i64 d, .int .i64 r, .int .i64 k, .int .i64 g, .int .u64 0] → Calls Tryd.prog 22 #[.agg #[.int .i64 v, .int .i64 s, .int .i64 c, .int .i64 n, .int .i64 t, .int .i64 d, .int .i64 r, .int .i64 k, .int .i64 g, .int .u64 0], .int .i64 (p + a), .int .i64 b] W fun e w' => e = .returned (.tuple #[.int .i64 (p + a + b), .int .i64 0]) ∧ AtC w w' G [.int .i64 v, .int .i64 s, .int .i64 c, .int .i64 n, .int .i64 t, .int .i64 d, .int .i64 r, .int .i64 k, .int .i64 g, .int .u64 0] := fun W G h => atc_of h (Forward_any hf 0 W h.1 (p + a) b (hi _ (by omega) (by omega)) (hi _ (by omega) (by omega)) (p + a + b) 0 (forwardA_on (by omega) hb0 hcase2))
  have c2 : ∀ W G, AtC w W G [.int .i64 v, .int .i64 s, .int .i64 c, .int .i64 n, .int .i64 t, .int .i64 d, .int .i64 r, .int .i64 k, .int .i64 g, .int .u64 0] → Calls Tryd.prog 22 #[.agg #[.int .i64 v, .int .i64 s, .int .i64 c, .int .i64 n, .int .i64 t, .int .i64 d, .int .i64 r, .int .i64 k, .int .i64 g, .int .u64 0], .int .i64 p, .int .i64 (a + b)] W fun e w' => e = .returned (.tuple #[.int .i64 (p + a + b), .int .i64 0]) ∧ AtC w w' G [.int .i64 v, .int .i64 s, .int .i64 c, .int .i64 n, .int .i64 t, .int .i64 d, .int .i64 r, .int .i64 k, .int .i64 g, .int .u64 0] := fun W G h => atc_of h (Forward_any hf 0 W h.1 p (a + b) (hi _ (by omega) (by omega)) (hi _ (by omega) (by omega)) (p + a + b) 0 (by rw [forwardA_on hx0 (by omega) (by omega), Int.add_assoc]))
  clear hf hi
  have hA : Below w.heap.size w (w.alloc (.cells #[.int .i64 n0, .int .i64 n1, .int .i64 n2, .int .i64 n3, .int .i64 n4, .int .i64 n5] 25)) := (Below.refl _ _).alloc (Nat.le_refl _) _
  go_enter Tryd.func6, Tryd.ntmps6
  go_wp2_with fail
  with_reducible refine (awake_any _ (hT.on hA)).mono ?_
  rintro e w1 ⟨rfl, hb1⟩
  have hw1 : Below w.heap.size w w1 := box_bel (by simpa using hb1)
  have R1 : RowAt w1 w.heap.size 25 [.int .i64 n0, .int .i64 n1, .int .i64 n2, .int .i64 n3, .int .i64 n4, .int .i64 n5] := (RowAt.new w 25 #[.int .i64 n0, .int .i64 n1, .int .i64 n2, .int .i64 n3, .int .i64 n4, .int .i64 n5]).below hb1 (by simp)
  have r0 : w1.cell? ⟨w.heap.size, 0, none⟩ = some (.int .i64 n0) := by rw [R1.cell]; rfl
  have r1 : w1.cell? ⟨w.heap.size, 1, none⟩ = some (.int .i64 n1) := by rw [R1.cell]; rfl
  have r2 : w1.cell? ⟨w.heap.size, 2, none⟩ = some (.int .i64 n2) := by rw [R1.cell]; rfl
  have r3 : w1.cell? ⟨w.heap.size, 3, none⟩ = some (.int .i64 n3) := by rw [R1.cell]; rfl
  have r4 : w1.cell? ⟨w.heap.size, 4, none⟩ = some (.int .i64 n4) := by rw [R1.cell]; rfl
  have r5 : w1.cell? ⟨w.heap.size, 5, none⟩ = some (.int .i64 n5) := by rw [R1.cell]; rfl
  clear R1 hb1 hA
  go_wp2_with fail
  with_reducible refine (Chain_any hch 0 _ b0 b1 b2 b3 b4 b5).mono ?_
  rintro e w2 ⟨rfl, hb2⟩
  have hw2 := hw1.trans (hb2.mono hw1.size)
  have A1 : AtC w (w2.alloc (.cells #[.int .i64 v, .int .i64 s, .int .i64 c, .int .i64 n, .int .i64 t, .int .i64 d, .int .i64 r, .int .i64 k, .int .i64 g, .int .u64 0] 24)) w2.heap.size [.int .i64 v, .int .i64 s, .int .i64 c, .int .i64 n, .int .i64 t, .int .i64 d, .int .i64 r, .int .i64 k, .int .i64 g, .int .u64 0] := AtC.new (hT.on hw2) hw2
  clear r0 r1 r2 r3 r4 r5 hb2 hw1 hch
  go_wp2_with (first
    | ((with_reducible refine (c0 _ _ (by assumption)).mono ?_); rintro e w3 ⟨rfl, A1⟩; obtain ⟨q0, q1, q2, q3, q4, q5, q6, q7, q8, q9⟩ := A1.cells)
    | ((with_reducible refine (c1 _ _ (by assumption)).mono ?_); rintro e w3 ⟨rfl, A1⟩; obtain ⟨q0, q1, q2, q3, q4, q5, q6, q7, q8, q9⟩ := A1.cells)
    | ((with_reducible refine (c2 _ _ (by assumption)).mono ?_); rintro e w3 ⟨rfl, A1⟩; obtain ⟨q0, q1, q2, q3, q4, q5, q6, q7, q8, q9⟩ := A1.cells)
    | ((with_reducible refine (HP _).mono ?_); rintro e w_ ⟨rfl, rfl⟩)
    | ((with_reducible refine (HA _).mono ?_); rintro e w_ ⟨rfl, rfl⟩)
    | ((with_reducible refine (HB _).mono ?_); rintro e w_ ⟨rfl, rfl⟩))
  go_ret
  exact ⟨rfl, (by assumption : AtC w _ _ _).2.1⟩

theorem forward_calls {n0 n1 n2 n3 n4 n5 : Int} (b0 : I64 n0) (b1 : I64 n1) (b2 : I64 n2) (b3 : I64 n3) (b4 : I64 n4) (b5 : I64 n5) (x : Int) (hx : I64 x) (y : Int) (hy : I64 y) (z : Int) (hz : I64 z) (w : World) (hT : Spans w) :
    Calls Tryd.prog 6 #[.agg #[.int .i64 n0, .int .i64 n1, .int .i64 n2, .int .i64 n3, .int .i64 n4, .int .i64 n5], .int .i64 x, .int .i64 y, .int .i64 z] w fun e w' => e = .returned (.bool true) ∧ Below w.heap.size w w' := by
  obtain ⟨v, s, c, n, t, d, r, k, g, hch⟩ := chain_of n0 n1 n2 n3 n4 n5
  have hp := cpick_bd x 1099511627777 (by omega)
  have ha := cpick_bd y 2199023255552 (by omega)
  have hb := cpick_bd z 2199023255552 (by omega)
  have HP := fun W => cpick_any x 1099511627777 W hx (by omega) (by omega)
  have HA := fun W => cpick_any y 2199023255552 W hy (by omega) (by omega)
  have HB := fun W => cpick_any z 2199023255552 W hz (by omega) (by omega)
  generalize cpick x 1099511627777 = p at hp HP
  generalize cpick y 2199023255552 = a at ha HA
  generalize cpick z 2199023255552 = b at hb HB
  by_cases hc : 1099511627776 < p + a
  · obtain ⟨R, E, hR⟩ : ∃ R E, forwardA true 0 b = (R, E) := ⟨_, _, rfl⟩
    exact forward_1 hch w hT b0 b1 b2 b3 b4 b5 x y z p a b R E hp.1 (by omega) ha.1 ha.2 hb.1 hb.2 hR HP HA HB hc
  · by_cases hc2 : 1099511627776 < p + a + b
    · exact forward_2 hch w hT b0 b1 b2 b3 b4 b5 x y z p a b hp.1 (by omega) ha.1 ha.2 hb.1 hb.2 HP HA HB (by omega) hc2
    · exact forward_3 hch w hT b0 b1 b2 b3 b4 b5 x y z p a b hp.1 (by omega) ha.1 ha.2 hb.1 hb.2 HP HA HB (by omega) (by omega)
end Go.Proofs.YtnibfcoecfppnaaDoor
