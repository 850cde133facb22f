/- The walk of the law WindowLater. -/
import Derived.Test.YtjcpeimlebpglaaDoorWinD
import Derived.Deep.QuietTactic
import Derived.BigQuiet
import Derived.Lib.MinMax
import Derived.Lib.Hide
namespace Go.Proofs.YtjcpeimlebpglaaDoor
open Go.RowKit

/-- The spans of a tick, of the next one and of a later one. -/
theorem spans_later {t d r y u : Int} (ht : 1 ≤ t) (hd : 0 ≤ d) (hr : 0 ≤ r) (hy : 0 ≤ y) (hyu : y + 1 ≤ u) (hu : u ≤ 1099511627776) :
    ∃ l1 h1 l2 h2 l3 h3, SpanOf t d r y l1 h1 ∧ SpanOf t d r (y + 1) l2 h2 ∧ SpanOf t d r u l3 h3 ∧ l1 ≤ l2 ∧ l2 ≤ l1 + 1 ∧ h1 ≤ h2 ∧ h2 ≤ h1 + 1 ∧ l2 ≤ l3 ∧ h2 ≤ h3 ∧ 0 ≤ l1 ∧ 0 ≤ h1 ∧ l1 ≤ 1099511627776 ∧ h1 ≤ 1099511627776 := by
  obtain ⟨T, rfl⟩ := Int.eq_ofNat_of_zero_le (show 0 ≤ t by omega)
  obtain ⟨D, rfl⟩ := Int.eq_ofNat_of_zero_le hd
  obtain ⟨R, rfl⟩ := Int.eq_ofNat_of_zero_le hr
  obtain ⟨Y, rfl⟩ := Int.eq_ofNat_of_zero_le hy
  obtain ⟨U, rfl⟩ := Int.eq_ofNat_of_zero_le (show 0 ≤ u by omega)
  have S1 := span_nat T D R Y (by omega) (by omega)
  have S2 := span_nat T D R (Y + 1) (by omega) (by omega)
  have S3 := span_nat T D R U (by omega) (by omega)
  have m1 := low_mono (T := T) (D := D) (R := R) (show Y ≤ Y + 1 by omega)
  have m2 := low_step (T := T) (D := D) (R := R) (t := Y) (by omega)
  have m3 := high_mono (T := T) (D := D) (show Y ≤ Y + 1 by omega)
  have m4 := high_step (T := T) (D := D) (t := Y) (by omega)
  have m5 := low_mono (T := T) (D := D) (R := R) (show Y + 1 ≤ U by omega)
  have m6 := high_mono (T := T) (D := D) (show Y + 1 ≤ U by omega)
  have o1 := S1.own
  refine ⟨_, _, _, _, _, _, S1, S2, S3, ?_⟩
  omega
set_option maxHeartbeats 4000000 in
set_option maxRecDepth 100000 in
theorem later_walk {n0 n1 n2 n3 n4 n5 v s c n t d r k g : Int} (hch : ChainOf n0 n1 n2 n3 n4 n5 v s c n t d r k g) (w : World) (hT : Spans w) (b0 : I64K n0) (b1 : I64K n1) (b2 : I64K n2) (b3 : I64K n3) (b4 : I64K n4) (b5 : I64K n5) (x y p z u l1 h1 l2 h2 l3 h3 : Int) (HP : ∀ W, Calls Tryd.prog 10 #[.int .i64 x, .int .i64 1099511627776] W fun e w' => e = .returned (.int .i64 p) ∧ W = w') (HY : ∀ W, Calls Tryd.prog 10 #[.int .i64 y, .int .i64 100] W fun e w' => e = .returned (.int .i64 z) ∧ W = w') (hu : min (p + 1 + z) 1099511627776 = u) (hp0 : 0 ≤ p) (hp1 : p < 1099511627776) (hz0 : 0 ≤ z) (hz1 : z < 100) (S1 : SpanOf t d r p l1 h1) (S2 : SpanOf t d r (p + 1) l2 h2) (S3 : SpanOf t d r u l3 h3) (e1 : l1 ≤ l2) (e2 : l2 ≤ l1 + 1) (e3 : h1 ≤ h2) (e4 : h2 ≤ h1 + 1) (e5 : l2 ≤ l3) (e6 : h2 ≤ h3) (e7 : 0 ≤ l1) (e8 : 0 ≤ h1) (e9 : l1 ≤ 1099511627776) (ea : h1 ≤ 1099511627776) :
    Calls Tryd.prog 6 #[.agg #[.int .i64 n0, .int .i64 n1, .int .i64 n2, .int .i64 n3, .int .i64 n4, .int .i64 n5], .int .i64 x, .int .i64 y] w fun e w' => e = .returned (.bool true) ∧ Below w.heap.size w w' := by
  have hf := hch.small.fits
  have c0 : ∀ W G, AtC w W G [.int .i64 v, .int .i64 s, .int .i64 c, .int .i64 n, .int .i64 t, .int .i64 d, .int .i64 r, .int .i64 k, .int .i64 g, .int .u64 0] → Calls Tryd.prog 17 #[.agg #[.int .i64 v, .int .i64 s, .int .i64 c, .int .i64 n, .int .i64 t, .int .i64 d, .int .i64 r, .int .i64 k, .int .i64 g, .int .u64 0], .int .i64 p] W fun e w' => e = .returned (.tuple #[.int .i64 l1, .int .i64 h1, .int .i64 0]) ∧ AtC w w' G [.int .i64 v, .int .i64 s, .int .i64 c, .int .i64 n, .int .i64 t, .int .i64 d, .int .i64 r, .int .i64 k, .int .i64 g, .int .u64 0] := fun W G h => atc_of h (wSpan_yes hf 0 W h.1 p ⟨hp0, by omega⟩ l1 h1 S1)
  have c1 : ∀ W G, AtC w W G [.int .i64 v, .int .i64 s, .int .i64 c, .int .i64 n, .int .i64 t, .int .i64 d, .int .i64 r, .int .i64 k, .int .i64 g, .int .u64 0] → Calls Tryd.prog 17 #[.agg #[.int .i64 v, .int .i64 s, .int .i64 c, .int .i64 n, .int .i64 t, .int .i64 d, .int .i64 r, .int .i64 k, .int .i64 g, .int .u64 0], .int .i64 (p + 1)] W fun e w' => e = .returned (.tuple #[.int .i64 l2, .int .i64 h2, .int .i64 0]) ∧ AtC w w' G [.int .i64 v, .int .i64 s, .int .i64 c, .int .i64 n, .int .i64 t, .int .i64 d, .int .i64 r, .int .i64 k, .int .i64 g, .int .u64 0] := fun W G h => atc_of h (wSpan_yes hf 0 W h.1 (p + 1) ⟨by omega, by omega⟩ l2 h2 S2)
  have c2 : ∀ W G, AtC w W G [.int .i64 v, .int .i64 s, .int .i64 c, .int .i64 n, .int .i64 t, .int .i64 d, .int .i64 r, .int .i64 k, .int .i64 g, .int .u64 0] → Calls Tryd.prog 17 #[.agg #[.int .i64 v, .int .i64 s, .int .i64 c, .int .i64 n, .int .i64 t, .int .i64 d, .int .i64 r, .int .i64 k, .int .i64 g, .int .u64 0], .int .i64 u] W fun e w' => e = .returned (.tuple #[.int .i64 l3, .int .i64 h3, .int .i64 0]) ∧ AtC w w' G [.int .i64 v, .int .i64 s, .int .i64 c, .int .i64 n, .int .i64 t, .int .i64 d, .int .i64 r, .int .i64 k, .int .i64 g, .int .u64 0] := fun W G h => atc_of h (wSpan_yes hf 0 W h.1 u ⟨by omega, by omega⟩ l3 h3 S3)
  clear hf S1 S2 S3
  have hA : Below w.heap.size w (w.alloc (.cells #[.int .i64 n0, .int .i64 n1, .int .i64 n2, .int .i64 n3, .int .i64 n4, .int .i64 n5] 25)) := (Below.refl _ _).alloc (Nat.le_refl _) _
  go_enter Tryd.func6, Tryd.ntmps6
  go_wp2_with fail
  with_reducible refine (awake12_any _ (hT.on hA)).mono ?_
  rintro e w1 ⟨rfl, hb1⟩
  have hw1 : Below w.heap.size w w1 := box_bel (by simpa using hb1)
  have R1 : RowAt w1 w.heap.size 25 [.int .i64 n0, .int .i64 n1, .int .i64 n2, .int .i64 n3, .int .i64 n4, .int .i64 n5] := (RowAt.new w 25 #[.int .i64 n0, .int .i64 n1, .int .i64 n2, .int .i64 n3, .int .i64 n4, .int .i64 n5]).below hb1 (by simp)
  have r0 : w1.cell? ⟨w.heap.size, 0, none⟩ = some (.int .i64 n0) := by rw [R1.cell]; rfl
  have r1 : w1.cell? ⟨w.heap.size, 1, none⟩ = some (.int .i64 n1) := by rw [R1.cell]; rfl
  have r2 : w1.cell? ⟨w.heap.size, 2, none⟩ = some (.int .i64 n2) := by rw [R1.cell]; rfl
  have r3 : w1.cell? ⟨w.heap.size, 3, none⟩ = some (.int .i64 n3) := by rw [R1.cell]; rfl
  have r4 : w1.cell? ⟨w.heap.size, 4, none⟩ = some (.int .i64 n4) := by rw [R1.cell]; rfl
  have r5 : w1.cell? ⟨w.heap.size, 5, none⟩ = some (.int .i64 n5) := by rw [R1.cell]; rfl
  clear R1 hb1 hA
  go_wp2_with fail
  with_reducible refine (Chain_any hch 0 _ b0 b1 b2 b3 b4 b5).mono ?_
  rintro e w2 ⟨rfl, hb2⟩
  have hw2 := hw1.trans (hb2.mono hw1.size)
  have A1 : AtC w (w2.alloc (.cells #[.int .i64 v, .int .i64 s, .int .i64 c, .int .i64 n, .int .i64 t, .int .i64 d, .int .i64 r, .int .i64 k, .int .i64 g, .int .u64 0] 24)) w2.heap.size [.int .i64 v, .int .i64 s, .int .i64 c, .int .i64 n, .int .i64 t, .int .i64 d, .int .i64 r, .int .i64 k, .int .i64 g, .int .u64 0] := AtC.new (hT.on hw2) hw2
  clear r0 r1 r2 r3 r4 r5 hb2 hw1 hch
  go_wp2_with (first
    | ((with_reducible refine (c0 _ _ (by assumption)).mono ?_); rintro e w3 ⟨rfl, A1⟩; obtain ⟨q0, q1, q2, q3, q4, q5, q6, q7, q8, q9⟩ := A1.cells)
    | ((with_reducible refine (c1 _ _ (by assumption)).mono ?_); rintro e w3 ⟨rfl, A1⟩; obtain ⟨q0, q1, q2, q3, q4, q5, q6, q7, q8, q9⟩ := A1.cells)
    | ((with_reducible refine (c2 _ _ (by assumption)).mono ?_); rintro e w3 ⟨rfl, A1⟩; obtain ⟨q0, q1, q2, q3, q4, q5, q6, q7, q8, q9⟩ := A1.cells)
    | ((with_reducible refine (HP _).mono ?_); rintro e w_ ⟨rfl, rfl⟩)
    | ((with_reducible refine (HY _).mono ?_); rintro e w_ ⟨rfl, rfl⟩))
  go_ret
  exact ⟨rfl, (by assumption : AtC w _ _ _).2.1⟩

theorem later_calls {n0 n1 n2 n3 n4 n5 : Int} (b0 : I64K n0) (b1 : I64K n1) (b2 : I64K n2) (b3 : I64K n3) (b4 : I64K n4) (b5 : I64K n5) (x : Int) (hx : I64K x) (y : Int) (hy : I64K y) (w : World) (hT : Spans w) :
    Calls Tryd.prog 6 #[.agg #[.int .i64 n0, .int .i64 n1, .int .i64 n2, .int .i64 n3, .int .i64 n4, .int .i64 n5], .int .i64 x, .int .i64 y] w fun e w' => e = .returned (.bool true) ∧ Below w.heap.size w w' := by
  obtain ⟨v, s, c, n, t, d, r, k, g, hch⟩ := chain_of n0 n1 n2 n3 n4 n5
  have ht := hch.small.T
  have hd := hch.small.D
  have hr := hch.small.R
  have hp := cpick_bd x 1099511627776 (by omega)
  have hz := cpick_bd y 100 (by omega)
  have HP := fun W => pickW_any x 1099511627776 W hx (by omega) (by omega)
  have HY := fun W => pickW_any y 100 W hy (by omega) (by omega)
  generalize cpick x 1099511627776 = p at hp HP
  generalize cpick y 100 = z at hz HY
  obtain ⟨u, hu⟩ : ∃ u, min (p + 1 + z) 1099511627776 = u := ⟨_, rfl⟩
  obtain ⟨l1, h1, l2, h2, l3, h3, S1, S2, S3, e1, e2, e3, e4, e5, e6, e7, e8, e9, ea⟩ := spans_later ht.1 hd.1 (show 0 ≤ r by omega) hp.1 (show p + 1 ≤ u by omega) (by omega)
  exact later_walk hch w hT b0 b1 b2 b3 b4 b5 x y p z u l1 h1 l2 h2 l3 h3 HP HY hu hp.1 hp.2 hz.1 hz.2 S1 S2 S3 e1 e2 e3 e4 e5 e6 e7 e8 e9 ea
end Go.Proofs.YtjcpeimlebpglaaDoor
