/- The walk of the law WindowSpan. -/
import Derived.Test.YtjcpeimlebpglaaDoorWinD
import Derived.Deep.QuietTactic
import Derived.BigQuiet
import Derived.Lib.MinMax
import Derived.Lib.Hide
import Derived.Deep.Cut
namespace Go.Proofs.YtjcpeimlebpglaaDoor
open Go.RowKit

/-- A tick's span holds its own slot, and is not wide. -/
theorem span_of_tick {t d r y : Int} (ht : 1 ≤ t) (hd : 0 ≤ d ∧ d ≤ t) (hr : 0 ≤ r) (hy : 0 ≤ y) (hu : y ≤ 1099511627776) :
    ∃ lo hi, SpanOf t d r y lo hi ∧ hi - lo < r + 3 := by
  obtain ⟨T, rfl⟩ := Int.eq_ofNat_of_zero_le (show 0 ≤ t by omega)
  obtain ⟨D, rfl⟩ := Int.eq_ofNat_of_zero_le hd.1
  obtain ⟨R, rfl⟩ := Int.eq_ofNat_of_zero_le hr
  obtain ⟨Y, rfl⟩ := Int.eq_ofNat_of_zero_le hy
  have S1 := span_nat T D R Y (by omega) (by omega)
  have m1 := span_le (T := T) (D := D) (R := R) (t := Y) (by omega) (by omega)
  exact ⟨_, _, S1, by omega⟩
set_option maxHeartbeats 4000000 in
set_option maxRecDepth 100000 in
theorem span_walk {n0 n1 n2 n3 n4 n5 v s c n t d r k g : Int} (hch : ChainOf n0 n1 n2 n3 n4 n5 v s c n t d r k g) (w : World) (hT : Spans w) (b0 : I64K n0) (b1 : I64K n1) (b2 : I64K n2) (b3 : I64K n3) (b4 : I64K n4) (b5 : I64K n5) (x y p z o sv lo hi e1 : Int) (HP : ∀ W, Calls Tryd.prog 10 #[.int .i64 x, .int .i64 1099511627777] W fun e w' => e = .returned (.int .i64 p) ∧ W = w') (HY : ∀ W, Calls Tryd.prog 10 #[.int .i64 y, .int .i64 (2 * r + 12)] W fun e w' => e = .returned (.int .i64 z) ∧ W = w') (hp0 : 0 ≤ p) (hp1 : p ≤ 1099511627776) (ho : p / t = o) (hz0 : 0 ≤ z) (hz1 : z < 2 * r + 12) (hsv : max (o + z - r - 6) 0 = sv) (HS : SpanOf t d r p lo hi) (hlo0 : 0 ≤ lo) (hlo : lo ≤ o) (hhi : o ≤ hi) (hhi1 : hi ≤ 1099511627776) (hwide : hi - lo < r + 3) (hk : standZ t d r p sv = e1) (hw : (sv < lo ∧ e1 = 2) ∨ (lo ≤ sv ∧ sv ≤ hi ∧ e1 = 1) ∨ (hi < sv ∧ e1 = 0)) :
    Calls Tryd.prog 4 #[.agg #[.int .i64 n0, .int .i64 n1, .int .i64 n2, .int .i64 n3, .int .i64 n4, .int .i64 n5], .int .i64 x, .int .i64 y] w fun e w' => e = .returned (.bool true) ∧ Below w.heap.size w w' := by
  obtain ⟨_, _, _, _, ⟨t1, t2⟩, ⟨d1, d2⟩, ⟨r1, r2⟩, _, _⟩ := hch.small
  have hf := hch.small.fits
  have hsb : 0 ≤ sv ∧ sv ≤ 2199023255552 := by omega
  have c0 : ∀ W G, AtC w W G [.int .i64 v, .int .i64 s, .int .i64 c, .int .i64 n, .int .i64 t, .int .i64 d, .int .i64 r, .int .i64 k, .int .i64 g, .int .u64 0] → Calls Tryd.prog 19 #[.agg #[.int .i64 v, .int .i64 s, .int .i64 c, .int .i64 n, .int .i64 t, .int .i64 d, .int .i64 r, .int .i64 k, .int .i64 g, .int .u64 0], .int .i64 p] W fun e w' => e = .returned (.tuple #[.int .i64 o, .int .i64 0]) ∧ AtC w w' G [.int .i64 v, .int .i64 s, .int .i64 c, .int .i64 n, .int .i64 t, .int .i64 d, .int .i64 r, .int .i64 k, .int .i64 g, .int .u64 0] := fun W G h => atc_of h (SlotOf_any hf 0 W h.1 p (by omega) o 0 (by rw [slotA_is ((isTickB_iff p).2 ⟨hp0, hp1⟩), ho]))
  have c1 : ∀ W G, AtC w W G [.int .i64 v, .int .i64 s, .int .i64 c, .int .i64 n, .int .i64 t, .int .i64 d, .int .i64 r, .int .i64 k, .int .i64 g, .int .u64 0] → Calls Tryd.prog 17 #[.agg #[.int .i64 v, .int .i64 s, .int .i64 c, .int .i64 n, .int .i64 t, .int .i64 d, .int .i64 r, .int .i64 k, .int .i64 g, .int .u64 0], .int .i64 p] W fun e w' => e = .returned (.tuple #[.int .i64 lo, .int .i64 hi, .int .i64 0]) ∧ AtC w w' G [.int .i64 v, .int .i64 s, .int .i64 c, .int .i64 n, .int .i64 t, .int .i64 d, .int .i64 r, .int .i64 k, .int .i64 g, .int .u64 0] := fun W G h => atc_of h (wSpan_yes hf 0 W h.1 p ⟨hp0, hp1⟩ lo hi HS)
  have c2 : ∀ W G, AtC w W G [.int .i64 v, .int .i64 s, .int .i64 c, .int .i64 n, .int .i64 t, .int .i64 d, .int .i64 r, .int .i64 k, .int .i64 g, .int .u64 0] → Calls Tryd.prog 15 #[.agg #[.int .i64 v, .int .i64 s, .int .i64 c, .int .i64 n, .int .i64 t, .int .i64 d, .int .i64 r, .int .i64 k, .int .i64 g, .int .u64 0], .int .i64 p, .int .i64 sv] W fun e w' => e = .returned (.tuple #[.int .i64 e1, .int .i64 0]) ∧ AtC w w' G [.int .i64 v, .int .i64 s, .int .i64 c, .int .i64 n, .int .i64 t, .int .i64 d, .int .i64 r, .int .i64 k, .int .i64 g, .int .u64 0] := fun W G h => atc_of h (wStand_any hf 0 W h.1 p (by omega) sv (by omega) e1 0 (by rw [standA_yes hp0 hp1 (by omega), hk]))
  have c3 : ∀ W G, AtC w W G [.int .i64 v, .int .i64 s, .int .i64 c, .int .i64 n, .int .i64 t, .int .i64 d, .int .i64 r, .int .i64 k, .int .i64 g, .int .u64 0] → Calls Tryd.prog 15 #[.agg #[.int .i64 v, .int .i64 s, .int .i64 c, .int .i64 n, .int .i64 t, .int .i64 d, .int .i64 r, .int .i64 k, .int .i64 g, .int .u64 0], .int .i64 p, .int .i64 o] W fun e w' => e = .returned (.tuple #[.int .i64 1, .int .i64 0]) ∧ AtC w w' G [.int .i64 v, .int .i64 s, .int .i64 c, .int .i64 n, .int .i64 t, .int .i64 d, .int .i64 r, .int .i64 k, .int .i64 g, .int .u64 0] := fun W G h => atc_of h (wStand_any hf 0 W h.1 p (by omega) o (by omega) 1 0 (by rw [standA_yes hp0 hp1 (by omega), HS.ripe o hlo hhi]))
  obtain ⟨hs0, hs1⟩ := hsb
  clear hf hk HS ho
  have HYS : ∀ W, Calls Tryd.prog 10 #[.int .i64 y, .int .i64 (2 * r + 12)] W fun e w' => e = .returned (.int .i64 z) ∧ w' = W := fun W => (HY W).mono fun _ _ ⟨a, b⟩ => ⟨a, b.symm⟩
  have HWR := Lib.hid (And.intro (show IntKind.i64.wrap (2 * r) = 2 * r from IntWalk.i64_in _ (by omega)) (And.intro (show IntKind.i64.wrap (2 * r + 12) = 2 * r + 12 from IntWalk.i64_in _ (by omega)) (And.intro (show IntKind.i64.wrap (o + z) = o + z from IntWalk.i64_in _ (by omega)) (And.intro (show IntKind.i64.wrap (o + z - r) = o + z - r from IntWalk.i64_in _ (by omega)) (show IntKind.i64.wrap (o + z - r - 6) = o + z - r - 6 from IntWalk.i64_in _ (by omega))))))
  obtain ⟨hwa, rfl⟩ | ⟨hwa, hwb, rfl⟩ | ⟨hwa, rfl⟩ := hw
  all_goals
    have hA : Below w.heap.size w (w.alloc (.cells #[.int .i64 n0, .int .i64 n1, .int .i64 n2, .int .i64 n3, .int .i64 n4, .int .i64 n5] 25)) := (Below.refl _ _).alloc (Nat.le_refl _) _
    go_enter Tryd.func4, Tryd.ntmps4
    go_wp2_with fail
    with_reducible refine (awake12_any _ (hT.on hA)).mono ?_
    rintro e w1 ⟨rfl, hb1⟩
    have hw1 : Below w.heap.size w w1 := box_bel (by simpa using hb1)
    have R1 : RowAt w1 w.heap.size 25 [.int .i64 n0, .int .i64 n1, .int .i64 n2, .int .i64 n3, .int .i64 n4, .int .i64 n5] := (RowAt.new w 25 #[.int .i64 n0, .int .i64 n1, .int .i64 n2, .int .i64 n3, .int .i64 n4, .int .i64 n5]).below hb1 (by simp)
    have r0 : w1.cell? ⟨w.heap.size, 0, none⟩ = some (.int .i64 n0) := by rw [R1.cell]; rfl
    have r1 : w1.cell? ⟨w.heap.size, 1, none⟩ = some (.int .i64 n1) := by rw [R1.cell]; rfl
    have r2 : w1.cell? ⟨w.heap.size, 2, none⟩ = some (.int .i64 n2) := by rw [R1.cell]; rfl
    have r3 : w1.cell? ⟨w.heap.size, 3, none⟩ = some (.int .i64 n3) := by rw [R1.cell]; rfl
    have r4 : w1.cell? ⟨w.heap.size, 4, none⟩ = some (.int .i64 n4) := by rw [R1.cell]; rfl
    have r5 : w1.cell? ⟨w.heap.size, 5, none⟩ = some (.int .i64 n5) := by rw [R1.cell]; rfl
    clear R1 hb1 hA
    go_wp2_with fail
    with_reducible refine (Chain_any hch 0 _ b0 b1 b2 b3 b4 b5).mono ?_
    rintro e w2 ⟨rfl, hb2⟩
    have hw2 := hw1.trans (hb2.mono hw1.size)
    have A1 : AtC w (w2.alloc (.cells #[.int .i64 v, .int .i64 s, .int .i64 c, .int .i64 n, .int .i64 t, .int .i64 d, .int .i64 r, .int .i64 k, .int .i64 g, .int .u64 0] 24)) w2.heap.size [.int .i64 v, .int .i64 s, .int .i64 c, .int .i64 n, .int .i64 t, .int .i64 d, .int .i64 r, .int .i64 k, .int .i64 g, .int .u64 0] := AtC.new (hT.on hw2) hw2
    clear r0 r1 r2 r3 r4 r5 hb2 hw1 hch
    go_upto_region 6 with (first
      | ((with_reducible refine (c0 _ _ (by assumption)).mono ?_); rintro e w3 ⟨rfl, A1⟩; obtain ⟨q0, q1, q2, q3, q4, q5, q6, q7, q8, q9⟩ := A1.cells)
      | ((with_reducible refine (c1 _ _ (by assumption)).mono ?_); rintro e w3 ⟨rfl, A1⟩; obtain ⟨q0, q1, q2, q3, q4, q5, q6, q7, q8, q9⟩ := A1.cells)
      | ((with_reducible refine (c2 _ _ (by assumption)).mono ?_); rintro e w3 ⟨rfl, A1⟩; obtain ⟨q0, q1, q2, q3, q4, q5, q6, q7, q8, q9⟩ := A1.cells)
      | ((with_reducible refine (c3 _ _ (by assumption)).mono ?_); rintro e w3 ⟨rfl, A1⟩; obtain ⟨q0, q1, q2, q3, q4, q5, q6, q7, q8, q9⟩ := A1.cells)
      | ((with_reducible refine (HP _).mono ?_); rintro e w_ ⟨rfl, rfl⟩)
      | ((with_reducible refine (HY _).mono ?_); rintro e w_ ⟨rfl, rfl⟩))
    replace A1 := A1.drew
    obtain ⟨q0, q1, q2, q3, q4, q5, q6, q7, q8, q9⟩ := A1.cells
    obtain ⟨wa, wb, wc, wd, we⟩ := HWR.out
    refine wp_still_tail 12 (by kernel_rfl) (by kernel_rfl) ?_
    simp only [List.take_succ_cons, List.take_zero, List.drop_succ_cons, List.drop_zero]
    repeat (first | still_step | (refine wpStill_step (fun K hK => ?_); go_simp; first | with_reducible refine ⟨_, HYS _, hK _ ?_⟩))
    refine wpStill_nil ?_
    clear wa wb wc wd we
    go_wp2_with (first
      | ((with_reducible refine (c0 _ _ (by assumption)).mono ?_); rintro e w3 ⟨rfl, A1⟩; obtain ⟨q0, q1, q2, q3, q4, q5, q6, q7, q8, q9⟩ := A1.cells)
      | ((with_reducible refine (c1 _ _ (by assumption)).mono ?_); rintro e w3 ⟨rfl, A1⟩; obtain ⟨q0, q1, q2, q3, q4, q5, q6, q7, q8, q9⟩ := A1.cells)
      | ((with_reducible refine (c2 _ _ (by assumption)).mono ?_); rintro e w3 ⟨rfl, A1⟩; obtain ⟨q0, q1, q2, q3, q4, q5, q6, q7, q8, q9⟩ := A1.cells)
      | ((with_reducible refine (c3 _ _ (by assumption)).mono ?_); rintro e w3 ⟨rfl, A1⟩; obtain ⟨q0, q1, q2, q3, q4, q5, q6, q7, q8, q9⟩ := A1.cells)
      | ((with_reducible refine (HP _).mono ?_); rintro e w_ ⟨rfl, rfl⟩)
      | ((with_reducible refine (HY _).mono ?_); rintro e w_ ⟨rfl, rfl⟩))
    go_ret
    refine ⟨?_, (by assumption : AtC w _ _ _).2.1⟩
    first | rfl | (simp; omega)

theorem span_calls {n0 n1 n2 n3 n4 n5 : Int} (b0 : I64K n0) (b1 : I64K n1) (b2 : I64K n2) (b3 : I64K n3) (b4 : I64K n4) (b5 : I64K n5) (x : Int) (hx : I64K x) (y : Int) (hy : I64K y) (w : World) (hT : Spans w) :
    Calls Tryd.prog 4 #[.agg #[.int .i64 n0, .int .i64 n1, .int .i64 n2, .int .i64 n3, .int .i64 n4, .int .i64 n5], .int .i64 x, .int .i64 y] w fun e w' => e = .returned (.bool true) ∧ Below w.heap.size w w' := by
  obtain ⟨v, s, c, n, t, d, r, k, g, hch⟩ := chain_of n0 n1 n2 n3 n4 n5
  have ht := hch.small.T
  have hd := hch.small.D
  have hr := hch.small.R
  have hp := cpick_bd x 1099511627777 (by omega)
  have hz := cpick_bd y (2 * r + 12) (by omega)
  have HP := fun W => pickW_any x 1099511627777 W hx (by omega) (by omega)
  have HY := fun W => pickW_any y (2 * r + 12) W hy (by omega) (by omega)
  generalize cpick x 1099511627777 = p at hp HP
  generalize cpick y (2 * r + 12) = z at hz HY
  obtain ⟨lo, hi, HS, hwide⟩ := span_of_tick (y := p) ht.1 hd (show 0 ≤ r by omega) hp.1 (by omega)
  obtain ⟨o, ho⟩ : ∃ o, p / t = o := ⟨_, rfl⟩
  obtain ⟨sv, hsv⟩ : ∃ sv, max (o + z - r - 6) 0 = sv := ⟨_, rfl⟩
  obtain ⟨e1, h1⟩ : ∃ e1, standZ t d r p sv = e1 := ⟨_, rfl⟩
  have hown := HS.own
  rw [ho] at hown
  have hw : (sv < lo ∧ e1 = 2) ∨ (lo ≤ sv ∧ sv ≤ hi ∧ e1 = 1) ∨ (hi < sv ∧ e1 = 0) := by
    by_cases h2 : sv < lo
    · exact .inl ⟨h2, by rw [← h1]; exact HS.late sv (by omega) h2⟩
    · by_cases h3 : hi < sv
      · exact .inr (.inr ⟨h3, by rw [← h1]; exact HS.early sv h3⟩)
      · exact .inr (.inl ⟨by omega, by omega, by rw [← h1]; exact HS.ripe sv (by omega) (by omega)⟩)
  exact span_walk hch w hT b0 b1 b2 b3 b4 b5 x y p z o sv lo hi e1 HP HY hp.1 (by omega) ho hz.1 hz.2 hsv HS HS.lo0 hown.1 hown.2.1 hown.2.2 hwide h1 hw
end Go.Proofs.YtjcpeimlebpglaaDoor
