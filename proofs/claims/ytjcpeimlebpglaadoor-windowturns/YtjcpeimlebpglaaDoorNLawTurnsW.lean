/- The walk of the law WindowTurns. -/
import Derived.Test.YtjcpeimlebpglaaDoorWinD
import Derived.Deep.QuietTactic
import Derived.BigQuiet
import Derived.Lib.MinMax
import Derived.Lib.Hide
namespace Go.Proofs.YtjcpeimlebpglaaDoor
open Go.RowKit

theorem stand_at {t d r P Q a b S : Int} (y : Int) (hS : S * t = P) (hQ : (r + 1) * t = Q) (hP : P ≤ 1099511627776) (ha : max (P - d) 0 = a) (hb : min (P + Q + d - 1) 1099511627776 = b) :
    (y < a ∧ standZ t d r y S = 0) ∨ (a ≤ y ∧ y ≤ b ∧ standZ t d r y S = 1) ∨ (a ≤ y ∧ b < y ∧ standZ t d r y S = 2) := by
  unfold standZ
  rw [hS, hQ, if_neg (show ¬ 1099511627776 < P by omega), ha, hb]
  by_cases h1 : y < a
  · exact .inl ⟨h1, by rw [if_pos h1]⟩
  · by_cases h2 : b < y
    · exact .inr (.inr ⟨by omega, h2, by rw [if_neg h1, if_pos h2]⟩)
    · exact .inr (.inl ⟨by omega, by omega, by rw [if_neg h1, if_neg h2]⟩)
set_option maxHeartbeats 4000000 in
set_option maxRecDepth 100000 in
theorem turns_walk {n0 n1 n2 n3 n4 n5 v s c n t d r k g : Int} (hch : ChainOf n0 n1 n2 n3 n4 n5 v s c n t d r k g) (w : World) (hT : Spans w) (b0 : I64K n0) (b1 : I64K n1) (b2 : I64K n2) (b3 : I64K n3) (b4 : I64K n4) (b5 : I64K n5) (x y y2 S z1 z2 P a b y0 y1 u e1 e2 : Int) (HP : ∀ W, Calls Tryd.prog 10 #[.int .i64 x, .int .i64 (1099511627776 / t + 1)] W fun e w' => e = .returned (.int .i64 S) ∧ W = w') (HX : ∀ W, Calls Tryd.prog 10 #[.int .i64 y, .int .i64 400] W fun e w' => e = .returned (.int .i64 z1) ∧ W = w') (HY : ∀ W, Calls Tryd.prog 10 #[.int .i64 y2, .int .i64 400] W fun e w' => e = .returned (.int .i64 z2) ∧ W = w') (hm0 : 1 ≤ 1099511627776 / t) (hm1 : 1099511627776 / t ≤ 1099511627776) (hs0 : 0 ≤ S) (hs1 : S ≤ 1099511627776 / t) (hS : S * t = P) (hP0 : 0 ≤ P) (hP1 : P ≤ 1099511627776) (ha0 : 0 ≤ a) (hab : a ≤ b) (hb1 : b ≤ 1099511627776) (hHO : opensA true t d S = (a, 0)) (hHC : closesA true t d r S = (b, 0)) (hz1 : 0 ≤ z1 ∧ z1 < 400) (hz2 : 0 ≤ z2 ∧ z2 < 400) (hy0 : max (a + z1 - 200) 0 = y0) (hy1 : min y0 1099511627776 = y1) (hu : min (y1 + z2) 1099511627776 = u) (he2 : e1 ≤ e2 ∧ 0 ≤ e2 ∧ e2 ≤ 2) (h1 : standZ t d r y1 S = e1) (h2 : standZ t d r u S = e2) (h3 : standZ t d r a S = 1) (h4 : standZ t d r b S = 1) (hw : (y1 < a ∧ e1 = 0) ∨ (a ≤ y1 ∧ y1 ≤ b ∧ e1 = 1) ∨ (a ≤ y1 ∧ b < y1 ∧ e1 = 2)) (hz : (a == 0) = true ∨ ((a == 0) = false ∧ a + d = P)) :
    Calls Tryd.prog 5 #[.agg #[.int .i64 n0, .int .i64 n1, .int .i64 n2, .int .i64 n3, .int .i64 n4, .int .i64 n5], .int .i64 x, .int .i64 y, .int .i64 y2] w fun e w' => e = .returned (.bool true) ∧ Below w.heap.size w w' := by
  obtain ⟨_, _, _, _, ⟨t1, t2⟩, ⟨d1, d2⟩, _, _, _⟩ := hch.small
  have hf := hch.small.fits
  have hyb : 0 ≤ y1 ∧ y1 ≤ 1099511627776 ∧ 0 ≤ u ∧ u ≤ 1099511627776 ∧ y0 ≤ 2199023255552 := by omega
  have c0 : ∀ W G, AtC w W G [.int .i64 v, .int .i64 s, .int .i64 c, .int .i64 n, .int .i64 t, .int .i64 d, .int .i64 r, .int .i64 k, .int .i64 g, .int .u64 0] → Calls Tryd.prog 11 #[.agg #[.int .i64 v, .int .i64 s, .int .i64 c, .int .i64 n, .int .i64 t, .int .i64 d, .int .i64 r, .int .i64 k, .int .i64 g, .int .u64 0], .int .i64 S] W fun e w' => e = .returned (.tuple #[.int .i64 a, .int .i64 0]) ∧ AtC w w' G [.int .i64 v, .int .i64 s, .int .i64 c, .int .i64 n, .int .i64 t, .int .i64 d, .int .i64 r, .int .i64 k, .int .i64 g, .int .u64 0] := fun W G h => atc_of h (wOpens_any hf 0 W h.1 S (by omega) a 0 hHO)
  have c1 : ∀ W G, AtC w W G [.int .i64 v, .int .i64 s, .int .i64 c, .int .i64 n, .int .i64 t, .int .i64 d, .int .i64 r, .int .i64 k, .int .i64 g, .int .u64 0] → Calls Tryd.prog 13 #[.agg #[.int .i64 v, .int .i64 s, .int .i64 c, .int .i64 n, .int .i64 t, .int .i64 d, .int .i64 r, .int .i64 k, .int .i64 g, .int .u64 0], .int .i64 S] W fun e w' => e = .returned (.tuple #[.int .i64 b, .int .i64 0]) ∧ AtC w w' G [.int .i64 v, .int .i64 s, .int .i64 c, .int .i64 n, .int .i64 t, .int .i64 d, .int .i64 r, .int .i64 k, .int .i64 g, .int .u64 0] := fun W G h => atc_of h (wCloses_any hf 0 W h.1 S (by omega) b 0 hHC)
  have c2 : ∀ W G, AtC w W G [.int .i64 v, .int .i64 s, .int .i64 c, .int .i64 n, .int .i64 t, .int .i64 d, .int .i64 r, .int .i64 k, .int .i64 g, .int .u64 0] → Calls Tryd.prog 15 #[.agg #[.int .i64 v, .int .i64 s, .int .i64 c, .int .i64 n, .int .i64 t, .int .i64 d, .int .i64 r, .int .i64 k, .int .i64 g, .int .u64 0], .int .i64 y1, .int .i64 S] W fun e w' => e = .returned (.tuple #[.int .i64 e1, .int .i64 0]) ∧ AtC w w' G [.int .i64 v, .int .i64 s, .int .i64 c, .int .i64 n, .int .i64 t, .int .i64 d, .int .i64 r, .int .i64 k, .int .i64 g, .int .u64 0] := fun W G h => atc_of h (wStand_any hf 0 W h.1 y1 (by omega) S (by omega) e1 0 (by rw [standA_yes (by omega) (by omega) (by omega), h1]))
  have c3 : ∀ W G, AtC w W G [.int .i64 v, .int .i64 s, .int .i64 c, .int .i64 n, .int .i64 t, .int .i64 d, .int .i64 r, .int .i64 k, .int .i64 g, .int .u64 0] → Calls Tryd.prog 15 #[.agg #[.int .i64 v, .int .i64 s, .int .i64 c, .int .i64 n, .int .i64 t, .int .i64 d, .int .i64 r, .int .i64 k, .int .i64 g, .int .u64 0], .int .i64 u, .int .i64 S] W fun e w' => e = .returned (.tuple #[.int .i64 e2, .int .i64 0]) ∧ AtC w w' G [.int .i64 v, .int .i64 s, .int .i64 c, .int .i64 n, .int .i64 t, .int .i64 d, .int .i64 r, .int .i64 k, .int .i64 g, .int .u64 0] := fun W G h => atc_of h (wStand_any hf 0 W h.1 u (by omega) S (by omega) e2 0 (by rw [standA_yes (by omega) (by omega) (by omega), h2]))
  have c4 : ∀ W G, AtC w W G [.int .i64 v, .int .i64 s, .int .i64 c, .int .i64 n, .int .i64 t, .int .i64 d, .int .i64 r, .int .i64 k, .int .i64 g, .int .u64 0] → Calls Tryd.prog 15 #[.agg #[.int .i64 v, .int .i64 s, .int .i64 c, .int .i64 n, .int .i64 t, .int .i64 d, .int .i64 r, .int .i64 k, .int .i64 g, .int .u64 0], .int .i64 a, .int .i64 S] W fun e w' => e = .returned (.tuple #[.int .i64 1, .int .i64 0]) ∧ AtC w w' G [.int .i64 v, .int .i64 s, .int .i64 c, .int .i64 n, .int .i64 t, .int .i64 d, .int .i64 r, .int .i64 k, .int .i64 g, .int .u64 0] := fun W G h => atc_of h (wStand_any hf 0 W h.1 a (by omega) S (by omega) 1 0 (by rw [standA_yes (by omega) (by omega) (by omega), h3]))
  have c5 : ∀ W G, AtC w W G [.int .i64 v, .int .i64 s, .int .i64 c, .int .i64 n, .int .i64 t, .int .i64 d, .int .i64 r, .int .i64 k, .int .i64 g, .int .u64 0] → Calls Tryd.prog 15 #[.agg #[.int .i64 v, .int .i64 s, .int .i64 c, .int .i64 n, .int .i64 t, .int .i64 d, .int .i64 r, .int .i64 k, .int .i64 g, .int .u64 0], .int .i64 b, .int .i64 S] W fun e w' => e = .returned (.tuple #[.int .i64 1, .int .i64 0]) ∧ AtC w w' G [.int .i64 v, .int .i64 s, .int .i64 c, .int .i64 n, .int .i64 t, .int .i64 d, .int .i64 r, .int .i64 k, .int .i64 g, .int .u64 0] := fun W G h => atc_of h (wStand_any hf 0 W h.1 b (by omega) S (by omega) 1 0 (by rw [standA_yes (by omega) (by omega) (by omega), h4]))
  obtain ⟨he2, he3, he4⟩ := he2
  obtain ⟨hz3, hz4⟩ := hz1
  obtain ⟨hz5, hz6⟩ := hz2
  obtain ⟨hb2, hb3, hb4, hb5, hb6⟩ := hyb
  clear hf h1 h2 h3 h4 hHO hHC
  obtain ⟨hwa, rfl⟩ | ⟨hwa, hwb, rfl⟩ | ⟨hwa, hwb, rfl⟩ := hw
  all_goals obtain hz | ⟨hz, hzz⟩ := hz
  all_goals
    have hA : Below w.heap.size w (w.alloc (.cells #[.int .i64 n0, .int .i64 n1, .int .i64 n2, .int .i64 n3, .int .i64 n4, .int .i64 n5] 25)) := (Below.refl _ _).alloc (Nat.le_refl _) _
    go_enter Tryd.func5, Tryd.ntmps5
    go_wp2_with fail
    with_reducible refine (awake12_any _ (hT.on hA)).mono ?_
    rintro e w1 ⟨rfl, hb1⟩
    have hw1 : Below w.heap.size w w1 := box_bel (by simpa using hb1)
    have R1 : RowAt w1 w.heap.size 25 [.int .i64 n0, .int .i64 n1, .int .i64 n2, .int .i64 n3, .int .i64 n4, .int .i64 n5] := (RowAt.new w 25 #[.int .i64 n0, .int .i64 n1, .int .i64 n2, .int .i64 n3, .int .i64 n4, .int .i64 n5]).below hb1 (by simp)
    have r0 : w1.cell? ⟨w.heap.size, 0, none⟩ = some (.int .i64 n0) := by rw [R1.cell]; rfl
    have r1 : w1.cell? ⟨w.heap.size, 1, none⟩ = some (.int .i64 n1) := by rw [R1.cell]; rfl
    have r2 : w1.cell? ⟨w.heap.size, 2, none⟩ = some (.int .i64 n2) := by rw [R1.cell]; rfl
    have r3 : w1.cell? ⟨w.heap.size, 3, none⟩ = some (.int .i64 n3) := by rw [R1.cell]; rfl
    have r4 : w1.cell? ⟨w.heap.size, 4, none⟩ = some (.int .i64 n4) := by rw [R1.cell]; rfl
    have r5 : w1.cell? ⟨w.heap.size, 5, none⟩ = some (.int .i64 n5) := by rw [R1.cell]; rfl
    clear R1 hb1 hA
    go_wp2_with fail
    with_reducible refine (Chain_any hch 0 _ b0 b1 b2 b3 b4 b5).mono ?_
    rintro e w2 ⟨rfl, hb2⟩
    have hw2 := hw1.trans (hb2.mono hw1.size)
    have A1 : AtC w (w2.alloc (.cells #[.int .i64 v, .int .i64 s, .int .i64 c, .int .i64 n, .int .i64 t, .int .i64 d, .int .i64 r, .int .i64 k, .int .i64 g, .int .u64 0] 24)) w2.heap.size [.int .i64 v, .int .i64 s, .int .i64 c, .int .i64 n, .int .i64 t, .int .i64 d, .int .i64 r, .int .i64 k, .int .i64 g, .int .u64 0] := AtC.new (hT.on hw2) hw2
    clear r0 r1 r2 r3 r4 r5 hb2 hw1 hch
    go_wp2_with (first
      | ((with_reducible refine (c0 _ _ (by assumption)).mono ?_); rintro e w3 ⟨rfl, A1⟩; obtain ⟨q0, q1, q2, q3, q4, q5, q6, q7, q8, q9⟩ := A1.cells)
      | ((with_reducible refine (c1 _ _ (by assumption)).mono ?_); rintro e w3 ⟨rfl, A1⟩; obtain ⟨q0, q1, q2, q3, q4, q5, q6, q7, q8, q9⟩ := A1.cells)
      | ((with_reducible refine (c2 _ _ (by assumption)).mono ?_); rintro e w3 ⟨rfl, A1⟩; obtain ⟨q0, q1, q2, q3, q4, q5, q6, q7, q8, q9⟩ := A1.cells)
      | ((with_reducible refine (c3 _ _ (by assumption)).mono ?_); rintro e w3 ⟨rfl, A1⟩; obtain ⟨q0, q1, q2, q3, q4, q5, q6, q7, q8, q9⟩ := A1.cells)
      | ((with_reducible refine (c4 _ _ (by assumption)).mono ?_); rintro e w3 ⟨rfl, A1⟩; obtain ⟨q0, q1, q2, q3, q4, q5, q6, q7, q8, q9⟩ := A1.cells)
      | ((with_reducible refine (c5 _ _ (by assumption)).mono ?_); rintro e w3 ⟨rfl, A1⟩; obtain ⟨q0, q1, q2, q3, q4, q5, q6, q7, q8, q9⟩ := A1.cells)
      | ((with_reducible refine (HP _).mono ?_); rintro e w_ ⟨rfl, rfl⟩)
      | ((with_reducible refine (HX _).mono ?_); rintro e w_ ⟨rfl, rfl⟩)
      | ((with_reducible refine (HY _).mono ?_); rintro e w_ ⟨rfl, rfl⟩))
    go_ret
    refine ⟨?_, (by assumption : AtC w _ _ _).2.1⟩
    first | rfl | (simp; omega)

theorem turns_calls {n0 n1 n2 n3 n4 n5 : Int} (b0 : I64K n0) (b1 : I64K n1) (b2 : I64K n2) (b3 : I64K n3) (b4 : I64K n4) (b5 : I64K n5) (x : Int) (hx : I64K x) (y : Int) (hy : I64K y) (y2 : Int) (hy2 : I64K y2) (w : World) (hT : Spans w) :
    Calls Tryd.prog 5 #[.agg #[.int .i64 n0, .int .i64 n1, .int .i64 n2, .int .i64 n3, .int .i64 n4, .int .i64 n5], .int .i64 x, .int .i64 y, .int .i64 y2] w fun e w' => e = .returned (.bool true) ∧ Below w.heap.size w w' := by
  obtain ⟨v, s, c, n, t, d, r, k, g, hch⟩ := chain_of n0 n1 n2 n3 n4 n5
  have ht := hch.small.T
  have hd := hch.small.D
  have hr := hch.small.R
  have hm0 : 1 ≤ (1099511627776 : Int) / t := (Int.le_ediv_iff_mul_le (by omega)).2 (by omega)
  have hm1 : (1099511627776 : Int) / t ≤ 1099511627776 := Int.ediv_le_self _ (by omega)
  have hp := cpick_bd x (1099511627776 / t + 1) (by omega)
  have hz1 := cpick_bd y 400 (by omega)
  have hz2 := cpick_bd y2 400 (by omega)
  have HP := fun W => pickW_any x (1099511627776 / t + 1) W hx (by omega) (by omega)
  have HX := fun W => pickW_any y 400 W hy (by omega) (by omega)
  have HY := fun W => pickW_any y2 400 W hy2 (by omega) (by omega)
  generalize cpick x (1099511627776 / t + 1) = S at hp HP
  generalize cpick y 400 = z1 at hz1 HX
  generalize cpick y2 400 = z2 at hz2 HY
  obtain ⟨P, hP⟩ : ∃ P, S * t = P := ⟨_, rfl⟩
  obtain ⟨Q, hQ⟩ : ∃ Q, (r + 1) * t = Q := ⟨_, rfl⟩
  have hQb := wide_bd ht.1 (show t ≤ 1000 by omega) hr.1 (show r ≤ 64 by omega)
  rw [hQ] at hQb
  have hP1 : P ≤ 1099511627776 := by rw [← hP]; exact (Int.le_ediv_iff_mul_le (by omega)).1 (by omega)
  have hP0 : 0 ≤ P := by rw [← hP]; exact Int.mul_nonneg hp.1 (by omega)
  obtain ⟨a, ha⟩ : ∃ a, max (P - d) 0 = a := ⟨_, rfl⟩
  obtain ⟨b, hb⟩ : ∃ b, min (P + Q + d - 1) 1099511627776 = b := ⟨_, rfl⟩
  obtain ⟨y0, hy0⟩ : ∃ y0, max (a + z1 - 200) 0 = y0 := ⟨_, rfl⟩
  obtain ⟨y1, hy1⟩ : ∃ y1, min y0 1099511627776 = y1 := ⟨_, rfl⟩
  obtain ⟨u, hu⟩ : ∃ u, min (y1 + z2) 1099511627776 = u := ⟨_, rfl⟩
  have HO : opensA true t d S = (a, 0) := opens_ok (by rw [hP]; exact hP1) hp.1 (by rw [hP]; exact ha)
  have HC : closesA true t d r S = (b, 0) := closes_ok (by rw [hP]; exact hP1) hp.1 (by rw [hP, hQ]; exact hb)
  have s1 := stand_at y1 hP hQ hP1 ha hb
  have s2 := stand_at u hP hQ hP1 ha hb
  have s3 := stand_at a hP hQ hP1 ha hb
  have s4 := stand_at b hP hQ hP1 ha hb
  have h3 : standZ t d r a S = 1 := by omega
  have h4 : standZ t d r b S = 1 := by omega
  obtain ⟨e1, h1⟩ : ∃ e1, standZ t d r y1 S = e1 := ⟨_, rfl⟩
  obtain ⟨e2, h2⟩ : ∃ e2, standZ t d r u S = e2 := ⟨_, rfl⟩
  rw [h1] at s1
  rw [h2] at s2
  have hz : (a == 0) = true ∨ ((a == 0) = false ∧ a + d = P) := by
    by_cases h0 : a = 0
    · exact .inl (by rw [h0]; rfl)
    · exact .inr ⟨by simpa using h0, by omega⟩
  exact turns_walk hch w hT b0 b1 b2 b3 b4 b5 x y y2 S z1 z2 P a b y0 y1 u e1 e2 HP HX HY hm0 hm1 hp.1 (by omega) hP hP0 hP1 (by omega) (by omega) (by omega) HO HC hz1 hz2 hy0 hy1 hu (by omega) h1 h2 h3 h4 s1 hz
end Go.Proofs.YtjcpeimlebpglaaDoor
