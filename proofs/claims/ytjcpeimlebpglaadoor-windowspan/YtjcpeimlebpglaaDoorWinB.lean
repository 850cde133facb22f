/- Layer 12, the document's own: how a slot stands. -/
import Derived.Test.YtjcpeimlebpglaaDoorWinA
namespace Go.Proofs.YtjcpeimlebpglaaDoor
open Go.RowKit

theorem opens_late {t d x : Int} (hm : 1099511627776 < x * t) (hx : 0 ≤ x) : opensA true t d x = (0, 8) := by
  unfold opensA
  rw [startA_is hx]
  unfold productA
  rw [if_pos hm]
  rfl
theorem opens_ok {t d x a : Int} (hm : x * t ≤ 1099511627776) (hx : 0 ≤ x) (ha : max (x * t - d) 0 = a) : opensA true t d x = (a, 0) := by
  unfold opensA
  rw [startA_is hx]
  unfold productA
  rw [if_neg (show ¬ 1099511627776 < x * t by omega), if_pos rfl, ha]
theorem closes_late {t d r x : Int} (hm : 1099511627776 < x * t) (hx : 0 ≤ x) : closesA true t d r x = (0, 8) := by
  unfold closesA
  rw [startA_is hx]
  unfold productA
  rw [if_pos hm]
  rfl
theorem closes_ok {t d r x b : Int} (hm : x * t ≤ 1099511627776) (hx : 0 ≤ x) (hb : min (x * t + (r + 1) * t + d - 1) 1099511627776 = b) : closesA true t d r x = (b, 0) := by
  unfold closesA
  rw [startA_is hx]
  unfold productA
  rw [if_neg (show ¬ 1099511627776 < x * t by omega), if_pos rfl, hb]
theorem standA_no {fit : Bool} {t d r k x : Int} (h : (fit && isTickB k && decide (0 ≤ x)) = false) : standA fit t d r k x = (0, 1) := by unfold standA; rw [h]; rfl
theorem standA_yes {t d r k x : Int} (hk : 0 ≤ k) (hk2 : k ≤ 1099511627776) (hx : 0 ≤ x) : standA true t d r k x = (standZ t d r k x, 0) := by
  unfold standA
  rw [(isTickB_iff k).2 ⟨hk, hk2⟩, decide_eq_true hx]
  rfl
/-- How a slot of a fitting chain stands: one of five ways. -/
theorem stand_ways (t d r k x : Int) (hd : 0 ≤ d) :
    (1099511627776 < x * t ∧ standZ t d r k x = 0) ∨ (x * t ≤ 1099511627776 ∧ ∃ a b, max (x * t - d) 0 = a ∧ min (x * t + (r + 1) * t + d - 1) 1099511627776 = b ∧ 0 ≤ a ∧ a ≤ 1099511627776 ∧ b ≤ 1099511627776 ∧ ((k < a ∧ standZ t d r k x = 0) ∨ (a ≤ k ∧ b < k ∧ standZ t d r k x = 2) ∨ (a ≤ k ∧ k ≤ b ∧ standZ t d r k x = 1))) := by
  unfold standZ
  generalize (r + 1) * t = m at *
  generalize x * t = q at *
  split
  · exact .inl ⟨by omega, rfl⟩
  · refine .inr ⟨by omega, _, _, rfl, rfl, by omega, by omega, by omega, ?_⟩
    split
    · exact .inl ⟨by assumption, rfl⟩
    · split
      · exact .inr (.inl ⟨by omega, by omega, rfl⟩)
      · exact .inr (.inr ⟨by omega, by omega, rfl⟩)
set_option maxHeartbeats 1000000 in
set_option maxRecDepth 100000 in
theorem rStand_any {v s c n t d r k g : Int} {fit : Bool} (hf : fitsC v s c n t d r k g = fit) (z : Int) (w : World) (y : Int) (hy : -9223372036854775808 ≤ y ∧ y ≤ 9223372036854775807) (x : Int) (hx : -9223372036854775808 ≤ x ∧ x ≤ 9223372036854775807) (R E : Int) (hR : standA fit t d r y x = (R, E)) :
    Calls Tryd.prog 16 #[.agg #[.int .i64 v, .int .i64 s, .int .i64 c, .int .i64 n, .int .i64 t, .int .i64 d, .int .i64 r, .int .i64 k, .int .i64 g, .int .u64 z], .int .i64 y, .int .i64 x] w fun e w' => e = .returned (.tuple #[.int .i64 R, .int .i64 E]) ∧ Below w.heap.size w w' := by
  have hA0 : Below w.heap.size w (w.alloc (.cells #[.int .i64 v, .int .i64 s, .int .i64 c, .int .i64 n, .int .i64 t, .int .i64 d, .int .i64 r, .int .i64 k, .int .i64 g, .int .u64 z] 24)) := (Below.refl _ _).alloc (Nat.le_refl _) _
  cases fit
  · rw [standA_no (by rfl)] at hR
    obtain ⟨rfl, rfl⟩ := Prod.mk.inj hR
    clear hR
    go_enter Tryd.func16, Tryd.ntmps16
    go_wp2_with fail
    with_reducible refine (rFits_eq hf z _).mono ?_
    rintro e w1 ⟨rfl, hb⟩
    have hbw := box_bel (by simpa using hb)
    go_wp2_with fail
    go_ret2
    exact ⟨rfl, hbw⟩
  · by_cases hk : y < 0
    · rw [standA_no (by rw [(isTickB_no y).2 (by omega)]; rfl)] at hR
      obtain ⟨rfl, rfl⟩ := Prod.mk.inj hR
      clear hR
      go_enter Tryd.func16, Tryd.ntmps16
      go_wp2_with fail
      with_reducible refine (rFits_eq hf z _).mono ?_
      rintro e w1 ⟨rfl, hb⟩
      have hbw := box_bel (by simpa using hb)
      go_wp2_with fail
      go_ret2
      exact ⟨rfl, hbw⟩
    by_cases hk2 : 1099511627776 < y
    · rw [standA_no (by rw [(isTickB_no y).2 (by omega)]; rfl)] at hR
      obtain ⟨rfl, rfl⟩ := Prod.mk.inj hR
      clear hR
      go_enter Tryd.func16, Tryd.ntmps16
      go_wp2_with fail
      with_reducible refine (rFits_eq hf z _).mono ?_
      rintro e w1 ⟨rfl, hb⟩
      have hbw := box_bel (by simpa using hb)
      go_wp2_with fail
      go_ret2
      exact ⟨rfl, hbw⟩
    by_cases h0 : x < 0
    · rw [standA_no (by rw [decide_eq_false (show ¬ 0 ≤ x by omega), Bool.and_false])] at hR
      obtain ⟨rfl, rfl⟩ := Prod.mk.inj hR
      clear hR
      go_enter Tryd.func16, Tryd.ntmps16
      go_wp2_with fail
      with_reducible refine (rFits_eq hf z _).mono ?_
      rintro e w1 ⟨rfl, hb⟩
      have hbw := box_bel (by simpa using hb)
      go_wp2_with fail
      go_ret2
      exact ⟨rfl, hbw⟩
    obtain ⟨ht1, ht2, hs1, hs2⟩ := fits_t hf
    obtain ⟨hd0, hd1, hr0, hr1⟩ := fits_d hf
    obtain ⟨hw1, hw2⟩ := wide_bd ht1 ht2 hr0 hr1
    rw [standA_yes (by omega) (by omega) (by omega)] at hR
    obtain ⟨hm, hz⟩ | ⟨hm, a, b, ha, hb9, ha0, ha1, hb1, hz⟩ := stand_ways t d r y x hd0
    · rw [hz] at hR
      obtain ⟨rfl, rfl⟩ := Prod.mk.inj hR
      clear hR
      clear hz
      have HO : opensA true t d x = (0, 8) := opens_late hm (by omega)
      clear hm hw1 hw2
      go_enter Tryd.func16, Tryd.ntmps16
      go_wp2_with fail
      with_reducible refine (rFits_eq hf z _).mono ?_
      rintro e w1 ⟨rfl, hb⟩
      have hbw := box_bel (by simpa using hb)
      have R1 : RowAt w1 w.heap.size 24 [.int .i64 v, .int .i64 s, .int .i64 c, .int .i64 n, .int .i64 t, .int .i64 d, .int .i64 r, .int .i64 k, .int .i64 g, .int .u64 z] := (RowAt.new w 24 #[.int .i64 v, .int .i64 s, .int .i64 c, .int .i64 n, .int .i64 t, .int .i64 d, .int .i64 r, .int .i64 k, .int .i64 g, .int .u64 z]).below hb (by simp)
      have r0 : w1.cell? ⟨w.heap.size, 0, none⟩ = some (.int .i64 v) := by rw [R1.cell]; rfl
      have r1 : w1.cell? ⟨w.heap.size, 1, none⟩ = some (.int .i64 s) := by rw [R1.cell]; rfl
      have r2 : w1.cell? ⟨w.heap.size, 2, none⟩ = some (.int .i64 c) := by rw [R1.cell]; rfl
      have r3 : w1.cell? ⟨w.heap.size, 3, none⟩ = some (.int .i64 n) := by rw [R1.cell]; rfl
      have r4 : w1.cell? ⟨w.heap.size, 4, none⟩ = some (.int .i64 t) := by rw [R1.cell]; rfl
      have r5 : w1.cell? ⟨w.heap.size, 5, none⟩ = some (.int .i64 d) := by rw [R1.cell]; rfl
      have r6 : w1.cell? ⟨w.heap.size, 6, none⟩ = some (.int .i64 r) := by rw [R1.cell]; rfl
      have r7 : w1.cell? ⟨w.heap.size, 7, none⟩ = some (.int .i64 k) := by rw [R1.cell]; rfl
      have r8 : w1.cell? ⟨w.heap.size, 8, none⟩ = some (.int .i64 g) := by rw [R1.cell]; rfl
      have r9 : w1.cell? ⟨w.heap.size, 9, none⟩ = some (.int .u64 z) := by rw [R1.cell]; rfl
      go_wp2_with fail
      with_reducible refine (rOpens_any hf z _ x hx _ _ (HO)).mono ?_
      rintro e w2 ⟨rfl, hb2⟩
      clear r0 r1 r2 r3 r4 r5 r6 r7 r8 r9
      replace R1 := R1.below hb2 R1.lt
      have hbx := hbw.trans (hb2.mono hbw.size)
      go_wp2_with fail
      go_ret2
      exact ⟨rfl, hbx⟩
    · have HO : opensA true t d x = (a, 0) := opens_ok hm (by omega) ha
      have HC : closesA true t d r x = (b, 0) := closes_ok hm (by omega) hb9
      clear ha hb9 hm hw1 hw2
      obtain ⟨hka, hz⟩ | ⟨hka, hkb, hz⟩ | ⟨hka, hkb, hz⟩ := hz
      · rw [hz] at hR
        obtain ⟨rfl, rfl⟩ := Prod.mk.inj hR
        clear hR
        clear hz
        go_enter Tryd.func16, Tryd.ntmps16
        go_wp2_with fail
        with_reducible refine (rFits_eq hf z _).mono ?_
        rintro e w1 ⟨rfl, hb⟩
        have hbw := box_bel (by simpa using hb)
        have R1 : RowAt w1 w.heap.size 24 [.int .i64 v, .int .i64 s, .int .i64 c, .int .i64 n, .int .i64 t, .int .i64 d, .int .i64 r, .int .i64 k, .int .i64 g, .int .u64 z] := (RowAt.new w 24 #[.int .i64 v, .int .i64 s, .int .i64 c, .int .i64 n, .int .i64 t, .int .i64 d, .int .i64 r, .int .i64 k, .int .i64 g, .int .u64 z]).below hb (by simp)
        have r0 : w1.cell? ⟨w.heap.size, 0, none⟩ = some (.int .i64 v) := by rw [R1.cell]; rfl
        have r1 : w1.cell? ⟨w.heap.size, 1, none⟩ = some (.int .i64 s) := by rw [R1.cell]; rfl
        have r2 : w1.cell? ⟨w.heap.size, 2, none⟩ = some (.int .i64 c) := by rw [R1.cell]; rfl
        have r3 : w1.cell? ⟨w.heap.size, 3, none⟩ = some (.int .i64 n) := by rw [R1.cell]; rfl
        have r4 : w1.cell? ⟨w.heap.size, 4, none⟩ = some (.int .i64 t) := by rw [R1.cell]; rfl
        have r5 : w1.cell? ⟨w.heap.size, 5, none⟩ = some (.int .i64 d) := by rw [R1.cell]; rfl
        have r6 : w1.cell? ⟨w.heap.size, 6, none⟩ = some (.int .i64 r) := by rw [R1.cell]; rfl
        have r7 : w1.cell? ⟨w.heap.size, 7, none⟩ = some (.int .i64 k) := by rw [R1.cell]; rfl
        have r8 : w1.cell? ⟨w.heap.size, 8, none⟩ = some (.int .i64 g) := by rw [R1.cell]; rfl
        have r9 : w1.cell? ⟨w.heap.size, 9, none⟩ = some (.int .u64 z) := by rw [R1.cell]; rfl
        go_wp2_with fail
        with_reducible refine (rOpens_any hf z _ x hx _ _ (HO)).mono ?_
        rintro e w2 ⟨rfl, hb2⟩
        clear r0 r1 r2 r3 r4 r5 r6 r7 r8 r9
        replace R1 := R1.below hb2 R1.lt
        have hbx := hbw.trans (hb2.mono hbw.size)
        go_wp2_with fail
        go_ret2
        exact ⟨rfl, hbx⟩
      · rw [hz] at hR
        obtain ⟨rfl, rfl⟩ := Prod.mk.inj hR
        clear hR
        clear hz
        go_enter Tryd.func16, Tryd.ntmps16
        go_wp2_with fail
        with_reducible refine (rFits_eq hf z _).mono ?_
        rintro e w1 ⟨rfl, hb⟩
        have hbw := box_bel (by simpa using hb)
        have R1 : RowAt w1 w.heap.size 24 [.int .i64 v, .int .i64 s, .int .i64 c, .int .i64 n, .int .i64 t, .int .i64 d, .int .i64 r, .int .i64 k, .int .i64 g, .int .u64 z] := (RowAt.new w 24 #[.int .i64 v, .int .i64 s, .int .i64 c, .int .i64 n, .int .i64 t, .int .i64 d, .int .i64 r, .int .i64 k, .int .i64 g, .int .u64 z]).below hb (by simp)
        have r0 : w1.cell? ⟨w.heap.size, 0, none⟩ = some (.int .i64 v) := by rw [R1.cell]; rfl
        have r1 : w1.cell? ⟨w.heap.size, 1, none⟩ = some (.int .i64 s) := by rw [R1.cell]; rfl
        have r2 : w1.cell? ⟨w.heap.size, 2, none⟩ = some (.int .i64 c) := by rw [R1.cell]; rfl
        have r3 : w1.cell? ⟨w.heap.size, 3, none⟩ = some (.int .i64 n) := by rw [R1.cell]; rfl
        have r4 : w1.cell? ⟨w.heap.size, 4, none⟩ = some (.int .i64 t) := by rw [R1.cell]; rfl
        have r5 : w1.cell? ⟨w.heap.size, 5, none⟩ = some (.int .i64 d) := by rw [R1.cell]; rfl
        have r6 : w1.cell? ⟨w.heap.size, 6, none⟩ = some (.int .i64 r) := by rw [R1.cell]; rfl
        have r7 : w1.cell? ⟨w.heap.size, 7, none⟩ = some (.int .i64 k) := by rw [R1.cell]; rfl
        have r8 : w1.cell? ⟨w.heap.size, 8, none⟩ = some (.int .i64 g) := by rw [R1.cell]; rfl
        have r9 : w1.cell? ⟨w.heap.size, 9, none⟩ = some (.int .u64 z) := by rw [R1.cell]; rfl
        go_wp2_with fail
        with_reducible refine (rOpens_any hf z _ x hx _ _ (HO)).mono ?_
        rintro e w2 ⟨rfl, hb2⟩
        clear r0 r1 r2 r3 r4 r5 r6 r7 r8 r9
        replace R1 := R1.below hb2 R1.lt
        have hbx := hbw.trans (hb2.mono hbw.size)
        have r0 : w2.cell? ⟨w.heap.size, 0, none⟩ = some (.int .i64 v) := by rw [R1.cell]; rfl
        have r1 : w2.cell? ⟨w.heap.size, 1, none⟩ = some (.int .i64 s) := by rw [R1.cell]; rfl
        have r2 : w2.cell? ⟨w.heap.size, 2, none⟩ = some (.int .i64 c) := by rw [R1.cell]; rfl
        have r3 : w2.cell? ⟨w.heap.size, 3, none⟩ = some (.int .i64 n) := by rw [R1.cell]; rfl
        have r4 : w2.cell? ⟨w.heap.size, 4, none⟩ = some (.int .i64 t) := by rw [R1.cell]; rfl
        have r5 : w2.cell? ⟨w.heap.size, 5, none⟩ = some (.int .i64 d) := by rw [R1.cell]; rfl
        have r6 : w2.cell? ⟨w.heap.size, 6, none⟩ = some (.int .i64 r) := by rw [R1.cell]; rfl
        have r7 : w2.cell? ⟨w.heap.size, 7, none⟩ = some (.int .i64 k) := by rw [R1.cell]; rfl
        have r8 : w2.cell? ⟨w.heap.size, 8, none⟩ = some (.int .i64 g) := by rw [R1.cell]; rfl
        have r9 : w2.cell? ⟨w.heap.size, 9, none⟩ = some (.int .u64 z) := by rw [R1.cell]; rfl
        go_wp2_with fail
        with_reducible refine (rCloses_any hf z _ x hx _ _ (HC)).mono ?_
        rintro e w3 ⟨rfl, hb3⟩
        clear r0 r1 r2 r3 r4 r5 r6 r7 r8 r9
        have hby := hbx.trans (hb3.mono hbx.size)
        go_wp2_with fail
        go_ret2
        exact ⟨rfl, hby⟩
      · rw [hz] at hR
        obtain ⟨rfl, rfl⟩ := Prod.mk.inj hR
        clear hR
        clear hz
        go_enter Tryd.func16, Tryd.ntmps16
        go_wp2_with fail
        with_reducible refine (rFits_eq hf z _).mono ?_
        rintro e w1 ⟨rfl, hb⟩
        have hbw := box_bel (by simpa using hb)
        have R1 : RowAt w1 w.heap.size 24 [.int .i64 v, .int .i64 s, .int .i64 c, .int .i64 n, .int .i64 t, .int .i64 d, .int .i64 r, .int .i64 k, .int .i64 g, .int .u64 z] := (RowAt.new w 24 #[.int .i64 v, .int .i64 s, .int .i64 c, .int .i64 n, .int .i64 t, .int .i64 d, .int .i64 r, .int .i64 k, .int .i64 g, .int .u64 z]).below hb (by simp)
        have r0 : w1.cell? ⟨w.heap.size, 0, none⟩ = some (.int .i64 v) := by rw [R1.cell]; rfl
        have r1 : w1.cell? ⟨w.heap.size, 1, none⟩ = some (.int .i64 s) := by rw [R1.cell]; rfl
        have r2 : w1.cell? ⟨w.heap.size, 2, none⟩ = some (.int .i64 c) := by rw [R1.cell]; rfl
        have r3 : w1.cell? ⟨w.heap.size, 3, none⟩ = some (.int .i64 n) := by rw [R1.cell]; rfl
        have r4 : w1.cell? ⟨w.heap.size, 4, none⟩ = some (.int .i64 t) := by rw [R1.cell]; rfl
        have r5 : w1.cell? ⟨w.heap.size, 5, none⟩ = some (.int .i64 d) := by rw [R1.cell]; rfl
        have r6 : w1.cell? ⟨w.heap.size, 6, none⟩ = some (.int .i64 r) := by rw [R1.cell]; rfl
        have r7 : w1.cell? ⟨w.heap.size, 7, none⟩ = some (.int .i64 k) := by rw [R1.cell]; rfl
        have r8 : w1.cell? ⟨w.heap.size, 8, none⟩ = some (.int .i64 g) := by rw [R1.cell]; rfl
        have r9 : w1.cell? ⟨w.heap.size, 9, none⟩ = some (.int .u64 z) := by rw [R1.cell]; rfl
        go_wp2_with fail
        with_reducible refine (rOpens_any hf z _ x hx _ _ (HO)).mono ?_
        rintro e w2 ⟨rfl, hb2⟩
        clear r0 r1 r2 r3 r4 r5 r6 r7 r8 r9
        replace R1 := R1.below hb2 R1.lt
        have hbx := hbw.trans (hb2.mono hbw.size)
        have r0 : w2.cell? ⟨w.heap.size, 0, none⟩ = some (.int .i64 v) := by rw [R1.cell]; rfl
        have r1 : w2.cell? ⟨w.heap.size, 1, none⟩ = some (.int .i64 s) := by rw [R1.cell]; rfl
        have r2 : w2.cell? ⟨w.heap.size, 2, none⟩ = some (.int .i64 c) := by rw [R1.cell]; rfl
        have r3 : w2.cell? ⟨w.heap.size, 3, none⟩ = some (.int .i64 n) := by rw [R1.cell]; rfl
        have r4 : w2.cell? ⟨w.heap.size, 4, none⟩ = some (.int .i64 t) := by rw [R1.cell]; rfl
        have r5 : w2.cell? ⟨w.heap.size, 5, none⟩ = some (.int .i64 d) := by rw [R1.cell]; rfl
        have r6 : w2.cell? ⟨w.heap.size, 6, none⟩ = some (.int .i64 r) := by rw [R1.cell]; rfl
        have r7 : w2.cell? ⟨w.heap.size, 7, none⟩ = some (.int .i64 k) := by rw [R1.cell]; rfl
        have r8 : w2.cell? ⟨w.heap.size, 8, none⟩ = some (.int .i64 g) := by rw [R1.cell]; rfl
        have r9 : w2.cell? ⟨w.heap.size, 9, none⟩ = some (.int .u64 z) := by rw [R1.cell]; rfl
        go_wp2_with fail
        with_reducible refine (rCloses_any hf z _ x hx _ _ (HC)).mono ?_
        rintro e w3 ⟨rfl, hb3⟩
        clear r0 r1 r2 r3 r4 r5 r6 r7 r8 r9
        have hby := hbx.trans (hb3.mono hbx.size)
        go_wp2_with fail
        go_ret2
        exact ⟨rfl, hby⟩
end Go.Proofs.YtjcpeimlebpglaaDoor
