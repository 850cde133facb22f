/- Layer 12, the program: how a slot stands. -/
import Derived.Test.YtjcpeimlebpglaaDoorWinAp
namespace Go.Proofs.YtjcpeimlebpglaaDoor
open Go.RowKit

theorem opens_neg {t d x : Int} (h : x < 0) : opensA true t d x = (0, 1) := by unfold opensA; rw [startA_not h]; rfl
theorem slot_no {fit : Bool} {t y : Int} (h : (fit && isTickB y) = false) : slotA fit t y = (0, 1) := by unfold slotA; rw [h]; rfl
theorem slot_yes {t y : Int} (h0 : 0 ≤ y) (h1 : y ≤ 1099511627776) : slotA true t y = (y / t, 0) := slotA_is ((isTickB_iff y).2 ⟨h0, h1⟩)
set_option maxHeartbeats 1000000 in
set_option maxRecDepth 100000 in
theorem wStand_any {v s c n t d r k g : Int} {fit : Bool} (hf : fitsC v s c n t d r k g = fit) (z : Int) (w : World) (hT : Spans w) (y : Int) (hy : -9223372036854775808 ≤ y ∧ y ≤ 9223372036854775807) (x : Int) (hx : -9223372036854775808 ≤ x ∧ x ≤ 9223372036854775807) (R E : Int) (hR : standA fit t d r y x = (R, E)) :
    Calls Tryd.prog 15 #[.agg #[.int .i64 v, .int .i64 s, .int .i64 c, .int .i64 n, .int .i64 t, .int .i64 d, .int .i64 r, .int .i64 k, .int .i64 g, .int .u64 z], .int .i64 y, .int .i64 x] w fun e w' => e = .returned (.tuple #[.int .i64 R, .int .i64 E]) ∧ Below w.heap.size w w' := by
  have hA0 : Below w.heap.size w (w.alloc (.cells #[.int .i64 v, .int .i64 s, .int .i64 c, .int .i64 n, .int .i64 t, .int .i64 d, .int .i64 r, .int .i64 k, .int .i64 g, .int .u64 z] 24)) := (Below.refl _ _).alloc (Nat.le_refl _) _
  cases hno : (fit && isTickB y)
  · rw [standA_no (by rw [hno]; rfl)] at hR
    obtain ⟨rfl, rfl⟩ := Prod.mk.inj hR
    clear hR
    have hS := slot_no (t := t) hno
    clear hno
    go_enter Tryd.func15, Tryd.ntmps15
    go_wp2_with fail
    with_reducible refine (SlotOf_any hf z _ (hT.on hA0) y hy _ _ hS).mono ?_
    rintro e w1 ⟨rfl, hb⟩
    have hbw := box_bel (by simpa using hb)
    have R1 : RowAt w1 w.heap.size 24 [.int .i64 v, .int .i64 s, .int .i64 c, .int .i64 n, .int .i64 t, .int .i64 d, .int .i64 r, .int .i64 k, .int .i64 g, .int .u64 z] := (RowAt.new w 24 #[.int .i64 v, .int .i64 s, .int .i64 c, .int .i64 n, .int .i64 t, .int .i64 d, .int .i64 r, .int .i64 k, .int .i64 g, .int .u64 z]).below hb (by simp)
    have hT1 := hT.on hbw
    go_wp2_with fail
    go_ret2
    exact ⟨rfl, hbw⟩
  · obtain ⟨rfl, hk⟩ : fit = true ∧ isTickB y = true := by simpa using hno
    clear hno
    obtain ⟨hy0, hy1⟩ := (isTickB_iff y).1 hk
    have hS := slot_yes (t := t) hy0 hy1
    generalize y / t = q at *
    by_cases h0 : x < 0
    · rw [standA_no (by rw [decide_eq_false (show ¬ 0 ≤ x by omega), Bool.and_false])] at hR
      obtain ⟨rfl, rfl⟩ := Prod.mk.inj hR
      clear hR
      have HO := opens_neg (t := t) (d := d) h0
      go_enter Tryd.func15, Tryd.ntmps15
      go_wp2_with fail
      with_reducible refine (SlotOf_any hf z _ (hT.on hA0) y hy _ _ hS).mono ?_
      rintro e w1 ⟨rfl, hb⟩
      have hbw := box_bel (by simpa using hb)
      have R1 : RowAt w1 w.heap.size 24 [.int .i64 v, .int .i64 s, .int .i64 c, .int .i64 n, .int .i64 t, .int .i64 d, .int .i64 r, .int .i64 k, .int .i64 g, .int .u64 z] := (RowAt.new w 24 #[.int .i64 v, .int .i64 s, .int .i64 c, .int .i64 n, .int .i64 t, .int .i64 d, .int .i64 r, .int .i64 k, .int .i64 g, .int .u64 z]).below hb (by simp)
      have hT1 := hT.on hbw
      have r0 : w1.cell? ⟨w.heap.size, 0, none⟩ = some (.int .i64 v) := by rw [R1.cell]; rfl
      have r1 : w1.cell? ⟨w.heap.size, 1, none⟩ = some (.int .i64 s) := by rw [R1.cell]; rfl
      have r2 : w1.cell? ⟨w.heap.size, 2, none⟩ = some (.int .i64 c) := by rw [R1.cell]; rfl
      have r3 : w1.cell? ⟨w.heap.size, 3, none⟩ = some (.int .i64 n) := by rw [R1.cell]; rfl
      have r4 : w1.cell? ⟨w.heap.size, 4, none⟩ = some (.int .i64 t) := by rw [R1.cell]; rfl
      have r5 : w1.cell? ⟨w.heap.size, 5, none⟩ = some (.int .i64 d) := by rw [R1.cell]; rfl
      have r6 : w1.cell? ⟨w.heap.size, 6, none⟩ = some (.int .i64 r) := by rw [R1.cell]; rfl
      have r7 : w1.cell? ⟨w.heap.size, 7, none⟩ = some (.int .i64 k) := by rw [R1.cell]; rfl
      have r8 : w1.cell? ⟨w.heap.size, 8, none⟩ = some (.int .i64 g) := by rw [R1.cell]; rfl
      have r9 : w1.cell? ⟨w.heap.size, 9, none⟩ = some (.int .u64 z) := by rw [R1.cell]; rfl
      go_wp2_with fail
      with_reducible refine (wOpens_any hf z _ hT1 x hx _ _ HO).mono ?_
      rintro e w2 ⟨rfl, hbw2⟩
      clear r0 r1 r2 r3 r4 r5 r6 r7 r8 r9
      replace R1 := R1.on hbw2
      have hbx := hbw.trans (hbw2.mono hbw.size)
      go_wp2_with fail
      go_ret2
      exact ⟨rfl, hbx⟩
    obtain ⟨ht1, ht2, hs1, hs2⟩ := fits_t hf
    obtain ⟨hd0, hd1, hr0, hr1⟩ := fits_d hf
    rw [standA_yes hy0 hy1 (by omega)] at hR
    obtain ⟨hm, hz⟩ | ⟨hm, a, b, ha, hb9, ha0, ha1, hb1, hz⟩ := stand_ways t d r y x hd0
    · rw [hz] at hR
      obtain ⟨rfl, rfl⟩ := Prod.mk.inj hR
      clear hR hz
      have HO : opensA true t d x = (0, 8) := opens_late hm (by omega)
      clear hm
      go_enter Tryd.func15, Tryd.ntmps15
      go_wp2_with fail
      with_reducible refine (SlotOf_any hf z _ (hT.on hA0) y hy _ _ hS).mono ?_
      rintro e w1 ⟨rfl, hb⟩
      have hbw := box_bel (by simpa using hb)
      have R1 : RowAt w1 w.heap.size 24 [.int .i64 v, .int .i64 s, .int .i64 c, .int .i64 n, .int .i64 t, .int .i64 d, .int .i64 r, .int .i64 k, .int .i64 g, .int .u64 z] := (RowAt.new w 24 #[.int .i64 v, .int .i64 s, .int .i64 c, .int .i64 n, .int .i64 t, .int .i64 d, .int .i64 r, .int .i64 k, .int .i64 g, .int .u64 z]).below hb (by simp)
      have hT1 := hT.on hbw
      have r0 : w1.cell? ⟨w.heap.size, 0, none⟩ = some (.int .i64 v) := by rw [R1.cell]; rfl
      have r1 : w1.cell? ⟨w.heap.size, 1, none⟩ = some (.int .i64 s) := by rw [R1.cell]; rfl
      have r2 : w1.cell? ⟨w.heap.size, 2, none⟩ = some (.int .i64 c) := by rw [R1.cell]; rfl
      have r3 : w1.cell? ⟨w.heap.size, 3, none⟩ = some (.int .i64 n) := by rw [R1.cell]; rfl
      have r4 : w1.cell? ⟨w.heap.size, 4, none⟩ = some (.int .i64 t) := by rw [R1.cell]; rfl
      have r5 : w1.cell? ⟨w.heap.size, 5, none⟩ = some (.int .i64 d) := by rw [R1.cell]; rfl
      have r6 : w1.cell? ⟨w.heap.size, 6, none⟩ = some (.int .i64 r) := by rw [R1.cell]; rfl
      have r7 : w1.cell? ⟨w.heap.size, 7, none⟩ = some (.int .i64 k) := by rw [R1.cell]; rfl
      have r8 : w1.cell? ⟨w.heap.size, 8, none⟩ = some (.int .i64 g) := by rw [R1.cell]; rfl
      have r9 : w1.cell? ⟨w.heap.size, 9, none⟩ = some (.int .u64 z) := by rw [R1.cell]; rfl
      go_wp2_with fail
      with_reducible refine (wOpens_any hf z _ hT1 x hx _ _ HO).mono ?_
      rintro e w2 ⟨rfl, hbw2⟩
      clear r0 r1 r2 r3 r4 r5 r6 r7 r8 r9
      replace R1 := R1.on hbw2
      have hbx := hbw.trans (hbw2.mono hbw.size)
      go_wp2_with fail
      go_ret2
      exact ⟨rfl, hbx⟩
    · have HO : opensA true t d x = (a, 0) := opens_ok hm (by omega) ha
      have HC : closesA true t d r x = (b, 0) := closes_ok hm (by omega) hb9
      clear ha hb9 hm
      obtain ⟨hka, hz⟩ | ⟨hka, hkb, hz⟩ | ⟨hka, hkb, hz⟩ := hz
      · rw [hz] at hR
        obtain ⟨rfl, rfl⟩ := Prod.mk.inj hR
        clear hR hz
        go_enter Tryd.func15, Tryd.ntmps15
        go_wp2_with fail
        with_reducible refine (SlotOf_any hf z _ (hT.on hA0) y hy _ _ hS).mono ?_
        rintro e w1 ⟨rfl, hb⟩
        have hbw := box_bel (by simpa using hb)
        have R1 : RowAt w1 w.heap.size 24 [.int .i64 v, .int .i64 s, .int .i64 c, .int .i64 n, .int .i64 t, .int .i64 d, .int .i64 r, .int .i64 k, .int .i64 g, .int .u64 z] := (RowAt.new w 24 #[.int .i64 v, .int .i64 s, .int .i64 c, .int .i64 n, .int .i64 t, .int .i64 d, .int .i64 r, .int .i64 k, .int .i64 g, .int .u64 z]).below hb (by simp)
        have hT1 := hT.on hbw
        have r0 : w1.cell? ⟨w.heap.size, 0, none⟩ = some (.int .i64 v) := by rw [R1.cell]; rfl
        have r1 : w1.cell? ⟨w.heap.size, 1, none⟩ = some (.int .i64 s) := by rw [R1.cell]; rfl
        have r2 : w1.cell? ⟨w.heap.size, 2, none⟩ = some (.int .i64 c) := by rw [R1.cell]; rfl
        have r3 : w1.cell? ⟨w.heap.size, 3, none⟩ = some (.int .i64 n) := by rw [R1.cell]; rfl
        have r4 : w1.cell? ⟨w.heap.size, 4, none⟩ = some (.int .i64 t) := by rw [R1.cell]; rfl
        have r5 : w1.cell? ⟨w.heap.size, 5, none⟩ = some (.int .i64 d) := by rw [R1.cell]; rfl
        have r6 : w1.cell? ⟨w.heap.size, 6, none⟩ = some (.int .i64 r) := by rw [R1.cell]; rfl
        have r7 : w1.cell? ⟨w.heap.size, 7, none⟩ = some (.int .i64 k) := by rw [R1.cell]; rfl
        have r8 : w1.cell? ⟨w.heap.size, 8, none⟩ = some (.int .i64 g) := by rw [R1.cell]; rfl
        have r9 : w1.cell? ⟨w.heap.size, 9, none⟩ = some (.int .u64 z) := by rw [R1.cell]; rfl
        go_wp2_with fail
        with_reducible refine (wOpens_any hf z _ hT1 x hx _ _ HO).mono ?_
        rintro e w2 ⟨rfl, hbw2⟩
        clear r0 r1 r2 r3 r4 r5 r6 r7 r8 r9
        replace R1 := R1.on hbw2
        have hbx := hbw.trans (hbw2.mono hbw.size)
        have hT2 := hT.on hbx
        have r0 : w2.cell? ⟨w.heap.size, 0, none⟩ = some (.int .i64 v) := by rw [R1.cell]; rfl
        have r1 : w2.cell? ⟨w.heap.size, 1, none⟩ = some (.int .i64 s) := by rw [R1.cell]; rfl
        have r2 : w2.cell? ⟨w.heap.size, 2, none⟩ = some (.int .i64 c) := by rw [R1.cell]; rfl
        have r3 : w2.cell? ⟨w.heap.size, 3, none⟩ = some (.int .i64 n) := by rw [R1.cell]; rfl
        have r4 : w2.cell? ⟨w.heap.size, 4, none⟩ = some (.int .i64 t) := by rw [R1.cell]; rfl
        have r5 : w2.cell? ⟨w.heap.size, 5, none⟩ = some (.int .i64 d) := by rw [R1.cell]; rfl
        have r6 : w2.cell? ⟨w.heap.size, 6, none⟩ = some (.int .i64 r) := by rw [R1.cell]; rfl
        have r7 : w2.cell? ⟨w.heap.size, 7, none⟩ = some (.int .i64 k) := by rw [R1.cell]; rfl
        have r8 : w2.cell? ⟨w.heap.size, 8, none⟩ = some (.int .i64 g) := by rw [R1.cell]; rfl
        have r9 : w2.cell? ⟨w.heap.size, 9, none⟩ = some (.int .u64 z) := by rw [R1.cell]; rfl
        go_wp2_with fail
        with_reducible refine (wCloses_any hf z _ hT2 x hx _ _ HC).mono ?_
        rintro e w3 ⟨rfl, hbw3⟩
        clear r0 r1 r2 r3 r4 r5 r6 r7 r8 r9
        replace R1 := R1.on hbw3
        have hby := hbx.trans (hbw3.mono hbx.size)
        go_wp2_with fail
        go_ret2
        exact ⟨rfl, hby⟩
      · rw [hz] at hR
        obtain ⟨rfl, rfl⟩ := Prod.mk.inj hR
        clear hR hz
        go_enter Tryd.func15, Tryd.ntmps15
        go_wp2_with fail
        with_reducible refine (SlotOf_any hf z _ (hT.on hA0) y hy _ _ hS).mono ?_
        rintro e w1 ⟨rfl, hb⟩
        have hbw := box_bel (by simpa using hb)
        have R1 : RowAt w1 w.heap.size 24 [.int .i64 v, .int .i64 s, .int .i64 c, .int .i64 n, .int .i64 t, .int .i64 d, .int .i64 r, .int .i64 k, .int .i64 g, .int .u64 z] := (RowAt.new w 24 #[.int .i64 v, .int .i64 s, .int .i64 c, .int .i64 n, .int .i64 t, .int .i64 d, .int .i64 r, .int .i64 k, .int .i64 g, .int .u64 z]).below hb (by simp)
        have hT1 := hT.on hbw
        have r0 : w1.cell? ⟨w.heap.size, 0, none⟩ = some (.int .i64 v) := by rw [R1.cell]; rfl
        have r1 : w1.cell? ⟨w.heap.size, 1, none⟩ = some (.int .i64 s) := by rw [R1.cell]; rfl
        have r2 : w1.cell? ⟨w.heap.size, 2, none⟩ = some (.int .i64 c) := by rw [R1.cell]; rfl
        have r3 : w1.cell? ⟨w.heap.size, 3, none⟩ = some (.int .i64 n) := by rw [R1.cell]; rfl
        have r4 : w1.cell? ⟨w.heap.size, 4, none⟩ = some (.int .i64 t) := by rw [R1.cell]; rfl
        have r5 : w1.cell? ⟨w.heap.size, 5, none⟩ = some (.int .i64 d) := by rw [R1.cell]; rfl
        have r6 : w1.cell? ⟨w.heap.size, 6, none⟩ = some (.int .i64 r) := by rw [R1.cell]; rfl
        have r7 : w1.cell? ⟨w.heap.size, 7, none⟩ = some (.int .i64 k) := by rw [R1.cell]; rfl
        have r8 : w1.cell? ⟨w.heap.size, 8, none⟩ = some (.int .i64 g) := by rw [R1.cell]; rfl
        have r9 : w1.cell? ⟨w.heap.size, 9, none⟩ = some (.int .u64 z) := by rw [R1.cell]; rfl
        go_wp2_with fail
        with_reducible refine (wOpens_any hf z _ hT1 x hx _ _ HO).mono ?_
        rintro e w2 ⟨rfl, hbw2⟩
        clear r0 r1 r2 r3 r4 r5 r6 r7 r8 r9
        replace R1 := R1.on hbw2
        have hbx := hbw.trans (hbw2.mono hbw.size)
        have hT2 := hT.on hbx
        have r0 : w2.cell? ⟨w.heap.size, 0, none⟩ = some (.int .i64 v) := by rw [R1.cell]; rfl
        have r1 : w2.cell? ⟨w.heap.size, 1, none⟩ = some (.int .i64 s) := by rw [R1.cell]; rfl
        have r2 : w2.cell? ⟨w.heap.size, 2, none⟩ = some (.int .i64 c) := by rw [R1.cell]; rfl
        have r3 : w2.cell? ⟨w.heap.size, 3, none⟩ = some (.int .i64 n) := by rw [R1.cell]; rfl
        have r4 : w2.cell? ⟨w.heap.size, 4, none⟩ = some (.int .i64 t) := by rw [R1.cell]; rfl
        have r5 : w2.cell? ⟨w.heap.size, 5, none⟩ = some (.int .i64 d) := by rw [R1.cell]; rfl
        have r6 : w2.cell? ⟨w.heap.size, 6, none⟩ = some (.int .i64 r) := by rw [R1.cell]; rfl
        have r7 : w2.cell? ⟨w.heap.size, 7, none⟩ = some (.int .i64 k) := by rw [R1.cell]; rfl
        have r8 : w2.cell? ⟨w.heap.size, 8, none⟩ = some (.int .i64 g) := by rw [R1.cell]; rfl
        have r9 : w2.cell? ⟨w.heap.size, 9, none⟩ = some (.int .u64 z) := by rw [R1.cell]; rfl
        go_wp2_with fail
        with_reducible refine (wCloses_any hf z _ hT2 x hx _ _ HC).mono ?_
        rintro e w3 ⟨rfl, hbw3⟩
        clear r0 r1 r2 r3 r4 r5 r6 r7 r8 r9
        replace R1 := R1.on hbw3
        have hby := hbx.trans (hbw3.mono hbx.size)
        go_wp2_with fail
        go_ret2
        exact ⟨rfl, hby⟩
      · rw [hz] at hR
        obtain ⟨rfl, rfl⟩ := Prod.mk.inj hR
        clear hR hz
        go_enter Tryd.func15, Tryd.ntmps15
        go_wp2_with fail
        with_reducible refine (SlotOf_any hf z _ (hT.on hA0) y hy _ _ hS).mono ?_
        rintro e w1 ⟨rfl, hb⟩
        have hbw := box_bel (by simpa using hb)
        have R1 : RowAt w1 w.heap.size 24 [.int .i64 v, .int .i64 s, .int .i64 c, .int .i64 n, .int .i64 t, .int .i64 d, .int .i64 r, .int .i64 k, .int .i64 g, .int .u64 z] := (RowAt.new w 24 #[.int .i64 v, .int .i64 s, .int .i64 c, .int .i64 n, .int .i64 t, .int .i64 d, .int .i64 r, .int .i64 k, .int .i64 g, .int .u64 z]).below hb (by simp)
        have hT1 := hT.on hbw
        have r0 : w1.cell? ⟨w.heap.size, 0, none⟩ = some (.int .i64 v) := by rw [R1.cell]; rfl
        have r1 : w1.cell? ⟨w.heap.size, 1, none⟩ = some (.int .i64 s) := by rw [R1.cell]; rfl
        have r2 : w1.cell? ⟨w.heap.size, 2, none⟩ = some (.int .i64 c) := by rw [R1.cell]; rfl
        have r3 : w1.cell? ⟨w.heap.size, 3, none⟩ = some (.int .i64 n) := by rw [R1.cell]; rfl
        have r4 : w1.cell? ⟨w.heap.size, 4, none⟩ = some (.int .i64 t) := by rw [R1.cell]; rfl
        have r5 : w1.cell? ⟨w.heap.size, 5, none⟩ = some (.int .i64 d) := by rw [R1.cell]; rfl
        have r6 : w1.cell? ⟨w.heap.size, 6, none⟩ = some (.int .i64 r) := by rw [R1.cell]; rfl
        have r7 : w1.cell? ⟨w.heap.size, 7, none⟩ = some (.int .i64 k) := by rw [R1.cell]; rfl
        have r8 : w1.cell? ⟨w.heap.size, 8, none⟩ = some (.int .i64 g) := by rw [R1.cell]; rfl
        have r9 : w1.cell? ⟨w.heap.size, 9, none⟩ = some (.int .u64 z) := by rw [R1.cell]; rfl
        go_wp2_with fail
        with_reducible refine (wOpens_any hf z _ hT1 x hx _ _ HO).mono ?_
        rintro e w2 ⟨rfl, hbw2⟩
        clear r0 r1 r2 r3 r4 r5 r6 r7 r8 r9
        replace R1 := R1.on hbw2
        have hbx := hbw.trans (hbw2.mono hbw.size)
        have hT2 := hT.on hbx
        have r0 : w2.cell? ⟨w.heap.size, 0, none⟩ = some (.int .i64 v) := by rw [R1.cell]; rfl
        have r1 : w2.cell? ⟨w.heap.size, 1, none⟩ = some (.int .i64 s) := by rw [R1.cell]; rfl
        have r2 : w2.cell? ⟨w.heap.size, 2, none⟩ = some (.int .i64 c) := by rw [R1.cell]; rfl
        have r3 : w2.cell? ⟨w.heap.size, 3, none⟩ = some (.int .i64 n) := by rw [R1.cell]; rfl
        have r4 : w2.cell? ⟨w.heap.size, 4, none⟩ = some (.int .i64 t) := by rw [R1.cell]; rfl
        have r5 : w2.cell? ⟨w.heap.size, 5, none⟩ = some (.int .i64 d) := by rw [R1.cell]; rfl
        have r6 : w2.cell? ⟨w.heap.size, 6, none⟩ = some (.int .i64 r) := by rw [R1.cell]; rfl
        have r7 : w2.cell? ⟨w.heap.size, 7, none⟩ = some (.int .i64 k) := by rw [R1.cell]; rfl
        have r8 : w2.cell? ⟨w.heap.size, 8, none⟩ = some (.int .i64 g) := by rw [R1.cell]; rfl
        have r9 : w2.cell? ⟨w.heap.size, 9, none⟩ = some (.int .u64 z) := by rw [R1.cell]; rfl
        go_wp2_with fail
        with_reducible refine (wCloses_any hf z _ hT2 x hx _ _ HC).mono ?_
        rintro e w3 ⟨rfl, hbw3⟩
        clear r0 r1 r2 r3 r4 r5 r6 r7 r8 r9
        replace R1 := R1.on hbw3
        have hby := hbx.trans (hbw3.mono hbx.size)
        go_wp2_with fail
        go_ret2
        exact ⟨rfl, hby⟩
end Go.Proofs.YtjcpeimlebpglaaDoor
