/- Package clock's contracts, and the document's: slots, epochs, their beginnings. -/
import Derived.Test.YtnibfcoecfppnaaDoorClkB
namespace Go.Proofs.YtnibfcoecfppnaaDoor
open Go.RowKit

theorem box_bel {w w1 : World} {o : Obj} (hb : Below (w.heap.size + 1) (w.alloc o) w1) : Below w.heap.size w w1 := ((Below.refl _ _).alloc (Nat.le_refl _) _).trans (hb.mono (Nat.le_succ _))
theorem fits_t {v s c n t d r k g : Int} (h : fitsC v s c n t d r k g = true) : 1 ≤ t ∧ t ≤ 1000 ∧ 1 ≤ s ∧ s ≤ 32 := by
  have := (fitsC_iff v s c n t d r k g).1 h
  omega
theorem div_bd {a b : Int} (h0 : 0 ≤ a) (h1 : a ≤ 9223372036854775807) (hb : 1 ≤ b) : 0 ≤ a / b ∧ a / b ≤ 9223372036854775807 := by
  have h2 := Int.ediv_nonneg (a := a) (b := b) h0 (by omega)
  have h3 := Int.ediv_le_self b h0
  omega
theorem slotA_no (t x : Int) : slotA false t x = (0, 1) := rfl
theorem slotA_not {t x : Int} (h : isTickB x = false) : slotA true t x = (0, 1) := by unfold slotA; rw [h]; rfl
theorem slotA_is {t x : Int} (h : isTickB x = true) : slotA true t x = (x / t, 0) := by unfold slotA; rw [h]; rfl
theorem startA_no (t x : Int) : startA false t x = (0, 1) := rfl
theorem startA_not {t x : Int} (h : x < 0) : startA true t x = (0, 1) := by unfold startA; rw [decide_eq_false (by omega)]; rfl
theorem startA_is {t x : Int} (h : 0 ≤ x) : startA true t x = productA x t := by unfold startA; rw [decide_eq_true h]; rfl
theorem epochA_no (t x : Int) : epochA false t x = (0, 1) := rfl
theorem epochA_not {t x : Int} (h : x < 0) : epochA true t x = (0, 1) := by unfold epochA; rw [decide_eq_false (by omega)]; rfl
theorem epochA_is {t x : Int} (h : 0 ≤ x) : epochA true t x = (x / t, 0) := by unfold epochA; rw [decide_eq_true h]; rfl
theorem firstA_no (s t x : Int) : firstA false s t x = (0, 1) := rfl
theorem firstA_not {s t x : Int} (h : x < 0) : firstA true s t x = (0, 1) := by unfold firstA; rw [decide_eq_false (by omega)]; rfl
theorem firstA_is {s t x : Int} (h : 0 ≤ x) : firstA true s t x = if 1099511627776 < x * s * t then (0, 8) else (x * s, 0) := by unfold firstA; rw [decide_eq_true h]; rfl
theorem forwardA_no (x b : Int) : forwardA false x b = (0, 1) := rfl
theorem forwardA_not {x b : Int} (h : isTickB x = false) : forwardA true x b = (0, 1) := by unfold forwardA; rw [h]; rfl
theorem forwardA_neg {x b : Int} (h : b < 0) : forwardA true x b = (0, 1) := by unfold forwardA; rw [decide_eq_false (show ¬ 0 ≤ b by omega), Bool.and_false]; rfl
theorem forwardA_is {x b : Int} (h : isTickB x = true) (hb : 0 ≤ b) : forwardA true x b = if 1099511627776 < x + b then (0, 8) else (x + b, 0) := by unfold forwardA; rw [h, decide_eq_true hb]; rfl
set_option maxHeartbeats 1000000 in
set_option maxRecDepth 100000 in
theorem SlotOf_any {v s c n t d r k g : Int} {fit : Bool} (hf : fitsC v s c n t d r k g = fit) (z : Int) (w : World) (hT : Spans w) (x : Int) (hx : -9223372036854775808 ≤ x ∧ x ≤ 9223372036854775807) (R E : Int) (hR : slotA fit t x = (R, E)) :
    Calls Tryd.prog 14 #[.agg #[.int .i64 v, .int .i64 s, .int .i64 c, .int .i64 n, .int .i64 t, .int .i64 d, .int .i64 r, .int .i64 k, .int .i64 g, .int .u64 z], .int .i64 x] w fun e w' => e = .returned (.tuple #[.int .i64 R, .int .i64 E]) ∧ Below w.heap.size w w' := by
  have hA0 : Below w.heap.size w (w.alloc (.cells #[.int .i64 v, .int .i64 s, .int .i64 c, .int .i64 n, .int .i64 t, .int .i64 d, .int .i64 r, .int .i64 k, .int .i64 g, .int .u64 z] 24)) := (Below.refl _ _).alloc (Nat.le_refl _) _
  cases fit
  · rw [slotA_no] at hR
    obtain ⟨rfl, rfl⟩ := Prod.mk.inj hR
    clear hR
    go_enter Tryd.func14, Tryd.ntmps14
    go_wp2_with fail
    with_reducible refine (Fits_eq hf z _ (hT.on hA0)).mono ?_
    rintro e w1 ⟨rfl, hb⟩
    go_wp2_with fail
    go_ret2
    exact ⟨rfl, box_bel (by simpa using hb)⟩
  · cases ht : isTickB x
    · rw [slotA_not ht] at hR
      obtain ⟨rfl, rfl⟩ := Prod.mk.inj hR
      clear hR
      have HTk := fun W => isTick_any x W hx
      rw [ht] at HTk
      clear ht
      go_enter Tryd.func14, Tryd.ntmps14
      go_wp2_with fail
      with_reducible refine (Fits_eq hf z _ (hT.on hA0)).mono ?_
      rintro e w1 ⟨rfl, hb⟩
      go_wp2_with ((with_reducible refine (HTk _).mono ?_); rintro e w_ ⟨rfl, rfl⟩)
      go_ret2
      exact ⟨rfl, box_bel (by simpa using hb)⟩
    · rw [slotA_is ht] at hR
      obtain ⟨rfl, rfl⟩ := Prod.mk.inj hR
      clear hR
      have HTk := fun W => isTick_any x W hx
      rw [ht] at HTk
      obtain ⟨hx0, hx1⟩ := (isTickB_iff x).1 ht
      obtain ⟨ht1, ht2, hs1, hs2⟩ := fits_t hf
      have hdv := div_bd hx0 hx.2 ht1
      clear ht
      go_enter Tryd.func14, Tryd.ntmps14
      go_wp2_with fail
      with_reducible refine (Fits_eq hf z _ (hT.on hA0)).mono ?_
      rintro e w1 ⟨rfl, hb⟩
      have hbw := box_bel (by simpa using hb)
      have R1 : RowAt w1 w.heap.size 24 _ := (RowAt.new w 24 #[.int .i64 v, .int .i64 s, .int .i64 c, .int .i64 n, .int .i64 t, .int .i64 d, .int .i64 r, .int .i64 k, .int .i64 g, .int .u64 z]).below hb (by simp)
      have r4 : w1.cell? ⟨w.heap.size, 4, none⟩ = some (.int .i64 t) := by rw [R1.cell]; rfl
      go_wp2_with ((with_reducible refine (HTk _).mono ?_); rintro e w_ ⟨rfl, rfl⟩)
      go_ret2
      exact ⟨rfl, hbw⟩

set_option maxHeartbeats 1000000 in
set_option maxRecDepth 100000 in
theorem EpochOf_any {v s c n t d r k g : Int} {fit : Bool} (hf : fitsC v s c n t d r k g = fit) (z : Int) (w : World) (hT : Spans w) (x : Int) (hx : -9223372036854775808 ≤ x ∧ x ≤ 9223372036854775807) (R E : Int) (hR : epochA fit s x = (R, E)) :
    Calls Tryd.prog 18 #[.agg #[.int .i64 v, .int .i64 s, .int .i64 c, .int .i64 n, .int .i64 t, .int .i64 d, .int .i64 r, .int .i64 k, .int .i64 g, .int .u64 z], .int .i64 x] w fun e w' => e = .returned (.tuple #[.int .i64 R, .int .i64 E]) ∧ Below w.heap.size w w' := by
  have hA0 : Below w.heap.size w (w.alloc (.cells #[.int .i64 v, .int .i64 s, .int .i64 c, .int .i64 n, .int .i64 t, .int .i64 d, .int .i64 r, .int .i64 k, .int .i64 g, .int .u64 z] 24)) := (Below.refl _ _).alloc (Nat.le_refl _) _
  cases fit
  · rw [epochA_no] at hR
    obtain ⟨rfl, rfl⟩ := Prod.mk.inj hR
    clear hR
    go_enter Tryd.func18, Tryd.ntmps18
    go_wp2_with fail
    with_reducible refine (Fits_eq hf z _ (hT.on hA0)).mono ?_
    rintro e w1 ⟨rfl, hb⟩
    go_wp2_with fail
    go_ret2
    exact ⟨rfl, box_bel (by simpa using hb)⟩
  · by_cases h0 : x < 0
    · rw [epochA_not h0] at hR
      obtain ⟨rfl, rfl⟩ := Prod.mk.inj hR
      clear hR
      go_enter Tryd.func18, Tryd.ntmps18
      go_wp2_with fail
      with_reducible refine (Fits_eq hf z _ (hT.on hA0)).mono ?_
      rintro e w1 ⟨rfl, hb⟩
      go_wp2_with fail
      go_ret2
      exact ⟨rfl, box_bel (by simpa using hb)⟩
    · rw [epochA_is (by omega)] at hR
      obtain ⟨rfl, rfl⟩ := Prod.mk.inj hR
      clear hR
      obtain ⟨ht1, ht2, hs1, hs2⟩ := fits_t hf
      have hx0 : 0 ≤ x := by omega
      have hdv := div_bd hx0 hx.2 hs1
      go_enter Tryd.func18, Tryd.ntmps18
      go_wp2_with fail
      with_reducible refine (Fits_eq hf z _ (hT.on hA0)).mono ?_
      rintro e w1 ⟨rfl, hb⟩
      have hbw := box_bel (by simpa using hb)
      have R1 : RowAt w1 w.heap.size 24 _ := (RowAt.new w 24 #[.int .i64 v, .int .i64 s, .int .i64 c, .int .i64 n, .int .i64 t, .int .i64 d, .int .i64 r, .int .i64 k, .int .i64 g, .int .u64 z]).below hb (by simp)
      have r1 : w1.cell? ⟨w.heap.size, 1, none⟩ = some (.int .i64 s) := by rw [R1.cell]; rfl
      go_wp2_with fail
      go_ret2
      exact ⟨rfl, hbw⟩

set_option maxHeartbeats 1000000 in
set_option maxRecDepth 100000 in
theorem Start_any {v s c n t d r k g : Int} {fit : Bool} (hf : fitsC v s c n t d r k g = fit) (z : Int) (w : World) (hT : Spans w) (x : Int) (hx : -9223372036854775808 ≤ x ∧ x ≤ 9223372036854775807) (R E : Int) (hR : startA fit t x = (R, E)) :
    Calls Tryd.prog 16 #[.agg #[.int .i64 v, .int .i64 s, .int .i64 c, .int .i64 n, .int .i64 t, .int .i64 d, .int .i64 r, .int .i64 k, .int .i64 g, .int .u64 z], .int .i64 x] w fun e w' => e = .returned (.tuple #[.int .i64 R, .int .i64 E]) ∧ Below w.heap.size w w' := by
  have hA0 : Below w.heap.size w (w.alloc (.cells #[.int .i64 v, .int .i64 s, .int .i64 c, .int .i64 n, .int .i64 t, .int .i64 d, .int .i64 r, .int .i64 k, .int .i64 g, .int .u64 z] 24)) := (Below.refl _ _).alloc (Nat.le_refl _) _
  cases fit
  · rw [startA_no] at hR
    obtain ⟨rfl, rfl⟩ := Prod.mk.inj hR
    clear hR
    go_enter Tryd.func16, Tryd.ntmps16
    go_wp2_with fail
    with_reducible refine (Fits_eq hf z _ (hT.on hA0)).mono ?_
    rintro e w1 ⟨rfl, hb⟩
    go_wp2_with fail
    go_ret2
    exact ⟨rfl, box_bel (by simpa using hb)⟩
  · by_cases h0 : x < 0
    · rw [startA_not h0] at hR
      obtain ⟨rfl, rfl⟩ := Prod.mk.inj hR
      clear hR
      go_enter Tryd.func16, Tryd.ntmps16
      go_wp2_with fail
      with_reducible refine (Fits_eq hf z _ (hT.on hA0)).mono ?_
      rintro e w1 ⟨rfl, hb⟩
      go_wp2_with fail
      go_ret2
      exact ⟨rfl, box_bel (by simpa using hb)⟩
    · rw [startA_is (by omega)] at hR
      obtain ⟨ht1, ht2, hs1, hs2⟩ := fits_t hf
      have HP := fun W => product_any x t W ⟨by omega, hx.2⟩ ⟨ht1, ht2⟩ R E hR
      clear hR
      go_enter Tryd.func16, Tryd.ntmps16
      go_wp2_with fail
      with_reducible refine (Fits_eq hf z _ (hT.on hA0)).mono ?_
      rintro e w1 ⟨rfl, hb⟩
      have hbw := box_bel (by simpa using hb)
      have R1 : RowAt w1 w.heap.size 24 _ := (RowAt.new w 24 #[.int .i64 v, .int .i64 s, .int .i64 c, .int .i64 n, .int .i64 t, .int .i64 d, .int .i64 r, .int .i64 k, .int .i64 g, .int .u64 z]).below hb (by simp)
      have r4 : w1.cell? ⟨w.heap.size, 4, none⟩ = some (.int .i64 t) := by rw [R1.cell]; rfl
      go_wp2_with ((with_reducible refine (HP _).mono ?_); rintro e w_ ⟨rfl, rfl⟩)
      go_ret2
      exact ⟨rfl, hbw⟩

set_option maxHeartbeats 1000000 in
set_option maxRecDepth 100000 in
theorem First_any {v s c n t d r k g : Int} {fit : Bool} (hf : fitsC v s c n t d r k g = fit) (z : Int) (w : World) (hT : Spans w) (x : Int) (hx : -9223372036854775808 ≤ x ∧ x ≤ 9223372036854775807) (R E : Int) (hR : firstA fit s t x = (R, E)) :
    Calls Tryd.prog 20 #[.agg #[.int .i64 v, .int .i64 s, .int .i64 c, .int .i64 n, .int .i64 t, .int .i64 d, .int .i64 r, .int .i64 k, .int .i64 g, .int .u64 z], .int .i64 x] w fun e w' => e = .returned (.tuple #[.int .i64 R, .int .i64 E]) ∧ Below w.heap.size w w' := by
  have hA0 : Below w.heap.size w (w.alloc (.cells #[.int .i64 v, .int .i64 s, .int .i64 c, .int .i64 n, .int .i64 t, .int .i64 d, .int .i64 r, .int .i64 k, .int .i64 g, .int .u64 z] 24)) := (Below.refl _ _).alloc (Nat.le_refl _) _
  cases fit
  · rw [firstA_no] at hR
    obtain ⟨rfl, rfl⟩ := Prod.mk.inj hR
    clear hR
    go_enter Tryd.func20, Tryd.ntmps20
    go_wp2_with fail
    with_reducible refine (Fits_eq hf z _ (hT.on hA0)).mono ?_
    rintro e w1 ⟨rfl, hb⟩
    go_wp2_with fail
    go_ret2
    exact ⟨rfl, box_bel (by simpa using hb)⟩
  · by_cases h0 : x < 0
    · rw [firstA_not h0] at hR
      obtain ⟨rfl, rfl⟩ := Prod.mk.inj hR
      clear hR
      go_enter Tryd.func20, Tryd.ntmps20
      go_wp2_with fail
      with_reducible refine (Fits_eq hf z _ (hT.on hA0)).mono ?_
      rintro e w1 ⟨rfl, hb⟩
      go_wp2_with fail
      go_ret2
      exact ⟨rfl, box_bel (by simpa using hb)⟩
    · rw [firstA_is (by omega)] at hR
      obtain ⟨ht1, ht2, hs1, hs2⟩ := fits_t hf
      have hx0 : 0 ≤ x := by omega
      have hp := prod_le hx0 hs1
      have hp2 := prod_le (show 0 ≤ x * s by omega) ht1
      by_cases hm : 1099511627776 < x * s
      · rw [if_pos (by omega)] at hR
        have HP := fun W => product_any x s W ⟨hx0, hx.2⟩ ⟨hs1, by omega⟩ 0 8 (by unfold productA; rw [if_pos hm])
        obtain ⟨rfl, rfl⟩ := Prod.mk.inj hR
        clear hR
        go_enter Tryd.func20, Tryd.ntmps20
        go_wp2_with fail
        with_reducible refine (Fits_eq hf z _ (hT.on hA0)).mono ?_
        rintro e w1 ⟨rfl, hb⟩
        have hbw := box_bel (by simpa using hb)
        have R1 : RowAt w1 w.heap.size 24 _ := (RowAt.new w 24 #[.int .i64 v, .int .i64 s, .int .i64 c, .int .i64 n, .int .i64 t, .int .i64 d, .int .i64 r, .int .i64 k, .int .i64 g, .int .u64 z]).below hb (by simp)
        have r1 : w1.cell? ⟨w.heap.size, 1, none⟩ = some (.int .i64 s) := by rw [R1.cell]; rfl
        go_wp2_with ((with_reducible refine (HP _).mono ?_); rintro e w_ ⟨rfl, rfl⟩)
        go_ret2
        exact ⟨rfl, hbw⟩
      · have HP := fun W => product_any x s W ⟨hx0, hx.2⟩ ⟨hs1, by omega⟩ (x * s) 0 (by unfold productA; rw [if_neg hm])
        by_cases hq : 1099511627776 < x * s * t
        · rw [if_pos hq] at hR
          have HS := fun W (h : Spans W) => Start_any hf z W h (x * s) ⟨by omega, by omega⟩ 0 8 (by rw [startA_is (by omega)]; unfold productA; rw [if_pos hq])
          obtain ⟨rfl, rfl⟩ := Prod.mk.inj hR
          clear hR
          go_enter Tryd.func20, Tryd.ntmps20
          go_wp2_with fail
          with_reducible refine (Fits_eq hf z _ (hT.on hA0)).mono ?_
          rintro e w1 ⟨rfl, hb⟩
          have hbw := box_bel (by simpa using hb)
          have R1 : RowAt w1 w.heap.size 24 _ := (RowAt.new w 24 #[.int .i64 v, .int .i64 s, .int .i64 c, .int .i64 n, .int .i64 t, .int .i64 d, .int .i64 r, .int .i64 k, .int .i64 g, .int .u64 z]).below hb (by simp)
          have r0 : w1.cell? ⟨w.heap.size, 0, none⟩ = some (.int .i64 v) := by rw [R1.cell]; rfl
          have r1 : w1.cell? ⟨w.heap.size, 1, none⟩ = some (.int .i64 s) := by rw [R1.cell]; rfl
          have r2 : w1.cell? ⟨w.heap.size, 2, none⟩ = some (.int .i64 c) := by rw [R1.cell]; rfl
          have r3 : w1.cell? ⟨w.heap.size, 3, none⟩ = some (.int .i64 n) := by rw [R1.cell]; rfl
          have r4 : w1.cell? ⟨w.heap.size, 4, none⟩ = some (.int .i64 t) := by rw [R1.cell]; rfl
          have r5 : w1.cell? ⟨w.heap.size, 5, none⟩ = some (.int .i64 d) := by rw [R1.cell]; rfl
          have r6 : w1.cell? ⟨w.heap.size, 6, none⟩ = some (.int .i64 r) := by rw [R1.cell]; rfl
          have r7 : w1.cell? ⟨w.heap.size, 7, none⟩ = some (.int .i64 k) := by rw [R1.cell]; rfl
          have r8 : w1.cell? ⟨w.heap.size, 8, none⟩ = some (.int .i64 g) := by rw [R1.cell]; rfl
          have r9 : w1.cell? ⟨w.heap.size, 9, none⟩ = some (.int .u64 z) := by rw [R1.cell]; rfl
          have hT1 := hT.on hbw
          have HB := bcell hbw
          go_wp2_with ((with_reducible refine (HP _).mono ?_); rintro e w_ ⟨rfl, rfl⟩)
          with_reducible refine (HS _ hT1).mono ?_
          rintro e w2 ⟨rfl, hb2⟩
          have hbw2 := hbw.trans (hb2.mono hbw.size)
          go_wp2_with fail
          go_ret2
          exact ⟨rfl, hbw2⟩
        · rw [if_neg hq] at hR
          have HS := fun W (h : Spans W) => Start_any hf z W h (x * s) ⟨by omega, by omega⟩ (x * s * t) 0 (by rw [startA_is (by omega)]; unfold productA; rw [if_neg hq])
          obtain ⟨rfl, rfl⟩ := Prod.mk.inj hR
          clear hR
          go_enter Tryd.func20, Tryd.ntmps20
          go_wp2_with fail
          with_reducible refine (Fits_eq hf z _ (hT.on hA0)).mono ?_
          rintro e w1 ⟨rfl, hb⟩
          have hbw := box_bel (by simpa using hb)
          have R1 : RowAt w1 w.heap.size 24 _ := (RowAt.new w 24 #[.int .i64 v, .int .i64 s, .int .i64 c, .int .i64 n, .int .i64 t, .int .i64 d, .int .i64 r, .int .i64 k, .int .i64 g, .int .u64 z]).below hb (by simp)
          have r0 : w1.cell? ⟨w.heap.size, 0, none⟩ = some (.int .i64 v) := by rw [R1.cell]; rfl
          have r1 : w1.cell? ⟨w.heap.size, 1, none⟩ = some (.int .i64 s) := by rw [R1.cell]; rfl
          have r2 : w1.cell? ⟨w.heap.size, 2, none⟩ = some (.int .i64 c) := by rw [R1.cell]; rfl
          have r3 : w1.cell? ⟨w.heap.size, 3, none⟩ = some (.int .i64 n) := by rw [R1.cell]; rfl
          have r4 : w1.cell? ⟨w.heap.size, 4, none⟩ = some (.int .i64 t) := by rw [R1.cell]; rfl
          have r5 : w1.cell? ⟨w.heap.size, 5, none⟩ = some (.int .i64 d) := by rw [R1.cell]; rfl
          have r6 : w1.cell? ⟨w.heap.size, 6, none⟩ = some (.int .i64 r) := by rw [R1.cell]; rfl
          have r7 : w1.cell? ⟨w.heap.size, 7, none⟩ = some (.int .i64 k) := by rw [R1.cell]; rfl
          have r8 : w1.cell? ⟨w.heap.size, 8, none⟩ = some (.int .i64 g) := by rw [R1.cell]; rfl
          have r9 : w1.cell? ⟨w.heap.size, 9, none⟩ = some (.int .u64 z) := by rw [R1.cell]; rfl
          have hT1 := hT.on hbw
          go_wp2_with ((with_reducible refine (HP _).mono ?_); rintro e w_ ⟨rfl, rfl⟩)
          with_reducible refine (HS _ hT1).mono ?_
          rintro e w2 ⟨rfl, hb2⟩
          have hbw2 := hbw.trans (hb2.mono hbw.size)
          go_wp2_with fail
          go_ret2
          exact ⟨rfl, hbw2⟩

set_option maxHeartbeats 1000000 in
set_option maxRecDepth 100000 in
theorem Forward_any {v s c n t d r k g : Int} {fit : Bool} (hf : fitsC v s c n t d r k g = fit) (z : Int) (w : World) (hT : Spans w) (x b : Int) (hx : -9223372036854775808 ≤ x ∧ x ≤ 9223372036854775807) (hb9 : -9223372036854775808 ≤ b ∧ b ≤ 9223372036854775807) (R E : Int) (hR : forwardA fit x b = (R, E)) :
    Calls Tryd.prog 22 #[.agg #[.int .i64 v, .int .i64 s, .int .i64 c, .int .i64 n, .int .i64 t, .int .i64 d, .int .i64 r, .int .i64 k, .int .i64 g, .int .u64 z], .int .i64 x, .int .i64 b] w fun e w' => e = .returned (.tuple #[.int .i64 R, .int .i64 E]) ∧ Below w.heap.size w w' := by
  have hA0 : Below w.heap.size w (w.alloc (.cells #[.int .i64 v, .int .i64 s, .int .i64 c, .int .i64 n, .int .i64 t, .int .i64 d, .int .i64 r, .int .i64 k, .int .i64 g, .int .u64 z] 24)) := (Below.refl _ _).alloc (Nat.le_refl _) _
  cases fit
  · rw [forwardA_no] at hR
    obtain ⟨rfl, rfl⟩ := Prod.mk.inj hR
    clear hR
    go_enter Tryd.func22, Tryd.ntmps22
    go_wp2_with fail
    with_reducible refine (Fits_eq hf z _ (hT.on hA0)).mono ?_
    rintro e w1 ⟨rfl, hb⟩
    go_wp2_with fail
    go_ret2
    exact ⟨rfl, box_bel (by simpa using hb)⟩
  · cases ht : isTickB x
    · rw [forwardA_not ht] at hR
      obtain ⟨rfl, rfl⟩ := Prod.mk.inj hR
      clear hR
      have HTk := fun W => isTick_any x W hx
      rw [ht] at HTk
      clear ht
      go_enter Tryd.func22, Tryd.ntmps22
      go_wp2_with fail
      with_reducible refine (Fits_eq hf z _ (hT.on hA0)).mono ?_
      rintro e w1 ⟨rfl, hb⟩
      go_wp2_with ((with_reducible refine (HTk _).mono ?_); rintro e w_ ⟨rfl, rfl⟩)
      go_ret2
      exact ⟨rfl, box_bel (by simpa using hb)⟩
    · have HTk := fun W => isTick_any x W hx
      rw [ht] at HTk
      obtain ⟨hx0, hx1⟩ := (isTickB_iff x).1 ht
      by_cases h0 : b < 0
      · rw [forwardA_neg h0] at hR
        obtain ⟨rfl, rfl⟩ := Prod.mk.inj hR
        clear hR
        clear ht
        go_enter Tryd.func22, Tryd.ntmps22
        go_wp2_with fail
        with_reducible refine (Fits_eq hf z _ (hT.on hA0)).mono ?_
        rintro e w1 ⟨rfl, hb⟩
        go_wp2_with ((with_reducible refine (HTk _).mono ?_); rintro e w_ ⟨rfl, rfl⟩)
        go_ret2
        exact ⟨rfl, box_bel (by simpa using hb)⟩
      · rw [forwardA_is ht (by omega)] at hR
        by_cases hm : 1099511627776 < x + b
        · rw [if_pos hm] at hR
          obtain ⟨rfl, rfl⟩ := Prod.mk.inj hR
          clear hR
          have hmm : 1099511627776 - x < b := by omega
          clear ht
          go_enter Tryd.func22, Tryd.ntmps22
          go_wp2_with fail
          with_reducible refine (Fits_eq hf z _ (hT.on hA0)).mono ?_
          rintro e w1 ⟨rfl, hb⟩
          go_wp2_with ((with_reducible refine (HTk _).mono ?_); rintro e w_ ⟨rfl, rfl⟩)
          go_ret2
          exact ⟨rfl, box_bel (by simpa using hb)⟩
        · rw [if_neg hm] at hR
          obtain ⟨rfl, rfl⟩ := Prod.mk.inj hR
          clear hR
          clear ht
          go_enter Tryd.func22, Tryd.ntmps22
          go_wp2_with fail
          with_reducible refine (Fits_eq hf z _ (hT.on hA0)).mono ?_
          rintro e w1 ⟨rfl, hb⟩
          go_wp2_with ((with_reducible refine (HTk _).mono ?_); rintro e w_ ⟨rfl, rfl⟩)
          go_ret2
          exact ⟨rfl, box_bel (by simpa using hb)⟩

set_option maxHeartbeats 1000000 in
set_option maxRecDepth 100000 in
theorem rSlotOf_any {v s c n t d r k g : Int} {fit : Bool} (hf : fitsC v s c n t d r k g = fit) (z : Int) (w : World) (x : Int) (hx : -9223372036854775808 ≤ x ∧ x ≤ 9223372036854775807) (R E : Int) (hR : slotA fit t x = (R, E)) :
    Calls Tryd.prog 15 #[.agg #[.int .i64 v, .int .i64 s, .int .i64 c, .int .i64 n, .int .i64 t, .int .i64 d, .int .i64 r, .int .i64 k, .int .i64 g, .int .u64 z], .int .i64 x] w fun e w' => e = .returned (.tuple #[.int .i64 R, .int .i64 E]) ∧ Below w.heap.size w w' := by
  have hA0 : Below w.heap.size w (w.alloc (.cells #[.int .i64 v, .int .i64 s, .int .i64 c, .int .i64 n, .int .i64 t, .int .i64 d, .int .i64 r, .int .i64 k, .int .i64 g, .int .u64 z] 24)) := (Below.refl _ _).alloc (Nat.le_refl _) _
  cases fit
  · rw [slotA_no] at hR
    obtain ⟨rfl, rfl⟩ := Prod.mk.inj hR
    clear hR
    go_enter Tryd.func15, Tryd.ntmps15
    go_wp2_with fail
    with_reducible refine (rFits_eq hf z _).mono ?_
    rintro e w1 ⟨rfl, hb⟩
    go_wp2_with fail
    go_ret2
    exact ⟨rfl, box_bel (by simpa using hb)⟩
  · cases ht : isTickB x
    · rw [slotA_not ht] at hR
      obtain ⟨rfl, rfl⟩ := Prod.mk.inj hR
      clear hR
      have HTk := fun W => rtick_any x W hx
      rw [ht] at HTk
      clear ht
      go_enter Tryd.func15, Tryd.ntmps15
      go_wp2_with fail
      with_reducible refine (rFits_eq hf z _).mono ?_
      rintro e w1 ⟨rfl, hb⟩
      go_wp2_with ((with_reducible refine (HTk _).mono ?_); rintro e w_ ⟨rfl, rfl⟩)
      go_ret2
      exact ⟨rfl, box_bel (by simpa using hb)⟩
    · rw [slotA_is ht] at hR
      obtain ⟨rfl, rfl⟩ := Prod.mk.inj hR
      clear hR
      have HTk := fun W => rtick_any x W hx
      rw [ht] at HTk
      obtain ⟨hx0, hx1⟩ := (isTickB_iff x).1 ht
      obtain ⟨ht1, ht2, hs1, hs2⟩ := fits_t hf
      have hdv := div_bd hx0 hx.2 ht1
      clear ht
      go_enter Tryd.func15, Tryd.ntmps15
      go_wp2_with fail
      with_reducible refine (rFits_eq hf z _).mono ?_
      rintro e w1 ⟨rfl, hb⟩
      have hbw := box_bel (by simpa using hb)
      have R1 : RowAt w1 w.heap.size 24 _ := (RowAt.new w 24 #[.int .i64 v, .int .i64 s, .int .i64 c, .int .i64 n, .int .i64 t, .int .i64 d, .int .i64 r, .int .i64 k, .int .i64 g, .int .u64 z]).below hb (by simp)
      have r4 : w1.cell? ⟨w.heap.size, 4, none⟩ = some (.int .i64 t) := by rw [R1.cell]; rfl
      go_wp2_with ((with_reducible refine (HTk _).mono ?_); rintro e w_ ⟨rfl, rfl⟩)
      go_ret2
      exact ⟨rfl, hbw⟩

set_option maxHeartbeats 1000000 in
set_option maxRecDepth 100000 in
theorem rEpochOf_any {v s c n t d r k g : Int} {fit : Bool} (hf : fitsC v s c n t d r k g = fit) (z : Int) (w : World) (x : Int) (hx : -9223372036854775808 ≤ x ∧ x ≤ 9223372036854775807) (R E : Int) (hR : epochA fit s x = (R, E)) :
    Calls Tryd.prog 19 #[.agg #[.int .i64 v, .int .i64 s, .int .i64 c, .int .i64 n, .int .i64 t, .int .i64 d, .int .i64 r, .int .i64 k, .int .i64 g, .int .u64 z], .int .i64 x] w fun e w' => e = .returned (.tuple #[.int .i64 R, .int .i64 E]) ∧ Below w.heap.size w w' := by
  have hA0 : Below w.heap.size w (w.alloc (.cells #[.int .i64 v, .int .i64 s, .int .i64 c, .int .i64 n, .int .i64 t, .int .i64 d, .int .i64 r, .int .i64 k, .int .i64 g, .int .u64 z] 24)) := (Below.refl _ _).alloc (Nat.le_refl _) _
  cases fit
  · rw [epochA_no] at hR
    obtain ⟨rfl, rfl⟩ := Prod.mk.inj hR
    clear hR
    go_enter Tryd.func19, Tryd.ntmps19
    go_wp2_with fail
    with_reducible refine (rFits_eq hf z _).mono ?_
    rintro e w1 ⟨rfl, hb⟩
    go_wp2_with fail
    go_ret2
    exact ⟨rfl, box_bel (by simpa using hb)⟩
  · by_cases h0 : x < 0
    · rw [epochA_not h0] at hR
      obtain ⟨rfl, rfl⟩ := Prod.mk.inj hR
      clear hR
      go_enter Tryd.func19, Tryd.ntmps19
      go_wp2_with fail
      with_reducible refine (rFits_eq hf z _).mono ?_
      rintro e w1 ⟨rfl, hb⟩
      go_wp2_with fail
      go_ret2
      exact ⟨rfl, box_bel (by simpa using hb)⟩
    · rw [epochA_is (by omega)] at hR
      obtain ⟨rfl, rfl⟩ := Prod.mk.inj hR
      clear hR
      obtain ⟨ht1, ht2, hs1, hs2⟩ := fits_t hf
      have hx0 : 0 ≤ x := by omega
      have hdv := div_bd hx0 hx.2 hs1
      go_enter Tryd.func19, Tryd.ntmps19
      go_wp2_with fail
      with_reducible refine (rFits_eq hf z _).mono ?_
      rintro e w1 ⟨rfl, hb⟩
      have hbw := box_bel (by simpa using hb)
      have R1 : RowAt w1 w.heap.size 24 _ := (RowAt.new w 24 #[.int .i64 v, .int .i64 s, .int .i64 c, .int .i64 n, .int .i64 t, .int .i64 d, .int .i64 r, .int .i64 k, .int .i64 g, .int .u64 z]).below hb (by simp)
      have r1 : w1.cell? ⟨w.heap.size, 1, none⟩ = some (.int .i64 s) := by rw [R1.cell]; rfl
      go_wp2_with fail
      go_ret2
      exact ⟨rfl, hbw⟩

set_option maxHeartbeats 1000000 in
set_option maxRecDepth 100000 in
theorem rStart_any {v s c n t d r k g : Int} {fit : Bool} (hf : fitsC v s c n t d r k g = fit) (z : Int) (w : World) (x : Int) (hx : -9223372036854775808 ≤ x ∧ x ≤ 9223372036854775807) (R E : Int) (hR : startA fit t x = (R, E)) :
    Calls Tryd.prog 17 #[.agg #[.int .i64 v, .int .i64 s, .int .i64 c, .int .i64 n, .int .i64 t, .int .i64 d, .int .i64 r, .int .i64 k, .int .i64 g, .int .u64 z], .int .i64 x] w fun e w' => e = .returned (.tuple #[.int .i64 R, .int .i64 E]) ∧ Below w.heap.size w w' := by
  have hA0 : Below w.heap.size w (w.alloc (.cells #[.int .i64 v, .int .i64 s, .int .i64 c, .int .i64 n, .int .i64 t, .int .i64 d, .int .i64 r, .int .i64 k, .int .i64 g, .int .u64 z] 24)) := (Below.refl _ _).alloc (Nat.le_refl _) _
  cases fit
  · rw [startA_no] at hR
    obtain ⟨rfl, rfl⟩ := Prod.mk.inj hR
    clear hR
    go_enter Tryd.func17, Tryd.ntmps17
    go_wp2_with fail
    with_reducible refine (rFits_eq hf z _).mono ?_
    rintro e w1 ⟨rfl, hb⟩
    go_wp2_with fail
    go_ret2
    exact ⟨rfl, box_bel (by simpa using hb)⟩
  · by_cases h0 : x < 0
    · rw [startA_not h0] at hR
      obtain ⟨rfl, rfl⟩ := Prod.mk.inj hR
      clear hR
      go_enter Tryd.func17, Tryd.ntmps17
      go_wp2_with fail
      with_reducible refine (rFits_eq hf z _).mono ?_
      rintro e w1 ⟨rfl, hb⟩
      go_wp2_with fail
      go_ret2
      exact ⟨rfl, box_bel (by simpa using hb)⟩
    · rw [startA_is (by omega)] at hR
      unfold productA at hR
      obtain ⟨ht1, ht2, hs1, hs2⟩ := fits_t hf
      have hx0 : 0 ≤ x := by omega
      have hp := prod_le hx0 ht1
      by_cases hk : isTickB x = true
      · have HTk := fun W => rtick_any x W hx
        rw [hk] at HTk
        obtain ⟨hk0, hk1⟩ := (isTickB_iff x).1 hk
        have hq : x * t ≤ 1099511627776000 := Int.le_trans (Int.mul_le_mul_of_nonneg_right hk1 (by omega)) (by omega)
        by_cases hm : 1099511627776 < x * t
        · rw [if_pos hm] at hR
          have HTm := fun W => rtick_any (x * t) W ⟨by omega, by omega⟩
          rw [(isTickB_no (x * t)).2 (by omega)] at HTm
          obtain ⟨rfl, rfl⟩ := Prod.mk.inj hR
          clear hR
          clear hk
          go_enter Tryd.func17, Tryd.ntmps17
          go_wp2_with fail
          with_reducible refine (rFits_eq hf z _).mono ?_
          rintro e w1 ⟨rfl, hb⟩
          have hbw := box_bel (by simpa using hb)
          have R1 : RowAt w1 w.heap.size 24 _ := (RowAt.new w 24 #[.int .i64 v, .int .i64 s, .int .i64 c, .int .i64 n, .int .i64 t, .int .i64 d, .int .i64 r, .int .i64 k, .int .i64 g, .int .u64 z]).below hb (by simp)
          have r4 : w1.cell? ⟨w.heap.size, 4, none⟩ = some (.int .i64 t) := by rw [R1.cell]; rfl
          go_wp2_with (first | ((with_reducible refine (HTk _).mono ?_); rintro e w_ ⟨rfl, rfl⟩) | ((with_reducible refine (HTm _).mono ?_); rintro e w_ ⟨rfl, rfl⟩))
          go_ret2
          exact ⟨rfl, hbw⟩
        · rw [if_neg hm] at hR
          have HTm := fun W => rtick_any (x * t) W ⟨by omega, by omega⟩
          rw [(isTickB_iff (x * t)).2 ⟨by omega, by omega⟩] at HTm
          obtain ⟨rfl, rfl⟩ := Prod.mk.inj hR
          clear hR
          clear hk
          go_enter Tryd.func17, Tryd.ntmps17
          go_wp2_with fail
          with_reducible refine (rFits_eq hf z _).mono ?_
          rintro e w1 ⟨rfl, hb⟩
          have hbw := box_bel (by simpa using hb)
          have R1 : RowAt w1 w.heap.size 24 _ := (RowAt.new w 24 #[.int .i64 v, .int .i64 s, .int .i64 c, .int .i64 n, .int .i64 t, .int .i64 d, .int .i64 r, .int .i64 k, .int .i64 g, .int .u64 z]).below hb (by simp)
          have r4 : w1.cell? ⟨w.heap.size, 4, none⟩ = some (.int .i64 t) := by rw [R1.cell]; rfl
          go_wp2_with (first | ((with_reducible refine (HTk _).mono ?_); rintro e w_ ⟨rfl, rfl⟩) | ((with_reducible refine (HTm _).mono ?_); rintro e w_ ⟨rfl, rfl⟩))
          go_ret2
          exact ⟨rfl, hbw⟩
      · have hk' : isTickB x = false := by simpa using hk
        have := (isTickB_no x).1 hk'
        rw [if_pos (by omega)] at hR
        have HTk := fun W => rtick_any x W hx
        rw [hk'] at HTk
        obtain ⟨rfl, rfl⟩ := Prod.mk.inj hR
        clear hR
        clear hk hk'
        go_enter Tryd.func17, Tryd.ntmps17
        go_wp2_with fail
        with_reducible refine (rFits_eq hf z _).mono ?_
        rintro e w1 ⟨rfl, hb⟩
        go_wp2_with ((with_reducible refine (HTk _).mono ?_); rintro e w_ ⟨rfl, rfl⟩)
        go_ret2
        exact ⟨rfl, box_bel (by simpa using hb)⟩

set_option maxHeartbeats 1000000 in
set_option maxRecDepth 100000 in
theorem rFirst_any {v s c n t d r k g : Int} {fit : Bool} (hf : fitsC v s c n t d r k g = fit) (z : Int) (w : World) (x : Int) (hx : -9223372036854775808 ≤ x ∧ x ≤ 9223372036854775807) (R E : Int) (hR : firstA fit s t x = (R, E)) :
    Calls Tryd.prog 21 #[.agg #[.int .i64 v, .int .i64 s, .int .i64 c, .int .i64 n, .int .i64 t, .int .i64 d, .int .i64 r, .int .i64 k, .int .i64 g, .int .u64 z], .int .i64 x] w fun e w' => e = .returned (.tuple #[.int .i64 R, .int .i64 E]) ∧ Below w.heap.size w w' := by
  have hA0 : Below w.heap.size w (w.alloc (.cells #[.int .i64 v, .int .i64 s, .int .i64 c, .int .i64 n, .int .i64 t, .int .i64 d, .int .i64 r, .int .i64 k, .int .i64 g, .int .u64 z] 24)) := (Below.refl _ _).alloc (Nat.le_refl _) _
  cases fit
  · rw [firstA_no] at hR
    obtain ⟨rfl, rfl⟩ := Prod.mk.inj hR
    clear hR
    go_enter Tryd.func21, Tryd.ntmps21
    go_wp2_with fail
    with_reducible refine (rFits_eq hf z _).mono ?_
    rintro e w1 ⟨rfl, hb⟩
    go_wp2_with fail
    go_ret2
    exact ⟨rfl, box_bel (by simpa using hb)⟩
  · by_cases h0 : x < 0
    · rw [firstA_not h0] at hR
      obtain ⟨rfl, rfl⟩ := Prod.mk.inj hR
      clear hR
      go_enter Tryd.func21, Tryd.ntmps21
      go_wp2_with fail
      with_reducible refine (rFits_eq hf z _).mono ?_
      rintro e w1 ⟨rfl, hb⟩
      go_wp2_with fail
      go_ret2
      exact ⟨rfl, box_bel (by simpa using hb)⟩
    · rw [firstA_is (by omega)] at hR
      obtain ⟨ht1, ht2, hs1, hs2⟩ := fits_t hf
      have hx0 : 0 ≤ x := by omega
      have hp := prod_le hx0 hs1
      have hp2 := prod_le (show 0 ≤ x * s by omega) ht1
      by_cases hk : isTickB x = true
      · have HTk := fun W => rtick_any x W hx
        rw [hk] at HTk
        obtain ⟨hk0, hk1⟩ := (isTickB_iff x).1 hk
        have hq9 : x * s ≤ 1099511627776000 := Int.le_trans (Int.mul_le_mul_of_nonneg_right hk1 (by omega)) (by omega)
        by_cases hq : 1099511627776 < x * s * t
        · rw [if_pos hq] at hR
          have HS := fun W => rStart_any hf z W (x * s) ⟨by omega, by omega⟩ 0 8 (by rw [startA_is (by omega)]; unfold productA; rw [if_pos hq])
          obtain ⟨rfl, rfl⟩ := Prod.mk.inj hR
          clear hR
          clear hk
          go_enter Tryd.func21, Tryd.ntmps21
          go_wp2_with fail
          with_reducible refine (rFits_eq hf z _).mono ?_
          rintro e w1 ⟨rfl, hb⟩
          have hbw := box_bel (by simpa using hb)
          have R1 : RowAt w1 w.heap.size 24 _ := (RowAt.new w 24 #[.int .i64 v, .int .i64 s, .int .i64 c, .int .i64 n, .int .i64 t, .int .i64 d, .int .i64 r, .int .i64 k, .int .i64 g, .int .u64 z]).below hb (by simp)
          have r0 : w1.cell? ⟨w.heap.size, 0, none⟩ = some (.int .i64 v) := by rw [R1.cell]; rfl
          have r1 : w1.cell? ⟨w.heap.size, 1, none⟩ = some (.int .i64 s) := by rw [R1.cell]; rfl
          have r2 : w1.cell? ⟨w.heap.size, 2, none⟩ = some (.int .i64 c) := by rw [R1.cell]; rfl
          have r3 : w1.cell? ⟨w.heap.size, 3, none⟩ = some (.int .i64 n) := by rw [R1.cell]; rfl
          have r4 : w1.cell? ⟨w.heap.size, 4, none⟩ = some (.int .i64 t) := by rw [R1.cell]; rfl
          have r5 : w1.cell? ⟨w.heap.size, 5, none⟩ = some (.int .i64 d) := by rw [R1.cell]; rfl
          have r6 : w1.cell? ⟨w.heap.size, 6, none⟩ = some (.int .i64 r) := by rw [R1.cell]; rfl
          have r7 : w1.cell? ⟨w.heap.size, 7, none⟩ = some (.int .i64 k) := by rw [R1.cell]; rfl
          have r8 : w1.cell? ⟨w.heap.size, 8, none⟩ = some (.int .i64 g) := by rw [R1.cell]; rfl
          have r9 : w1.cell? ⟨w.heap.size, 9, none⟩ = some (.int .u64 z) := by rw [R1.cell]; rfl
          go_wp2_with ((with_reducible refine (HTk _).mono ?_); rintro e w_ ⟨rfl, rfl⟩)
          with_reducible refine (HS _).mono ?_
          rintro e w2 ⟨rfl, hb2⟩
          have hbw2 := hbw.trans (hb2.mono hbw.size)
          go_wp2_with fail
          go_ret2
          exact ⟨rfl, hbw2⟩
        · rw [if_neg hq] at hR
          have HS := fun W => rStart_any hf z W (x * s) ⟨by omega, by omega⟩ (x * s * t) 0 (by rw [startA_is (by omega)]; unfold productA; rw [if_neg hq])
          obtain ⟨rfl, rfl⟩ := Prod.mk.inj hR
          clear hR
          clear hk
          go_enter Tryd.func21, Tryd.ntmps21
          go_wp2_with fail
          with_reducible refine (rFits_eq hf z _).mono ?_
          rintro e w1 ⟨rfl, hb⟩
          have hbw := box_bel (by simpa using hb)
          have R1 : RowAt w1 w.heap.size 24 _ := (RowAt.new w 24 #[.int .i64 v, .int .i64 s, .int .i64 c, .int .i64 n, .int .i64 t, .int .i64 d, .int .i64 r, .int .i64 k, .int .i64 g, .int .u64 z]).below hb (by simp)
          have r0 : w1.cell? ⟨w.heap.size, 0, none⟩ = some (.int .i64 v) := by rw [R1.cell]; rfl
          have r1 : w1.cell? ⟨w.heap.size, 1, none⟩ = some (.int .i64 s) := by rw [R1.cell]; rfl
          have r2 : w1.cell? ⟨w.heap.size, 2, none⟩ = some (.int .i64 c) := by rw [R1.cell]; rfl
          have r3 : w1.cell? ⟨w.heap.size, 3, none⟩ = some (.int .i64 n) := by rw [R1.cell]; rfl
          have r4 : w1.cell? ⟨w.heap.size, 4, none⟩ = some (.int .i64 t) := by rw [R1.cell]; rfl
          have r5 : w1.cell? ⟨w.heap.size, 5, none⟩ = some (.int .i64 d) := by rw [R1.cell]; rfl
          have r6 : w1.cell? ⟨w.heap.size, 6, none⟩ = some (.int .i64 r) := by rw [R1.cell]; rfl
          have r7 : w1.cell? ⟨w.heap.size, 7, none⟩ = some (.int .i64 k) := by rw [R1.cell]; rfl
          have r8 : w1.cell? ⟨w.heap.size, 8, none⟩ = some (.int .i64 g) := by rw [R1.cell]; rfl
          have r9 : w1.cell? ⟨w.heap.size, 9, none⟩ = some (.int .u64 z) := by rw [R1.cell]; rfl
          go_wp2_with ((with_reducible refine (HTk _).mono ?_); rintro e w_ ⟨rfl, rfl⟩)
          with_reducible refine (HS _).mono ?_
          rintro e w2 ⟨rfl, hb2⟩
          have hbw2 := hbw.trans (hb2.mono hbw.size)
          have r1 : w2.cell? ⟨w.heap.size, 1, none⟩ = some (.int .i64 s) := by rw [hb2.cell (p := ⟨w.heap.size, 1, none⟩) R1.lt]; exact r1
          go_wp2_with fail
          go_ret2
          exact ⟨rfl, hbw2⟩
      · have hk' : isTickB x = false := by simpa using hk
        have := (isTickB_no x).1 hk'
        rw [if_pos (by omega)] at hR
        have HTk := fun W => rtick_any x W hx
        rw [hk'] at HTk
        obtain ⟨rfl, rfl⟩ := Prod.mk.inj hR
        clear hR
        clear hk hk'
        go_enter Tryd.func21, Tryd.ntmps21
        go_wp2_with fail
        with_reducible refine (rFits_eq hf z _).mono ?_
        rintro e w1 ⟨rfl, hb⟩
        go_wp2_with ((with_reducible refine (HTk _).mono ?_); rintro e w_ ⟨rfl, rfl⟩)
        go_ret2
        exact ⟨rfl, box_bel (by simpa using hb)⟩

set_option maxHeartbeats 1000000 in
set_option maxRecDepth 100000 in
theorem rForward_any {v s c n t d r k g : Int} {fit : Bool} (hf : fitsC v s c n t d r k g = fit) (z : Int) (w : World) (x b : Int) (hx : -9223372036854775808 ≤ x ∧ x ≤ 9223372036854775807) (hb9 : -9223372036854775808 ≤ b ∧ b ≤ 9223372036854775807) (R E : Int) (hR : forwardA fit x b = (R, E)) :
    Calls Tryd.prog 23 #[.agg #[.int .i64 v, .int .i64 s, .int .i64 c, .int .i64 n, .int .i64 t, .int .i64 d, .int .i64 r, .int .i64 k, .int .i64 g, .int .u64 z], .int .i64 x, .int .i64 b] w fun e w' => e = .returned (.tuple #[.int .i64 R, .int .i64 E]) ∧ Below w.heap.size w w' := by
  have hA0 : Below w.heap.size w (w.alloc (.cells #[.int .i64 v, .int .i64 s, .int .i64 c, .int .i64 n, .int .i64 t, .int .i64 d, .int .i64 r, .int .i64 k, .int .i64 g, .int .u64 z] 24)) := (Below.refl _ _).alloc (Nat.le_refl _) _
  cases fit
  · rw [forwardA_no] at hR
    obtain ⟨rfl, rfl⟩ := Prod.mk.inj hR
    clear hR
    go_enter Tryd.func23, Tryd.ntmps23
    go_wp2_with fail
    with_reducible refine (rFits_eq hf z _).mono ?_
    rintro e w1 ⟨rfl, hb⟩
    go_wp2_with fail
    go_ret2
    exact ⟨rfl, box_bel (by simpa using hb)⟩
  · cases ht : isTickB x
    · rw [forwardA_not ht] at hR
      obtain ⟨rfl, rfl⟩ := Prod.mk.inj hR
      clear hR
      have HTk := fun W => rtick_any x W hx
      rw [ht] at HTk
      clear ht
      go_enter Tryd.func23, Tryd.ntmps23
      go_wp2_with fail
      with_reducible refine (rFits_eq hf z _).mono ?_
      rintro e w1 ⟨rfl, hb⟩
      go_wp2_with ((with_reducible refine (HTk _).mono ?_); rintro e w_ ⟨rfl, rfl⟩)
      go_ret2
      exact ⟨rfl, box_bel (by simpa using hb)⟩
    · have HTk := fun W => rtick_any x W hx
      rw [ht] at HTk
      obtain ⟨hx0, hx1⟩ := (isTickB_iff x).1 ht
      by_cases h0 : b < 0
      · rw [forwardA_neg h0] at hR
        obtain ⟨rfl, rfl⟩ := Prod.mk.inj hR
        clear hR
        clear ht
        go_enter Tryd.func23, Tryd.ntmps23
        go_wp2_with fail
        with_reducible refine (rFits_eq hf z _).mono ?_
        rintro e w1 ⟨rfl, hb⟩
        go_wp2_with ((with_reducible refine (HTk _).mono ?_); rintro e w_ ⟨rfl, rfl⟩)
        go_ret2
        exact ⟨rfl, box_bel (by simpa using hb)⟩
      · rw [forwardA_is ht (by omega)] at hR
        have HTb := fun W => rtick_any b W hb9
        cases htb : isTickB b
        · rw [htb] at HTb
          have := (isTickB_no b).1 htb
          rw [if_pos (by omega)] at hR
          obtain ⟨rfl, rfl⟩ := Prod.mk.inj hR
          clear hR
          clear ht htb
          go_enter Tryd.func23, Tryd.ntmps23
          go_wp2_with fail
          with_reducible refine (rFits_eq hf z _).mono ?_
          rintro e w1 ⟨rfl, hb⟩
          go_wp2_with (first | ((with_reducible refine (HTk _).mono ?_); rintro e w_ ⟨rfl, rfl⟩) | ((with_reducible refine (HTb _).mono ?_); rintro e w_ ⟨rfl, rfl⟩))
          go_ret2
          exact ⟨rfl, box_bel (by simpa using hb)⟩
        · rw [htb] at HTb
          have := (isTickB_iff b).1 htb
          have HTs := fun W => rtick_any (x + b) W ⟨by omega, by omega⟩
          by_cases hm : 1099511627776 < x + b
          · rw [if_pos hm] at hR
            rw [(isTickB_no (x + b)).2 (by omega)] at HTs
            obtain ⟨rfl, rfl⟩ := Prod.mk.inj hR
            clear hR
            clear ht htb
            go_enter Tryd.func23, Tryd.ntmps23
            go_wp2_with fail
            with_reducible refine (rFits_eq hf z _).mono ?_
            rintro e w1 ⟨rfl, hb⟩
            go_wp2_with (first | ((with_reducible refine (HTk _).mono ?_); rintro e w_ ⟨rfl, rfl⟩) | ((with_reducible refine (HTb _).mono ?_); rintro e w_ ⟨rfl, rfl⟩) | ((with_reducible refine (HTs _).mono ?_); rintro e w_ ⟨rfl, rfl⟩))
            go_ret2
            exact ⟨rfl, box_bel (by simpa using hb)⟩
          · rw [if_neg hm] at hR
            rw [(isTickB_iff (x + b)).2 ⟨by omega, by omega⟩] at HTs
            obtain ⟨rfl, rfl⟩ := Prod.mk.inj hR
            clear hR
            clear ht htb
            go_enter Tryd.func23, Tryd.ntmps23
            go_wp2_with fail
            with_reducible refine (rFits_eq hf z _).mono ?_
            rintro e w1 ⟨rfl, hb⟩
            go_wp2_with (first | ((with_reducible refine (HTk _).mono ?_); rintro e w_ ⟨rfl, rfl⟩) | ((with_reducible refine (HTb _).mono ?_); rintro e w_ ⟨rfl, rfl⟩) | ((with_reducible refine (HTs _).mono ?_); rintro e w_ ⟨rfl, rfl⟩))
            go_ret2
            exact ⟨rfl, box_bel (by simpa using hb)⟩
end Go.Proofs.YtnibfcoecfppnaaDoor
