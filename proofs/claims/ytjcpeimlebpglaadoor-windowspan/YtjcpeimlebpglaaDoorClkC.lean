/- Package clock's contracts, and the document's: slots, epochs, their beginnings. -/
import Derived.Test.YtjcpeimlebpglaaDoorClkB
namespace Go.Proofs.YtjcpeimlebpglaaDoor
open Go.RowKit

theorem box_bel {w w1 : World} {o : Obj} (hb : Below (w.heap.size + 1) (w.alloc o) w1) : Below w.heap.size w w1 := ((Below.refl _ _).alloc (Nat.le_refl _) _).trans (hb.mono (Nat.le_succ _))
theorem fits_t {v s c n t d r k g : Int} (h : fitsC v s c n t d r k g = true) : 1 ≤ t ∧ t ≤ 1000 ∧ 1 ≤ s ∧ s ≤ 32 := by
  have := (fitsC_iff v s c n t d r k g).1 h
  omega
theorem div_bd {a b : Int} (h0 : 0 ≤ a) (h1 : a ≤ 9223372036854775807) (hb : 1 ≤ b) : 0 ≤ a / b ∧ a / b ≤ 9223372036854775807 := by
  have h2 := Int.ediv_nonneg (a := a) (b := b) h0 (by omega)
  have h3 := Int.ediv_le_self b h0
  omega
theorem slotA_no (t x : Int) : slotA false t x = (0, 1) := rfl
theorem slotA_not {t x : Int} (h : isTickB x = false) : slotA true t x = (0, 1) := by unfold slotA; rw [h]; rfl
theorem slotA_is {t x : Int} (h : isTickB x = true) : slotA true t x = (x / t, 0) := by unfold slotA; rw [h]; rfl
theorem startA_no (t x : Int) : startA false t x = (0, 1) := rfl
theorem startA_not {t x : Int} (h : x < 0) : startA true t x = (0, 1) := by unfold startA; rw [decide_eq_false (by omega)]; rfl
theorem startA_is {t x : Int} (h : 0 ≤ x) : startA true t x = productA x t := by unfold startA; rw [decide_eq_true h]; rfl
theorem epochA_no (t x : Int) : epochA false t x = (0, 1) := rfl
theorem epochA_not {t x : Int} (h : x < 0) : epochA true t x = (0, 1) := by unfold epochA; rw [decide_eq_false (by omega)]; rfl
theorem epochA_is {t x : Int} (h : 0 ≤ x) : epochA true t x = (x / t, 0) := by unfold epochA; rw [decide_eq_true h]; rfl
theorem firstA_no (s t x : Int) : firstA false s t x = (0, 1) := rfl
theorem firstA_not {s t x : Int} (h : x < 0) : firstA true s t x = (0, 1) := by unfold firstA; rw [decide_eq_false (by omega)]; rfl
theorem firstA_is {s t x : Int} (h : 0 ≤ x) : firstA true s t x = if 1099511627776 < x * s * t then (0, 8) else (x * s, 0) := by unfold firstA; rw [decide_eq_true h]; rfl
theorem forwardA_no (x b : Int) : forwardA false x b = (0, 1) := rfl
theorem forwardA_not {x b : Int} (h : isTickB x = false) : forwardA true x b = (0, 1) := by unfold forwardA; rw [h]; rfl
theorem forwardA_neg {x b : Int} (h : b < 0) : forwardA true x b = (0, 1) := by unfold forwardA; rw [decide_eq_false (show ¬ 0 ≤ b by omega), Bool.and_false]; rfl
theorem forwardA_is {x b : Int} (h : isTickB x = true) (hb : 0 ≤ b) : forwardA true x b = if 1099511627776 < x + b then (0, 8) else (x + b, 0) := by unfold forwardA; rw [h, decide_eq_true hb]; rfl
set_option maxHeartbeats 1000000 in
set_option maxRecDepth 100000 in
theorem SlotOf_any {v s c n t d r k g : Int} {fit : Bool} (hf : fitsC v s c n t d r k g = fit) (z : Int) (w : World) (hT : Spans w) (x : Int) (hx : -9223372036854775808 ≤ x ∧ x ≤ 9223372036854775807) (R E : Int) (hR : slotA fit t x = (R, E)) :
    Calls Tryd.prog 19 #[.agg #[.int .i64 v, .int .i64 s, .int .i64 c, .int .i64 n, .int .i64 t, .int .i64 d, .int .i64 r, .int .i64 k, .int .i64 g, .int .u64 z], .int .i64 x] w fun e w' => e = .returned (.tuple #[.int .i64 R, .int .i64 E]) ∧ Below w.heap.size w w' := by
  have hA0 : Below w.heap.size w (w.alloc (.cells #[.int .i64 v, .int .i64 s, .int .i64 c, .int .i64 n, .int .i64 t, .int .i64 d, .int .i64 r, .int .i64 k, .int .i64 g, .int .u64 z] 24)) := (Below.refl _ _).alloc (Nat.le_refl _) _
  cases fit
  · rw [slotA_no] at hR
    obtain ⟨rfl, rfl⟩ := Prod.mk.inj hR
    clear hR
    go_enter Tryd.func19, Tryd.ntmps19
    go_wp2_with fail
    with_reducible refine (Fits_eq hf z _ (hT.on hA0)).mono ?_
    rintro e w1 ⟨rfl, hb⟩
    go_wp2_with fail
    go_ret2
    exact ⟨rfl, box_bel (by simpa using hb)⟩
  · cases ht : isTickB x
    · rw [slotA_not ht] at hR
      obtain ⟨rfl, rfl⟩ := Prod.mk.inj hR
      clear hR
      have HTk := fun W => isTick_any x W hx
      rw [ht] at HTk
      clear ht
      go_enter Tryd.func19, Tryd.ntmps19
      go_wp2_with fail
      with_reducible refine (Fits_eq hf z _ (hT.on hA0)).mono ?_
      rintro e w1 ⟨rfl, hb⟩
      go_wp2_with ((with_reducible refine (HTk _).mono ?_); rintro e w_ ⟨rfl, rfl⟩)
      go_ret2
      exact ⟨rfl, box_bel (by simpa using hb)⟩
    · rw [slotA_is ht] at hR
      obtain ⟨rfl, rfl⟩ := Prod.mk.inj hR
      clear hR
      have HTk := fun W => isTick_any x W hx
      rw [ht] at HTk
      obtain ⟨hx0, hx1⟩ := (isTickB_iff x).1 ht
      obtain ⟨ht1, ht2, hs1, hs2⟩ := fits_t hf
      have hdv := div_bd hx0 hx.2 ht1
      clear ht
      go_enter Tryd.func19, Tryd.ntmps19
      go_wp2_with fail
      with_reducible refine (Fits_eq hf z _ (hT.on hA0)).mono ?_
      rintro e w1 ⟨rfl, hb⟩
      have hbw := box_bel (by simpa using hb)
      have R1 : RowAt w1 w.heap.size 24 _ := (RowAt.new w 24 #[.int .i64 v, .int .i64 s, .int .i64 c, .int .i64 n, .int .i64 t, .int .i64 d, .int .i64 r, .int .i64 k, .int .i64 g, .int .u64 z]).below hb (by simp)
      have r4 : w1.cell? ⟨w.heap.size, 4, none⟩ = some (.int .i64 t) := by rw [R1.cell]; rfl
      go_wp2_with ((with_reducible refine (HTk _).mono ?_); rintro e w_ ⟨rfl, rfl⟩)
      go_ret2
      exact ⟨rfl, hbw⟩

set_option maxHeartbeats 1000000 in
set_option maxRecDepth 100000 in
theorem Start_any {v s c n t d r k g : Int} {fit : Bool} (hf : fitsC v s c n t d r k g = fit) (z : Int) (w : World) (hT : Spans w) (x : Int) (hx : -9223372036854775808 ≤ x ∧ x ≤ 9223372036854775807) (R E : Int) (hR : startA fit t x = (R, E)) :
    Calls Tryd.prog 21 #[.agg #[.int .i64 v, .int .i64 s, .int .i64 c, .int .i64 n, .int .i64 t, .int .i64 d, .int .i64 r, .int .i64 k, .int .i64 g, .int .u64 z], .int .i64 x] w fun e w' => e = .returned (.tuple #[.int .i64 R, .int .i64 E]) ∧ Below w.heap.size w w' := by
  have hA0 : Below w.heap.size w (w.alloc (.cells #[.int .i64 v, .int .i64 s, .int .i64 c, .int .i64 n, .int .i64 t, .int .i64 d, .int .i64 r, .int .i64 k, .int .i64 g, .int .u64 z] 24)) := (Below.refl _ _).alloc (Nat.le_refl _) _
  cases fit
  · rw [startA_no] at hR
    obtain ⟨rfl, rfl⟩ := Prod.mk.inj hR
    clear hR
    go_enter Tryd.func21, Tryd.ntmps21
    go_wp2_with fail
    with_reducible refine (Fits_eq hf z _ (hT.on hA0)).mono ?_
    rintro e w1 ⟨rfl, hb⟩
    go_wp2_with fail
    go_ret2
    exact ⟨rfl, box_bel (by simpa using hb)⟩
  · by_cases h0 : x < 0
    · rw [startA_not h0] at hR
      obtain ⟨rfl, rfl⟩ := Prod.mk.inj hR
      clear hR
      go_enter Tryd.func21, Tryd.ntmps21
      go_wp2_with fail
      with_reducible refine (Fits_eq hf z _ (hT.on hA0)).mono ?_
      rintro e w1 ⟨rfl, hb⟩
      go_wp2_with fail
      go_ret2
      exact ⟨rfl, box_bel (by simpa using hb)⟩
    · rw [startA_is (by omega)] at hR
      obtain ⟨ht1, ht2, hs1, hs2⟩ := fits_t hf
      have HP := fun W => product_any x t W ⟨by omega, hx.2⟩ ⟨ht1, ht2⟩ R E hR
      clear hR
      go_enter Tryd.func21, Tryd.ntmps21
      go_wp2_with fail
      with_reducible refine (Fits_eq hf z _ (hT.on hA0)).mono ?_
      rintro e w1 ⟨rfl, hb⟩
      have hbw := box_bel (by simpa using hb)
      have R1 : RowAt w1 w.heap.size 24 _ := (RowAt.new w 24 #[.int .i64 v, .int .i64 s, .int .i64 c, .int .i64 n, .int .i64 t, .int .i64 d, .int .i64 r, .int .i64 k, .int .i64 g, .int .u64 z]).below hb (by simp)
      have r4 : w1.cell? ⟨w.heap.size, 4, none⟩ = some (.int .i64 t) := by rw [R1.cell]; rfl
      go_wp2_with ((with_reducible refine (HP _).mono ?_); rintro e w_ ⟨rfl, rfl⟩)
      go_ret2
      exact ⟨rfl, hbw⟩

set_option maxHeartbeats 1000000 in
set_option maxRecDepth 100000 in
theorem rStart_any {v s c n t d r k g : Int} {fit : Bool} (hf : fitsC v s c n t d r k g = fit) (z : Int) (w : World) (x : Int) (hx : -9223372036854775808 ≤ x ∧ x ≤ 9223372036854775807) (R E : Int) (hR : startA fit t x = (R, E)) :
    Calls Tryd.prog 23 #[.agg #[.int .i64 v, .int .i64 s, .int .i64 c, .int .i64 n, .int .i64 t, .int .i64 d, .int .i64 r, .int .i64 k, .int .i64 g, .int .u64 z], .int .i64 x] w fun e w' => e = .returned (.tuple #[.int .i64 R, .int .i64 E]) ∧ Below w.heap.size w w' := by
  have hA0 : Below w.heap.size w (w.alloc (.cells #[.int .i64 v, .int .i64 s, .int .i64 c, .int .i64 n, .int .i64 t, .int .i64 d, .int .i64 r, .int .i64 k, .int .i64 g, .int .u64 z] 24)) := (Below.refl _ _).alloc (Nat.le_refl _) _
  cases fit
  · rw [startA_no] at hR
    obtain ⟨rfl, rfl⟩ := Prod.mk.inj hR
    clear hR
    go_enter Tryd.func23, Tryd.ntmps23
    go_wp2_with fail
    with_reducible refine (rFits_eq hf z _).mono ?_
    rintro e w1 ⟨rfl, hb⟩
    go_wp2_with fail
    go_ret2
    exact ⟨rfl, box_bel (by simpa using hb)⟩
  · by_cases h0 : x < 0
    · rw [startA_not h0] at hR
      obtain ⟨rfl, rfl⟩ := Prod.mk.inj hR
      clear hR
      go_enter Tryd.func23, Tryd.ntmps23
      go_wp2_with fail
      with_reducible refine (rFits_eq hf z _).mono ?_
      rintro e w1 ⟨rfl, hb⟩
      go_wp2_with fail
      go_ret2
      exact ⟨rfl, box_bel (by simpa using hb)⟩
    · rw [startA_is (by omega)] at hR
      unfold productA at hR
      obtain ⟨ht1, ht2, hs1, hs2⟩ := fits_t hf
      have hx0 : 0 ≤ x := by omega
      have hp := prod_le hx0 ht1
      by_cases hk : isTickB x = true
      · have HTk := fun W => rtick_any x W hx
        rw [hk] at HTk
        obtain ⟨hk0, hk1⟩ := (isTickB_iff x).1 hk
        have hq : x * t ≤ 1099511627776000 := Int.le_trans (Int.mul_le_mul_of_nonneg_right hk1 (by omega)) (by omega)
        by_cases hm : 1099511627776 < x * t
        · rw [if_pos hm] at hR
          have HTm := fun W => rtick_any (x * t) W ⟨by omega, by omega⟩
          rw [(isTickB_no (x * t)).2 (by omega)] at HTm
          obtain ⟨rfl, rfl⟩ := Prod.mk.inj hR
          clear hR
          clear hk
          go_enter Tryd.func23, Tryd.ntmps23
          go_wp2_with fail
          with_reducible refine (rFits_eq hf z _).mono ?_
          rintro e w1 ⟨rfl, hb⟩
          have hbw := box_bel (by simpa using hb)
          have R1 : RowAt w1 w.heap.size 24 _ := (RowAt.new w 24 #[.int .i64 v, .int .i64 s, .int .i64 c, .int .i64 n, .int .i64 t, .int .i64 d, .int .i64 r, .int .i64 k, .int .i64 g, .int .u64 z]).below hb (by simp)
          have r4 : w1.cell? ⟨w.heap.size, 4, none⟩ = some (.int .i64 t) := by rw [R1.cell]; rfl
          go_wp2_with (first | ((with_reducible refine (HTk _).mono ?_); rintro e w_ ⟨rfl, rfl⟩) | ((with_reducible refine (HTm _).mono ?_); rintro e w_ ⟨rfl, rfl⟩))
          go_ret2
          exact ⟨rfl, hbw⟩
        · rw [if_neg hm] at hR
          have HTm := fun W => rtick_any (x * t) W ⟨by omega, by omega⟩
          rw [(isTickB_iff (x * t)).2 ⟨by omega, by omega⟩] at HTm
          obtain ⟨rfl, rfl⟩ := Prod.mk.inj hR
          clear hR
          clear hk
          go_enter Tryd.func23, Tryd.ntmps23
          go_wp2_with fail
          with_reducible refine (rFits_eq hf z _).mono ?_
          rintro e w1 ⟨rfl, hb⟩
          have hbw := box_bel (by simpa using hb)
          have R1 : RowAt w1 w.heap.size 24 _ := (RowAt.new w 24 #[.int .i64 v, .int .i64 s, .int .i64 c, .int .i64 n, .int .i64 t, .int .i64 d, .int .i64 r, .int .i64 k, .int .i64 g, .int .u64 z]).below hb (by simp)
          have r4 : w1.cell? ⟨w.heap.size, 4, none⟩ = some (.int .i64 t) := by rw [R1.cell]; rfl
          go_wp2_with (first | ((with_reducible refine (HTk _).mono ?_); rintro e w_ ⟨rfl, rfl⟩) | ((with_reducible refine (HTm _).mono ?_); rintro e w_ ⟨rfl, rfl⟩))
          go_ret2
          exact ⟨rfl, hbw⟩
      · have hk' : isTickB x = false := by simpa using hk
        have := (isTickB_no x).1 hk'
        rw [if_pos (by omega)] at hR
        have HTk := fun W => rtick_any x W hx
        rw [hk'] at HTk
        obtain ⟨rfl, rfl⟩ := Prod.mk.inj hR
        clear hR
        clear hk hk'
        go_enter Tryd.func23, Tryd.ntmps23
        go_wp2_with fail
        with_reducible refine (rFits_eq hf z _).mono ?_
        rintro e w1 ⟨rfl, hb⟩
        go_wp2_with ((with_reducible refine (HTk _).mono ?_); rintro e w_ ⟨rfl, rfl⟩)
        go_ret2
        exact ⟨rfl, box_bel (by simpa using hb)⟩

end Go.Proofs.YtjcpeimlebpglaaDoor
