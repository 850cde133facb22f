/- Package clock's contracts, and the document's: which chains fit.
   Package clock's contracts, and the document's: slots, epochs, their beginnings.
   Package clock's contracts, and the document's: slots, epochs, their beginnings. -/
import Derived.Test.YtjipibpcnheniaaDoorProg
import Derived.Test.YtjipibpcnheniaaDoorOctW
import Derived.Test.YtjipibpcnheniaaDoorClkP
import Derived.WalkLawsBesides
import Derived.Deep.QuietTactic
import Derived.BigQuiet
namespace Go.Proofs.YtjipibpcnheniaaDoor
open Go.RowKit

def rowT : List Int := [1, 1024, 1, 32, 1, 8, 1, 64, 1, 1000, 1, 64, 0, 90, 1, 16]
/-- The table of clock's bounds lies in w. -/
def Spans (w : World) : Prop := ∀ j, j < 16 → w.cell? ⟨0, j, none⟩ = some (.int .i64 (rowT.getD j 0))
theorem Spans.lt {w : World} (h : Spans w) : 0 < w.heap.size := World.block_lt_of_cell? w _ (h 0 (by decide))
theorem Spans.below {w w' : World} {B : Nat} (h : Spans w) (hb : Below B w w') (hB : 0 < B) : Spans w' :=
  fun j hj => (hb.cell (p := ⟨0, j, none⟩) hB).trans (h j hj)
theorem Spans.on {w w' : World} (h : Spans w) (hb : Below w.heap.size w w') : Spans w' := h.below hb h.lt

abbrev chV (v s c n t d r k g z : Int) : Value := .agg #[.int .i64 v, .int .i64 s, .int .i64 c, .int .i64 n, .int .i64 t, .int .i64 d, .int .i64 r, .int .i64 k, .int .i64 g, .int .u64 z]
set_option maxHeartbeats 400000 in
theorem numbers_any (v s c n t d r k g z : Int) (w : World) :
    Calls Tryd.prog 60 #[.agg #[.int .i64 v, .int .i64 s, .int .i64 c, .int .i64 n, .int .i64 t, .int .i64 d, .int .i64 r, .int .i64 k, .int .i64 g, .int .u64 z]] w fun e w' => e = .returned (.agg #[.int .i64 v, .int .i64 s, .int .i64 c, .int .i64 n, .int .i64 t, .int .i64 r, .int .i64 k, .int .i64 g]) ∧ Below w.heap.size w w' := by
  go_enter Tryd.func60, Tryd.ntmps60
  go_wp2
  exact bodyPost_ret (v := .agg #[.int .i64 v, .int .i64 s, .int .i64 c, .int .i64 n, .int .i64 t, .int .i64 r, .int .i64 k, .int .i64 g]) (by simp [results, Tryd.results60, go_sem]) rfl ⟨rfl, ((Below.refl _ _).alloc (Nat.le_refl _) _).alloc (by simp) _⟩

/-- The table's cells, written out. -/
theorem Spans.cells {w : World} (h : Spans w) : w.cell? ⟨0, 0, none⟩ = some (.int .i64 1) ∧ w.cell? ⟨0, 1, none⟩ = some (.int .i64 1024) ∧ w.cell? ⟨0, 2, none⟩ = some (.int .i64 1) ∧ w.cell? ⟨0, 3, none⟩ = some (.int .i64 32) ∧
    w.cell? ⟨0, 4, none⟩ = some (.int .i64 1) ∧ w.cell? ⟨0, 5, none⟩ = some (.int .i64 8) ∧ w.cell? ⟨0, 6, none⟩ = some (.int .i64 1) ∧ w.cell? ⟨0, 7, none⟩ = some (.int .i64 64) ∧ w.cell? ⟨0, 8, none⟩ = some (.int .i64 1) ∧ w.cell? ⟨0, 9, none⟩ = some (.int .i64 1000) ∧
    w.cell? ⟨0, 10, none⟩ = some (.int .i64 1) ∧ w.cell? ⟨0, 11, none⟩ = some (.int .i64 64) ∧ w.cell? ⟨0, 12, none⟩ = some (.int .i64 0) ∧ w.cell? ⟨0, 13, none⟩ = some (.int .i64 90) ∧ w.cell? ⟨0, 14, none⟩ = some (.int .i64 1) ∧ w.cell? ⟨0, 15, none⟩ = some (.int .i64 16) :=
  ⟨h 0 (by decide), h 1 (by decide), h 2 (by decide), h 3 (by decide), h 4 (by decide), h 5 (by decide), h 6 (by decide), h 7 (by decide), h 8 (by decide), h 9 (by decide), h 10 (by decide), h 11 (by decide), h 12 (by decide), h 13 (by decide), h 14 (by decide), h 15 (by decide)⟩

/-- The first m of the table's rows hold. -/
def firstC (m : Nat) (v s c n t r k g : Int) : Prop := (0 < m → 1 ≤ v ∧ v ≤ 1024) ∧ (1 < m → 1 ≤ s ∧ s ≤ 32) ∧ (2 < m → 1 ≤ c ∧ c ≤ 8) ∧ (3 < m → 1 ≤ n ∧ n ≤ 64) ∧ (4 < m → 1 ≤ t ∧ t ≤ 1000) ∧ (5 < m → 1 ≤ r ∧ r ≤ 64) ∧ (6 < m → 0 ≤ k ∧ k ≤ 90) ∧ (7 < m → 1 ≤ g ∧ g ≤ 16)

set_option maxHeartbeats 2000000 in
set_option maxRecDepth 100000 in
theorem Fits_any (v s c n t d r k g z : Int) (w : World) (hT : Spans w) :
    Calls Tryd.prog 36 #[.agg #[.int .i64 v, .int .i64 s, .int .i64 c, .int .i64 n, .int .i64 t, .int .i64 d, .int .i64 r, .int .i64 k, .int .i64 g, .int .u64 z]] w fun e w' => e = .returned (.bool (fitsC v s c n t d r k g)) ∧ Below w.heap.size w w' := by
  go_enter Tryd.func36, Tryd.ntmps36
  go_wp2_with fail
  with_reducible refine (numbers_any v s c n t d r k g z _).mono ?_
  rintro e w1 ⟨rfl, hb⟩
  have R : RowAt w1 w.heap.size 24 [.int .i64 v, .int .i64 s, .int .i64 c, .int .i64 n, .int .i64 t, .int .i64 d, .int .i64 r, .int .i64 k, .int .i64 g, .int .u64 z] := (RowAt.new w 24 #[.int .i64 v, .int .i64 s, .int .i64 c, .int .i64 n, .int .i64 t, .int .i64 d, .int .i64 r, .int .i64 k, .int .i64 g, .int .u64 z]).below hb (by simp)
  have hbw : Below w.heap.size w w1 := ((Below.refl _ _).alloc (Nat.le_refl _) _).trans (hb.mono (by simp))
  have hT1 := hT.on hbw
  have r4 := R.cell 4
  have r5 := R.cell 5
  simp only [List.getElem?_cons_succ, List.getElem?_cons_zero] at r4 r5
  obtain ⟨t0, t1, t2, t3, t4, t5, t6, t7, t8, t9, t10, t11, t12, t13, t14, t15⟩ := hT1.cells
  clear R hT1 hb
  go_wp2_with fail
  go_loop [7] (fun i => ∃ m : Nat, m ≤ 8 ∧ i = .int .i64 m ∧ firstC m v s c n t r k g) (fun i => 8 - (intOf i).toNat)
  case atStart => exact ⟨0, by omega, rfl, by unfold firstC; omega⟩
  case round =>
    obtain ⟨m, hm, rfl, hf⟩ := hrel
    have hcase : m = 0 ∨ m = 1 ∨ m = 2 ∨ m = 3 ∨ m = 4 ∨ m = 5 ∨ m = 6 ∨ m = 7 ∨ m = 8 := by omega
    rcases hcase with rfl | rfl | rfl | rfl | rfl | rfl | rfl | rfl | rfl
    · have hi : ∀ w, (Instr.index 85 (.agg #[.int .i64 v, .int .i64 s, .int .i64 c, .int .i64 n, .int .i64 t, .int .i64 r, .int .i64 k, .int .i64 g]) (.int .i64 0)).run Tryd.prog w = .ok (.int .i64 v) w := fun _ => by kernel_rfl
      go_wp2
      all_goals (first
        | (go_round
           case rel => exact ⟨1, by omega, by go_num, by unfold firstC at hf ⊢; omega⟩
           case measure => simp [intOf])
        | (go_ret; exact ⟨by rw [fitsC_no (by omega)]; rfl, hbw⟩))
    · have hi : ∀ w, (Instr.index 85 (.agg #[.int .i64 v, .int .i64 s, .int .i64 c, .int .i64 n, .int .i64 t, .int .i64 r, .int .i64 k, .int .i64 g]) (.int .i64 1)).run Tryd.prog w = .ok (.int .i64 s) w := fun _ => by kernel_rfl
      go_wp2
      all_goals (first
        | (go_round
           case rel => exact ⟨2, by omega, by go_num, by unfold firstC at hf ⊢; omega⟩
           case measure => simp [intOf])
        | (go_ret; exact ⟨by rw [fitsC_no (by omega)]; rfl, hbw⟩))
    · have hi : ∀ w, (Instr.index 85 (.agg #[.int .i64 v, .int .i64 s, .int .i64 c, .int .i64 n, .int .i64 t, .int .i64 r, .int .i64 k, .int .i64 g]) (.int .i64 2)).run Tryd.prog w = .ok (.int .i64 c) w := fun _ => by kernel_rfl
      go_wp2
      all_goals (first
        | (go_round
           case rel => exact ⟨3, by omega, by go_num, by unfold firstC at hf ⊢; omega⟩
           case measure => simp [intOf])
        | (go_ret; exact ⟨by rw [fitsC_no (by omega)]; rfl, hbw⟩))
    · have hi : ∀ w, (Instr.index 85 (.agg #[.int .i64 v, .int .i64 s, .int .i64 c, .int .i64 n, .int .i64 t, .int .i64 r, .int .i64 k, .int .i64 g]) (.int .i64 3)).run Tryd.prog w = .ok (.int .i64 n) w := fun _ => by kernel_rfl
      go_wp2
      all_goals (first
        | (go_round
           case rel => exact ⟨4, by omega, by go_num, by unfold firstC at hf ⊢; omega⟩
           case measure => simp [intOf])
        | (go_ret; exact ⟨by rw [fitsC_no (by omega)]; rfl, hbw⟩))
    · have hi : ∀ w, (Instr.index 85 (.agg #[.int .i64 v, .int .i64 s, .int .i64 c, .int .i64 n, .int .i64 t, .int .i64 r, .int .i64 k, .int .i64 g]) (.int .i64 4)).run Tryd.prog w = .ok (.int .i64 t) w := fun _ => by kernel_rfl
      go_wp2
      all_goals (first
        | (go_round
           case rel => exact ⟨5, by omega, by go_num, by unfold firstC at hf ⊢; omega⟩
           case measure => simp [intOf])
        | (go_ret; exact ⟨by rw [fitsC_no (by omega)]; rfl, hbw⟩))
    · have hi : ∀ w, (Instr.index 85 (.agg #[.int .i64 v, .int .i64 s, .int .i64 c, .int .i64 n, .int .i64 t, .int .i64 r, .int .i64 k, .int .i64 g]) (.int .i64 5)).run Tryd.prog w = .ok (.int .i64 r) w := fun _ => by kernel_rfl
      go_wp2
      all_goals (first
        | (go_round
           case rel => exact ⟨6, by omega, by go_num, by unfold firstC at hf ⊢; omega⟩
           case measure => simp [intOf])
        | (go_ret; exact ⟨by rw [fitsC_no (by omega)]; rfl, hbw⟩))
    · have hi : ∀ w, (Instr.index 85 (.agg #[.int .i64 v, .int .i64 s, .int .i64 c, .int .i64 n, .int .i64 t, .int .i64 r, .int .i64 k, .int .i64 g]) (.int .i64 6)).run Tryd.prog w = .ok (.int .i64 k) w := fun _ => by kernel_rfl
      go_wp2
      all_goals (first
        | (go_round
           case rel => exact ⟨7, by omega, by go_num, by unfold firstC at hf ⊢; omega⟩
           case measure => simp [intOf])
        | (go_ret; exact ⟨by rw [fitsC_no (by omega)]; rfl, hbw⟩))
    · have hi : ∀ w, (Instr.index 85 (.agg #[.int .i64 v, .int .i64 s, .int .i64 c, .int .i64 n, .int .i64 t, .int .i64 r, .int .i64 k, .int .i64 g]) (.int .i64 7)).run Tryd.prog w = .ok (.int .i64 g) w := fun _ => by kernel_rfl
      go_wp2
      all_goals (first
        | (go_round
           case rel => exact ⟨8, by omega, by go_num, by unfold firstC at hf ⊢; omega⟩
           case measure => simp [intOf])
        | (go_ret; exact ⟨by rw [fitsC_no (by omega)]; rfl, hbw⟩))
    · unfold firstC at hf
      by_cases hdt : d ≤ t
      all_goals
        go_wp2
        all_goals
          go_ret
          first
            | exact ⟨by rw [fitsC_no (by omega)]; rfl, hbw⟩
            | exact ⟨by rw [(fitsC_iff v s c n t d r k g).2 (by omega)]; rfl, hbw⟩
end Go.Proofs.YtjipibpcnheniaaDoor

namespace Go.Proofs.YtjipibpcnheniaaDoor
open Go.RowKit

theorem Fits_eq {v s c n t d r k g : Int} {fit : Bool} (hf : fitsC v s c n t d r k g = fit) (z : Int) (w : World) (hT : Spans w) :
    Calls Tryd.prog 36 #[.agg #[.int .i64 v, .int .i64 s, .int .i64 c, .int .i64 n, .int .i64 t, .int .i64 d, .int .i64 r, .int .i64 k, .int .i64 g, .int .u64 z]] w fun e w' => e = .returned (.bool fit) ∧ Below w.heap.size w w' := by
  rw [← hf]; exact Fits_any v s c n t d r k g z w hT
set_option maxHeartbeats 2000000 in
set_option maxRecDepth 100000 in
theorem rFits_eq {v s c n t d r k g : Int} {fit : Bool} (hf : fitsC v s c n t d r k g = fit) (z : Int) (w : World) :
    Calls Tryd.prog 42 #[.agg #[.int .i64 v, .int .i64 s, .int .i64 c, .int .i64 n, .int .i64 t, .int .i64 d, .int .i64 r, .int .i64 k, .int .i64 g, .int .u64 z]] w fun e w' => e = .returned (.bool fit) ∧ Below w.heap.size w w' := by
  subst hf
  have hbw : ∀ o, Below w.heap.size w (w.alloc o) := fun o => (Below.refl _ _).alloc (Nat.le_refl _) o
  by_cases hg : g ≤ 16
  all_goals
    go_enter Tryd.func42, Tryd.ntmps42
    go_wp2
    all_goals
      go_ret
      first
        | exact ⟨by rw [fitsC_no (by omega)]; rfl, hbw _⟩
        | exact ⟨by rw [(fitsC_iff v s c n t d r k g).2 (by omega)]; rfl, hbw _⟩
end Go.Proofs.YtjipibpcnheniaaDoor

namespace Go.Proofs.YtjipibpcnheniaaDoor
open Go.RowKit

theorem box_bel {w w1 : World} {o : Obj} (hb : Below (w.heap.size + 1) (w.alloc o) w1) : Below w.heap.size w w1 := ((Below.refl _ _).alloc (Nat.le_refl _) _).trans (hb.mono (Nat.le_succ _))
theorem fits_t {v s c n t d r k g : Int} (h : fitsC v s c n t d r k g = true) : 1 ≤ t ∧ t ≤ 1000 ∧ 1 ≤ s ∧ s ≤ 32 := by
  have := (fitsC_iff v s c n t d r k g).1 h
  omega
theorem div_bd {a b : Int} (h0 : 0 ≤ a) (h1 : a ≤ 9223372036854775807) (hb : 1 ≤ b) : 0 ≤ a / b ∧ a / b ≤ 9223372036854775807 := by
  have h2 := Int.ediv_nonneg (a := a) (b := b) h0 (by omega)
  have h3 := Int.ediv_le_self b h0
  omega
theorem slotA_no (t x : Int) : slotA false t x = (0, 1) := rfl
theorem slotA_not {t x : Int} (h : isTickB x = false) : slotA true t x = (0, 1) := by unfold slotA; rw [h]; rfl
theorem slotA_is {t x : Int} (h : isTickB x = true) : slotA true t x = (x / t, 0) := by unfold slotA; rw [h]; rfl
theorem startA_no (t x : Int) : startA false t x = (0, 1) := rfl
theorem startA_not {t x : Int} (h : x < 0) : startA true t x = (0, 1) := by unfold startA; rw [decide_eq_false (by omega)]; rfl
theorem startA_is {t x : Int} (h : 0 ≤ x) : startA true t x = productA x t := by unfold startA; rw [decide_eq_true h]; rfl
theorem epochA_no (t x : Int) : epochA false t x = (0, 1) := rfl
theorem epochA_not {t x : Int} (h : x < 0) : epochA true t x = (0, 1) := by unfold epochA; rw [decide_eq_false (by omega)]; rfl
theorem epochA_is {t x : Int} (h : 0 ≤ x) : epochA true t x = (x / t, 0) := by unfold epochA; rw [decide_eq_true h]; rfl
theorem firstA_no (s t x : Int) : firstA false s t x = (0, 1) := rfl
theorem firstA_not {s t x : Int} (h : x < 0) : firstA true s t x = (0, 1) := by unfold firstA; rw [decide_eq_false (by omega)]; rfl
theorem firstA_is {s t x : Int} (h : 0 ≤ x) : firstA true s t x = if 1099511627776 < x * s * t then (0, 8) else (x * s, 0) := by unfold firstA; rw [decide_eq_true h]; rfl
theorem forwardA_no (x b : Int) : forwardA false x b = (0, 1) := rfl
theorem forwardA_not {x b : Int} (h : isTickB x = false) : forwardA true x b = (0, 1) := by unfold forwardA; rw [h]; rfl
theorem forwardA_neg {x b : Int} (h : b < 0) : forwardA true x b = (0, 1) := by unfold forwardA; rw [decide_eq_false (show ¬ 0 ≤ b by omega), Bool.and_false]; rfl
theorem forwardA_is {x b : Int} (h : isTickB x = true) (hb : 0 ≤ b) : forwardA true x b = if 1099511627776 < x + b then (0, 8) else (x + b, 0) := by unfold forwardA; rw [h, decide_eq_true hb]; rfl
set_option maxHeartbeats 1000000 in
set_option maxRecDepth 100000 in
theorem EpochOf_any {v s c n t d r k g : Int} {fit : Bool} (hf : fitsC v s c n t d r k g = fit) (z : Int) (w : World) (hT : Spans w) (x : Int) (hx : -9223372036854775808 ≤ x ∧ x ≤ 9223372036854775807) (R E : Int) (hR : epochA fit s x = (R, E)) :
    Calls Tryd.prog 28 #[.agg #[.int .i64 v, .int .i64 s, .int .i64 c, .int .i64 n, .int .i64 t, .int .i64 d, .int .i64 r, .int .i64 k, .int .i64 g, .int .u64 z], .int .i64 x] w fun e w' => e = .returned (.tuple #[.int .i64 R, .int .i64 E]) ∧ Below w.heap.size w w' := by
  have hA0 : Below w.heap.size w (w.alloc (.cells #[.int .i64 v, .int .i64 s, .int .i64 c, .int .i64 n, .int .i64 t, .int .i64 d, .int .i64 r, .int .i64 k, .int .i64 g, .int .u64 z] 24)) := (Below.refl _ _).alloc (Nat.le_refl _) _
  cases fit
  · rw [epochA_no] at hR
    obtain ⟨rfl, rfl⟩ := Prod.mk.inj hR
    clear hR
    go_enter Tryd.func28, Tryd.ntmps28
    go_wp2_with fail
    with_reducible refine (Fits_eq hf z _ (hT.on hA0)).mono ?_
    rintro e w1 ⟨rfl, hb⟩
    go_wp2_with fail
    go_ret2
    exact ⟨rfl, box_bel (by simpa using hb)⟩
  · by_cases h0 : x < 0
    · rw [epochA_not h0] at hR
      obtain ⟨rfl, rfl⟩ := Prod.mk.inj hR
      clear hR
      go_enter Tryd.func28, Tryd.ntmps28
      go_wp2_with fail
      with_reducible refine (Fits_eq hf z _ (hT.on hA0)).mono ?_
      rintro e w1 ⟨rfl, hb⟩
      go_wp2_with fail
      go_ret2
      exact ⟨rfl, box_bel (by simpa using hb)⟩
    · rw [epochA_is (by omega)] at hR
      obtain ⟨rfl, rfl⟩ := Prod.mk.inj hR
      clear hR
      obtain ⟨ht1, ht2, hs1, hs2⟩ := fits_t hf
      have hx0 : 0 ≤ x := by omega
      have hdv := div_bd hx0 hx.2 hs1
      go_enter Tryd.func28, Tryd.ntmps28
      go_wp2_with fail
      with_reducible refine (Fits_eq hf z _ (hT.on hA0)).mono ?_
      rintro e w1 ⟨rfl, hb⟩
      have hbw := box_bel (by simpa using hb)
      have R1 : RowAt w1 w.heap.size 24 _ := (RowAt.new w 24 #[.int .i64 v, .int .i64 s, .int .i64 c, .int .i64 n, .int .i64 t, .int .i64 d, .int .i64 r, .int .i64 k, .int .i64 g, .int .u64 z]).below hb (by simp)
      have r1 : w1.cell? ⟨w.heap.size, 1, none⟩ = some (.int .i64 s) := by rw [R1.cell]; rfl
      go_wp2_with fail
      go_ret2
      exact ⟨rfl, hbw⟩

end Go.Proofs.YtjipibpcnheniaaDoor
