/- Package clock's contracts, and the document's: which chains fit. -/
import Derived.Test.YtjcpeimlebpglaaDoorProg
import Derived.Test.YtjcpeimlebpglaaDoorOctW
import Derived.Test.YtjcpeimlebpglaaDoorClkP
import Derived.WalkLawsBesides
import Derived.Deep.QuietTactic
import Derived.BigQuiet
namespace Go.Proofs.YtjcpeimlebpglaaDoor
open Go.RowKit

def rowT : List Int := [1, 1024, 1, 32, 1, 8, 1, 64, 1, 1000, 1, 64, 0, 90, 1, 16]
/-- The table of clock's bounds lies in w. -/
def Spans (w : World) : Prop := ∀ j, j < 16 → w.cell? ⟨0, j, none⟩ = some (.int .i64 (rowT.getD j 0))
theorem Spans.lt {w : World} (h : Spans w) : 0 < w.heap.size := World.block_lt_of_cell? w _ (h 0 (by decide))
theorem Spans.below {w w' : World} {B : Nat} (h : Spans w) (hb : Below B w w') (hB : 0 < B) : Spans w' :=
  fun j hj => (hb.cell (p := ⟨0, j, none⟩) hB).trans (h j hj)
theorem Spans.on {w w' : World} (h : Spans w) (hb : Below w.heap.size w w') : Spans w' := h.below hb h.lt

theorem isTick_any (k : Int) (w : World) (hk : -9223372036854775808 ≤ k ∧ k ≤ 9223372036854775807) :
    Calls Tryd.prog 26 #[.int .i64 k] w fun e w' => e = .returned (.bool (isTickB k)) ∧ w = w' := by
  by_cases h : 0 ≤ k
  · go_enter Tryd.func26, Tryd.ntmps26
    go_wp2
    go_ret
    exact ⟨by simp [isTickB, h], rfl⟩
  · go_enter Tryd.func26, Tryd.ntmps26
    go_wp2
    go_ret
    exact ⟨by rw [(isTickB_no k).2 (by omega)]; rfl, rfl⟩
theorem rtick_any (k : Int) (w : World) (hk : -9223372036854775808 ≤ k ∧ k ≤ 9223372036854775807) :
    Calls Tryd.prog 29 #[.int .i64 k] w fun e w' => e = .returned (.bool (isTickB k)) ∧ w = w' := by
  by_cases h : 0 ≤ k
  · go_enter Tryd.func29, Tryd.ntmps29
    go_wp2
    go_ret
    exact ⟨by simp [isTickB, h], rfl⟩
  · go_enter Tryd.func29, Tryd.ntmps29
    go_wp2
    go_ret
    exact ⟨by rw [(isTickB_no k).2 (by omega)]; rfl, rfl⟩
set_option maxHeartbeats 400000 in
theorem product_any (m e : Int) (w : World) (hm : 0 ≤ m ∧ m ≤ 9223372036854775807) (he : 1 ≤ e ∧ e ≤ 1000) (R E : Int) (hR : productA m e = (R, E)) :
    Calls Tryd.prog 27 #[.int .i64 m, .int .i64 e] w fun r w' => r = .returned (.tuple #[.int .i64 R, .int .i64 E]) ∧ w = w' := by
  unfold productA at hR
  have ho := over_iff (m := m) he.1
  have h1 := Int.ediv_nonneg (a := 1099511627776) (b := e) (by omega) (by omega)
  have h2 : (1099511627776 : Int) / e ≤ 1099511627776 := Int.ediv_le_self _ (by omega)
  by_cases h : 1099511627776 / e < m
  · rw [if_pos (ho.1 h)] at hR
    obtain ⟨rfl, rfl⟩ := Prod.mk.inj hR
    clear ho hR
    go_enter Tryd.func27, Tryd.ntmps27
    go_wp2
    go_ret2
    exact ⟨rfl, rfl⟩
  · have hn : ¬ 1099511627776 < m * e := fun q => h (ho.2 q)
    rw [if_neg hn] at hR
    obtain ⟨rfl, rfl⟩ := Prod.mk.inj hR
    have hp := Int.mul_nonneg hm.1 (by omega : 0 ≤ e)
    clear ho hR
    go_enter Tryd.func27, Tryd.ntmps27
    go_wp2
    go_ret2
    exact ⟨rfl, rfl⟩

abbrev chV (v s c n t d r k g z : Int) : Value := .agg #[.int .i64 v, .int .i64 s, .int .i64 c, .int .i64 n, .int .i64 t, .int .i64 d, .int .i64 r, .int .i64 k, .int .i64 g, .int .u64 z]
set_option maxHeartbeats 400000 in
theorem numbers_any (v s c n t d r k g z : Int) (w : World) :
    Calls Tryd.prog 30 #[.agg #[.int .i64 v, .int .i64 s, .int .i64 c, .int .i64 n, .int .i64 t, .int .i64 d, .int .i64 r, .int .i64 k, .int .i64 g, .int .u64 z]] w fun e w' => e = .returned (.agg #[.int .i64 v, .int .i64 s, .int .i64 c, .int .i64 n, .int .i64 t, .int .i64 r, .int .i64 k, .int .i64 g]) ∧ Below w.heap.size w w' := by
  go_enter Tryd.func30, Tryd.ntmps30
  go_wp2
  exact bodyPost_ret (v := .agg #[.int .i64 v, .int .i64 s, .int .i64 c, .int .i64 n, .int .i64 t, .int .i64 r, .int .i64 k, .int .i64 g]) (by simp [results, Tryd.results30, go_sem]) rfl ⟨rfl, ((Below.refl _ _).alloc (Nat.le_refl _) _).alloc (by simp) _⟩

/-- The table's cells, written out. -/
theorem Spans.cells {w : World} (h : Spans w) : w.cell? ⟨0, 0, none⟩ = some (.int .i64 1) ∧ w.cell? ⟨0, 1, none⟩ = some (.int .i64 1024) ∧ w.cell? ⟨0, 2, none⟩ = some (.int .i64 1) ∧ w.cell? ⟨0, 3, none⟩ = some (.int .i64 32) ∧
    w.cell? ⟨0, 4, none⟩ = some (.int .i64 1) ∧ w.cell? ⟨0, 5, none⟩ = some (.int .i64 8) ∧ w.cell? ⟨0, 6, none⟩ = some (.int .i64 1) ∧ w.cell? ⟨0, 7, none⟩ = some (.int .i64 64) ∧ w.cell? ⟨0, 8, none⟩ = some (.int .i64 1) ∧ w.cell? ⟨0, 9, none⟩ = some (.int .i64 1000) ∧
    w.cell? ⟨0, 10, none⟩ = some (.int .i64 1) ∧ w.cell? ⟨0, 11, none⟩ = some (.int .i64 64) ∧ w.cell? ⟨0, 12, none⟩ = some (.int .i64 0) ∧ w.cell? ⟨0, 13, none⟩ = some (.int .i64 90) ∧ w.cell? ⟨0, 14, none⟩ = some (.int .i64 1) ∧ w.cell? ⟨0, 15, none⟩ = some (.int .i64 16) :=
  ⟨h 0 (by decide), h 1 (by decide), h 2 (by decide), h 3 (by decide), h 4 (by decide), h 5 (by decide), h 6 (by decide), h 7 (by decide), h 8 (by decide), h 9 (by decide), h 10 (by decide), h 11 (by decide), h 12 (by decide), h 13 (by decide), h 14 (by decide), h 15 (by decide)⟩

/-- The first m of the table's rows hold. -/
def firstC (m : Nat) (v s c n t r k g : Int) : Prop := (0 < m → 1 ≤ v ∧ v ≤ 1024) ∧ (1 < m → 1 ≤ s ∧ s ≤ 32) ∧ (2 < m → 1 ≤ c ∧ c ≤ 8) ∧ (3 < m → 1 ≤ n ∧ n ≤ 64) ∧ (4 < m → 1 ≤ t ∧ t ≤ 1000) ∧ (5 < m → 1 ≤ r ∧ r ≤ 64) ∧ (6 < m → 0 ≤ k ∧ k ≤ 90) ∧ (7 < m → 1 ≤ g ∧ g ≤ 16)

set_option maxHeartbeats 2000000 in
set_option maxRecDepth 100000 in
theorem Fits_any (v s c n t d r k g z : Int) (w : World) (hT : Spans w) :
    Calls Tryd.prog 25 #[.agg #[.int .i64 v, .int .i64 s, .int .i64 c, .int .i64 n, .int .i64 t, .int .i64 d, .int .i64 r, .int .i64 k, .int .i64 g, .int .u64 z]] w fun e w' => e = .returned (.bool (fitsC v s c n t d r k g)) ∧ Below w.heap.size w w' := by
  go_enter Tryd.func25, Tryd.ntmps25
  go_wp2_with fail
  with_reducible refine (numbers_any v s c n t d r k g z _).mono ?_
  rintro e w1 ⟨rfl, hb⟩
  have R : RowAt w1 w.heap.size 24 [.int .i64 v, .int .i64 s, .int .i64 c, .int .i64 n, .int .i64 t, .int .i64 d, .int .i64 r, .int .i64 k, .int .i64 g, .int .u64 z] := (RowAt.new w 24 #[.int .i64 v, .int .i64 s, .int .i64 c, .int .i64 n, .int .i64 t, .int .i64 d, .int .i64 r, .int .i64 k, .int .i64 g, .int .u64 z]).below hb (by simp)
  have hbw : Below w.heap.size w w1 := ((Below.refl _ _).alloc (Nat.le_refl _) _).trans (hb.mono (by simp))
  have hT1 := hT.on hbw
  have r4 := R.cell 4
  have r5 := R.cell 5
  simp only [List.getElem?_cons_succ, List.getElem?_cons_zero] at r4 r5
  obtain ⟨t0, t1, t2, t3, t4, t5, t6, t7, t8, t9, t10, t11, t12, t13, t14, t15⟩ := hT1.cells
  clear R hT1 hb
  go_wp2_with fail
  go_loop [7] (fun i => ∃ m : Nat, m ≤ 8 ∧ i = .int .i64 m ∧ firstC m v s c n t r k g) (fun i => 8 - (intOf i).toNat)
  case atStart => exact ⟨0, by omega, rfl, by unfold firstC; omega⟩
  case round =>
    obtain ⟨m, hm, rfl, hf⟩ := hrel
    have hcase : m = 0 ∨ m = 1 ∨ m = 2 ∨ m = 3 ∨ m = 4 ∨ m = 5 ∨ m = 6 ∨ m = 7 ∨ m = 8 := by omega
    rcases hcase with rfl | rfl | rfl | rfl | rfl | rfl | rfl | rfl | rfl
    · have hi : ∀ w, (Instr.index 47 (.agg #[.int .i64 v, .int .i64 s, .int .i64 c, .int .i64 n, .int .i64 t, .int .i64 r, .int .i64 k, .int .i64 g]) (.int .i64 0)).run Tryd.prog w = .ok (.int .i64 v) w := fun _ => by kernel_rfl
      go_wp2
      all_goals (first
        | (go_round
           case rel => exact ⟨1, by omega, by go_num, by unfold firstC at hf ⊢; omega⟩
           case measure => simp [intOf])
        | (go_ret; exact ⟨by rw [fitsC_no (by omega)]; rfl, hbw⟩))
    · have hi : ∀ w, (Instr.index 47 (.agg #[.int .i64 v, .int .i64 s, .int .i64 c, .int .i64 n, .int .i64 t, .int .i64 r, .int .i64 k, .int .i64 g]) (.int .i64 1)).run Tryd.prog w = .ok (.int .i64 s) w := fun _ => by kernel_rfl
      go_wp2
      all_goals (first
        | (go_round
           case rel => exact ⟨2, by omega, by go_num, by unfold firstC at hf ⊢; omega⟩
           case measure => simp [intOf])
        | (go_ret; exact ⟨by rw [fitsC_no (by omega)]; rfl, hbw⟩))
    · have hi : ∀ w, (Instr.index 47 (.agg #[.int .i64 v, .int .i64 s, .int .i64 c, .int .i64 n, .int .i64 t, .int .i64 r, .int .i64 k, .int .i64 g]) (.int .i64 2)).run Tryd.prog w = .ok (.int .i64 c) w := fun _ => by kernel_rfl
      go_wp2
      all_goals (first
        | (go_round
           case rel => exact ⟨3, by omega, by go_num, by unfold firstC at hf ⊢; omega⟩
           case measure => simp [intOf])
        | (go_ret; exact ⟨by rw [fitsC_no (by omega)]; rfl, hbw⟩))
    · have hi : ∀ w, (Instr.index 47 (.agg #[.int .i64 v, .int .i64 s, .int .i64 c, .int .i64 n, .int .i64 t, .int .i64 r, .int .i64 k, .int .i64 g]) (.int .i64 3)).run Tryd.prog w = .ok (.int .i64 n) w := fun _ => by kernel_rfl
      go_wp2
      all_goals (first
        | (go_round
           case rel => exact ⟨4, by omega, by go_num, by unfold firstC at hf ⊢; omega⟩
           case measure => simp [intOf])
        | (go_ret; exact ⟨by rw [fitsC_no (by omega)]; rfl, hbw⟩))
    · have hi : ∀ w, (Instr.index 47 (.agg #[.int .i64 v, .int .i64 s, .int .i64 c, .int .i64 n, .int .i64 t, .int .i64 r, .int .i64 k, .int .i64 g]) (.int .i64 4)).run Tryd.prog w = .ok (.int .i64 t) w := fun _ => by kernel_rfl
      go_wp2
      all_goals (first
        | (go_round
           case rel => exact ⟨5, by omega, by go_num, by unfold firstC at hf ⊢; omega⟩
           case measure => simp [intOf])
        | (go_ret; exact ⟨by rw [fitsC_no (by omega)]; rfl, hbw⟩))
    · have hi : ∀ w, (Instr.index 47 (.agg #[.int .i64 v, .int .i64 s, .int .i64 c, .int .i64 n, .int .i64 t, .int .i64 r, .int .i64 k, .int .i64 g]) (.int .i64 5)).run Tryd.prog w = .ok (.int .i64 r) w := fun _ => by kernel_rfl
      go_wp2
      all_goals (first
        | (go_round
           case rel => exact ⟨6, by omega, by go_num, by unfold firstC at hf ⊢; omega⟩
           case measure => simp [intOf])
        | (go_ret; exact ⟨by rw [fitsC_no (by omega)]; rfl, hbw⟩))
    · have hi : ∀ w, (Instr.index 47 (.agg #[.int .i64 v, .int .i64 s, .int .i64 c, .int .i64 n, .int .i64 t, .int .i64 r, .int .i64 k, .int .i64 g]) (.int .i64 6)).run Tryd.prog w = .ok (.int .i64 k) w := fun _ => by kernel_rfl
      go_wp2
      all_goals (first
        | (go_round
           case rel => exact ⟨7, by omega, by go_num, by unfold firstC at hf ⊢; omega⟩
           case measure => simp [intOf])
        | (go_ret; exact ⟨by rw [fitsC_no (by omega)]; rfl, hbw⟩))
    · have hi : ∀ w, (Instr.index 47 (.agg #[.int .i64 v, .int .i64 s, .int .i64 c, .int .i64 n, .int .i64 t, .int .i64 r, .int .i64 k, .int .i64 g]) (.int .i64 7)).run Tryd.prog w = .ok (.int .i64 g) w := fun _ => by kernel_rfl
      go_wp2
      all_goals (first
        | (go_round
           case rel => exact ⟨8, by omega, by go_num, by unfold firstC at hf ⊢; omega⟩
           case measure => simp [intOf])
        | (go_ret; exact ⟨by rw [fitsC_no (by omega)]; rfl, hbw⟩))
    · unfold firstC at hf
      by_cases hdt : d ≤ t
      all_goals
        go_wp2
        all_goals
          go_ret
          first
            | exact ⟨by rw [fitsC_no (by omega)]; rfl, hbw⟩
            | exact ⟨by rw [(fitsC_iff v s c n t d r k g).2 (by omega)]; rfl, hbw⟩
end Go.Proofs.YtjcpeimlebpglaaDoor
