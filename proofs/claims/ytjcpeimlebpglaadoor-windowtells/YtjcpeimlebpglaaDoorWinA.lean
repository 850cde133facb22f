/- Layer 12, the document's own: when slots open and close, and how they stand. -/
import Derived.Test.YtjcpeimlebpglaaDoorClkE
import Derived.Test.YtjcpeimlebpglaaDoorWinP
namespace Go.Proofs.YtjcpeimlebpglaaDoor
open Go.RowKit

/- the answers, in whole numbers: a number and an error -/
def opensA (fit : Bool) (t d x : Int) : Int × Int := if (startA fit t x).2 = 0 then (max ((startA fit t x).1 - d) 0, 0) else (0, (startA fit t x).2)
def closesA (fit : Bool) (t d r x : Int) : Int × Int := if (startA fit t x).2 = 0 then (min ((startA fit t x).1 + (r + 1) * t + d - 1) 1099511627776, 0) else (0, (startA fit t x).2)
def standZ (t d r k x : Int) : Int := if 1099511627776 < x * t then 0 else if k < max (x * t - d) 0 then 0 else if min (x * t + (r + 1) * t + d - 1) 1099511627776 < k then 2 else 1
def standA (fit : Bool) (t d r k x : Int) : Int × Int := if fit && isTickB k && decide (0 ≤ x) then (standZ t d r k x, 0) else (0, 1)
theorem start_cases (fit : Bool) (t x : Int) (ht : fit = true → 1 ≤ t) : ((fit = false ∨ x < 0) ∧ startA fit t x = (0, 1)) ∨ (fit = true ∧ 0 ≤ x ∧ 1099511627776 < x * t ∧ startA fit t x = (0, 8)) ∨ (fit = true ∧ 0 ≤ x ∧ x ≤ 1099511627776 ∧ 0 ≤ x * t ∧ x * t ≤ 1099511627776 ∧ startA fit t x = (x * t, 0)) := by
  cases fit
  · exact .inl ⟨.inl rfl, startA_no t x⟩
  · by_cases h0 : x < 0
    · exact .inl ⟨.inr h0, startA_not h0⟩
    · have hp := prod_le (by omega : 0 ≤ x) (ht rfl)
      rw [startA_is (by omega)]
      unfold productA
      split
      · exact .inr (.inl ⟨rfl, by omega, by omega, rfl⟩)
      · exact .inr (.inr ⟨rfl, by omega, by omega, by omega, by omega, rfl⟩)
theorem fits_d {v s c n t d r k g : Int} (h : fitsC v s c n t d r k g = true) : 0 ≤ d ∧ d ≤ t ∧ 1 ≤ r ∧ r ≤ 64 := by
  have := (fitsC_iff v s c n t d r k g).1 h
  omega
theorem wide_bd {t r : Int} (h1 : 1 ≤ t) (h2 : t ≤ 1000) (h3 : 1 ≤ r) (h4 : r ≤ 64) : 1 ≤ (r + 1) * t ∧ (r + 1) * t ≤ 65000 := by
  have a1 := Int.mul_le_mul_of_nonneg_right (show (1 : Int) ≤ r + 1 by omega) (show 0 ≤ t by omega)
  have a2 := Int.mul_le_mul_of_nonneg_left h2 (show 0 ≤ r + 1 by omega)
  omega
set_option maxHeartbeats 1000000 in
set_option maxRecDepth 100000 in
theorem rOpens_any {v s c n t d r k g : Int} {fit : Bool} (hf : fitsC v s c n t d r k g = fit) (z : Int) (w : World) (x : Int) (hx : -9223372036854775808 ≤ x ∧ x ≤ 9223372036854775807) (R E : Int) (hR : opensA fit t d x = (R, E)) :
    Calls Tryd.prog 12 #[.agg #[.int .i64 v, .int .i64 s, .int .i64 c, .int .i64 n, .int .i64 t, .int .i64 d, .int .i64 r, .int .i64 k, .int .i64 g, .int .u64 z], .int .i64 x] w fun e w' => e = .returned (.tuple #[.int .i64 R, .int .i64 E]) ∧ Below w.heap.size w w' := by
  have hA0 : Below w.heap.size w (w.alloc (.cells #[.int .i64 v, .int .i64 s, .int .i64 c, .int .i64 n, .int .i64 t, .int .i64 d, .int .i64 r, .int .i64 k, .int .i64 g, .int .u64 z] 24)) := (Below.refl _ _).alloc (Nat.le_refl _) _
  have ht : fit = true → 1 ≤ t := fun h => (fits_t (hf.trans h)).1
  obtain ⟨_, hS⟩ | ⟨rfl, hx0, hm, hS⟩ | ⟨rfl, hx0, hx1, hq0, hq1, hS⟩ := start_cases fit t x ht
  · unfold opensA at hR; rw [hS, if_neg (by decide)] at hR
    obtain ⟨rfl, rfl⟩ := Prod.mk.inj hR
    clear hR
    go_enter Tryd.func12, Tryd.ntmps12
    go_wp2_with fail
    with_reducible refine (rStart_any hf z _ x hx _ _ hS).mono ?_
    rintro e w1 ⟨rfl, hb⟩
    go_wp2_with fail
    go_ret2
    exact ⟨rfl, box_bel (by simpa using hb)⟩
  · unfold opensA at hR; rw [hS, if_neg (by decide)] at hR
    obtain ⟨rfl, rfl⟩ := Prod.mk.inj hR
    clear hR
    go_enter Tryd.func12, Tryd.ntmps12
    go_wp2_with fail
    with_reducible refine (rStart_any hf z _ x hx _ _ hS).mono ?_
    rintro e w1 ⟨rfl, hb⟩
    go_wp2_with fail
    go_ret2
    exact ⟨rfl, box_bel (by simpa using hb)⟩
  · obtain ⟨ht1, ht2, hs1, hs2⟩ := fits_t hf
    obtain ⟨hd0, hd1, hr0, hr1⟩ := fits_d hf
    obtain ⟨hw1, hw2⟩ := wide_bd ht1 ht2 hr0 hr1
    unfold opensA at hR; rw [hS, if_pos rfl] at hR
    obtain ⟨rfl, rfl⟩ := Prod.mk.inj hR
    clear hR
    generalize x * t = q at *
    obtain ⟨hmx, hmy⟩ | ⟨hmx, hmy⟩ : (q - d < 0 ∧ max (q - d) 0 = 0) ∨ (0 ≤ q - d ∧ max (q - d) 0 = q - d) := by omega
    all_goals rw [hmy]; clear hmy
    all_goals
      go_enter Tryd.func12, Tryd.ntmps12
      go_wp2_with fail
      with_reducible refine (rStart_any hf z _ x hx _ _ hS).mono ?_
      rintro e w1 ⟨rfl, hb⟩
      have hbw := box_bel (by simpa using hb)
      have R1 : RowAt w1 w.heap.size 24 _ := (RowAt.new w 24 #[.int .i64 v, .int .i64 s, .int .i64 c, .int .i64 n, .int .i64 t, .int .i64 d, .int .i64 r, .int .i64 k, .int .i64 g, .int .u64 z]).below hb (by simp)
      have r4 : w1.cell? ⟨w.heap.size, 4, none⟩ = some (.int .i64 t) := by rw [R1.cell]; rfl
      have r5 : w1.cell? ⟨w.heap.size, 5, none⟩ = some (.int .i64 d) := by rw [R1.cell]; rfl
      have r6 : w1.cell? ⟨w.heap.size, 6, none⟩ = some (.int .i64 r) := by rw [R1.cell]; rfl
      go_wp2_with fail
      go_ret2
      exact ⟨rfl, hbw⟩
set_option maxHeartbeats 1000000 in
set_option maxRecDepth 100000 in
theorem rCloses_any {v s c n t d r k g : Int} {fit : Bool} (hf : fitsC v s c n t d r k g = fit) (z : Int) (w : World) (x : Int) (hx : -9223372036854775808 ≤ x ∧ x ≤ 9223372036854775807) (R E : Int) (hR : closesA fit t d r x = (R, E)) :
    Calls Tryd.prog 14 #[.agg #[.int .i64 v, .int .i64 s, .int .i64 c, .int .i64 n, .int .i64 t, .int .i64 d, .int .i64 r, .int .i64 k, .int .i64 g, .int .u64 z], .int .i64 x] w fun e w' => e = .returned (.tuple #[.int .i64 R, .int .i64 E]) ∧ Below w.heap.size w w' := by
  have hA0 : Below w.heap.size w (w.alloc (.cells #[.int .i64 v, .int .i64 s, .int .i64 c, .int .i64 n, .int .i64 t, .int .i64 d, .int .i64 r, .int .i64 k, .int .i64 g, .int .u64 z] 24)) := (Below.refl _ _).alloc (Nat.le_refl _) _
  have ht : fit = true → 1 ≤ t := fun h => (fits_t (hf.trans h)).1
  obtain ⟨_, hS⟩ | ⟨rfl, hx0, hm, hS⟩ | ⟨rfl, hx0, hx1, hq0, hq1, hS⟩ := start_cases fit t x ht
  · unfold closesA at hR; rw [hS, if_neg (by decide)] at hR
    obtain ⟨rfl, rfl⟩ := Prod.mk.inj hR
    clear hR
    go_enter Tryd.func14, Tryd.ntmps14
    go_wp2_with fail
    with_reducible refine (rStart_any hf z _ x hx _ _ hS).mono ?_
    rintro e w1 ⟨rfl, hb⟩
    go_wp2_with fail
    go_ret2
    exact ⟨rfl, box_bel (by simpa using hb)⟩
  · unfold closesA at hR; rw [hS, if_neg (by decide)] at hR
    obtain ⟨rfl, rfl⟩ := Prod.mk.inj hR
    clear hR
    go_enter Tryd.func14, Tryd.ntmps14
    go_wp2_with fail
    with_reducible refine (rStart_any hf z _ x hx _ _ hS).mono ?_
    rintro e w1 ⟨rfl, hb⟩
    go_wp2_with fail
    go_ret2
    exact ⟨rfl, box_bel (by simpa using hb)⟩
  · obtain ⟨ht1, ht2, hs1, hs2⟩ := fits_t hf
    obtain ⟨hd0, hd1, hr0, hr1⟩ := fits_d hf
    obtain ⟨hw1, hw2⟩ := wide_bd ht1 ht2 hr0 hr1
    unfold closesA at hR; rw [hS, if_pos rfl] at hR
    obtain ⟨rfl, rfl⟩ := Prod.mk.inj hR
    clear hR
    generalize x * t = q at *
    obtain ⟨hmx, hmy⟩ | ⟨hmx, hmy⟩ : (1099511627776 < q + (r + 1) * t + d - 1 ∧ min (q + (r + 1) * t + d - 1) 1099511627776 = 1099511627776) ∨ (q + (r + 1) * t + d - 1 ≤ 1099511627776 ∧ min (q + (r + 1) * t + d - 1) 1099511627776 = q + (r + 1) * t + d - 1) := by omega
    all_goals rw [hmy]; clear hmy
    all_goals
      go_enter Tryd.func14, Tryd.ntmps14
      go_wp2_with fail
      with_reducible refine (rStart_any hf z _ x hx _ _ hS).mono ?_
      rintro e w1 ⟨rfl, hb⟩
      have hbw := box_bel (by simpa using hb)
      have R1 : RowAt w1 w.heap.size 24 _ := (RowAt.new w 24 #[.int .i64 v, .int .i64 s, .int .i64 c, .int .i64 n, .int .i64 t, .int .i64 d, .int .i64 r, .int .i64 k, .int .i64 g, .int .u64 z]).below hb (by simp)
      have r4 : w1.cell? ⟨w.heap.size, 4, none⟩ = some (.int .i64 t) := by rw [R1.cell]; rfl
      have r5 : w1.cell? ⟨w.heap.size, 5, none⟩ = some (.int .i64 d) := by rw [R1.cell]; rfl
      have r6 : w1.cell? ⟨w.heap.size, 6, none⟩ = some (.int .i64 r) := by rw [R1.cell]; rfl
      go_wp2_with fail
      go_ret2
      exact ⟨rfl, hbw⟩
end Go.Proofs.YtjcpeimlebpglaaDoor
