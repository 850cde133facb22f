/- Layer 12, the program: a closure that holds to two bounds; when slots open and close. -/
import Derived.Test.YtjcpeimlebpglaaDoorWinC
import Derived.Test.YtjcpeimlebpglaaDoorBitW
import Derived.Lib.MinMax
namespace Go.Proofs.YtjcpeimlebpglaaDoor
open Go.RowKit

/-- a number held to the ticks there are -/
def heldT (x : Int) : Int := max 0 (min x 1099511627776)
set_option maxHeartbeats 1000000 in
set_option maxRecDepth 100000 in
theorem within_any (w : World) :
    Calls Tryd.prog 22 #[.int .i64 0, .int .i64 1099511627776] w fun e w' => e = .returned (.func (.func 28) #[] #[.pointer (some ⟨w.heap.size, 0, none⟩), .pointer (some ⟨w.heap.size + 1, 0, none⟩)]) ∧ w' = (w.alloc (.cells #[.int .i64 0] 3)).alloc (.cells #[.int .i64 1099511627776] 3) := by
  go_enter Tryd.func22, Tryd.ntmps22
  go_wp2_with fail
  go_ret
  exact ⟨rfl, rfl⟩
set_option maxHeartbeats 1000000 in
set_option maxRecDepth 100000 in
theorem hold_any (x m : Int) (w : World) (p q : Nat) (hp : w.cell? ⟨p, 0, none⟩ = some (.int .i64 0)) (hq : w.cell? ⟨q, 0, none⟩ = some (.int .i64 1099511627776)) (hx : -9223372036854775808 ≤ x ∧ x ≤ 9223372036854775807) (hm : heldT x = m) :
    Calls Tryd.prog 28 #[.int .i64 x, .pointer (some ⟨p, 0, none⟩), .pointer (some ⟨q, 0, none⟩)] w fun e w' => e = .returned (.int .i64 m) ∧ w' = w := by
  unfold heldT at hm
  obtain ⟨y, hy⟩ : ∃ y, min x 1099511627776 = y := ⟨_, rfl⟩
  rw [hy] at hm
  go_enter Tryd.func28, Tryd.ntmps28
  go_wp2_with fail
  go_ret
  exact ⟨by simp [hy, hm], rfl⟩
set_option maxHeartbeats 1000000 in
set_option maxRecDepth 100000 in
theorem wOpens_any {v s c n t d r k g : Int} {fit : Bool} (hf : fitsC v s c n t d r k g = fit) (z : Int) (w : World) (hT : Spans w) (x : Int) (hx : -9223372036854775808 ≤ x ∧ x ≤ 9223372036854775807) (R E : Int) (hR : opensA fit t d x = (R, E)) :
    Calls Tryd.prog 11 #[.agg #[.int .i64 v, .int .i64 s, .int .i64 c, .int .i64 n, .int .i64 t, .int .i64 d, .int .i64 r, .int .i64 k, .int .i64 g, .int .u64 z], .int .i64 x] w fun e w' => e = .returned (.tuple #[.int .i64 R, .int .i64 E]) ∧ Below w.heap.size w w' := by
  have hA0 : Below w.heap.size w (w.alloc (.cells #[.int .i64 v, .int .i64 s, .int .i64 c, .int .i64 n, .int .i64 t, .int .i64 d, .int .i64 r, .int .i64 k, .int .i64 g, .int .u64 z] 24)) := (Below.refl _ _).alloc (Nat.le_refl _) _
  have ht : fit = true → 1 ≤ t := fun h => (fits_t (hf.trans h)).1
  obtain ⟨_, hS⟩ | ⟨rfl, hx0, hm, hS⟩ | ⟨rfl, hx0, hx1, hq0, hq1, hS⟩ := start_cases fit t x ht
  · unfold opensA at hR; rw [hS, if_neg (by decide)] at hR
    obtain ⟨rfl, rfl⟩ := Prod.mk.inj hR
    clear hR
    go_enter Tryd.func11, Tryd.ntmps11
    go_wp2_with fail
    with_reducible refine (Start_any hf z _ (hT.on hA0) x hx _ _ hS).mono ?_
    rintro e w1 ⟨rfl, hb⟩
    go_wp2_with fail
    go_ret2
    exact ⟨rfl, box_bel (by simpa using hb)⟩
  · unfold opensA at hR; rw [hS, if_neg (by decide)] at hR
    obtain ⟨rfl, rfl⟩ := Prod.mk.inj hR
    clear hR
    go_enter Tryd.func11, Tryd.ntmps11
    go_wp2_with fail
    with_reducible refine (Start_any hf z _ (hT.on hA0) x hx _ _ hS).mono ?_
    rintro e w1 ⟨rfl, hb⟩
    go_wp2_with fail
    go_ret2
    exact ⟨rfl, box_bel (by simpa using hb)⟩
  · obtain ⟨ht1, ht2, hs1, hs2⟩ := fits_t hf
    obtain ⟨hd0, hd1, hr0, hr1⟩ := fits_d hf
    obtain ⟨hw1, hw2⟩ := wide_bd ht1 ht2 hr0 hr1
    unfold opensA at hR; rw [hS, if_pos rfl] at hR
    obtain ⟨rfl, rfl⟩ := Prod.mk.inj hR
    clear hR
    generalize x * t = q at *
    have hA : heldT (q - d) = max (q - d) 0 := by unfold heldT; omega
    generalize max (q - d) 0 = ans at *
    go_enter Tryd.func11, Tryd.ntmps11
    go_wp2_with fail
    with_reducible refine (Start_any hf z _ (hT.on hA0) x hx _ _ hS).mono ?_
    rintro e w1 ⟨rfl, hb⟩
    have hbw := box_bel (by simpa using hb)
    have R1 : RowAt w1 w.heap.size 24 [.int .i64 v, .int .i64 s, .int .i64 c, .int .i64 n, .int .i64 t, .int .i64 d, .int .i64 r, .int .i64 k, .int .i64 g, .int .u64 z] := (RowAt.new w 24 #[.int .i64 v, .int .i64 s, .int .i64 c, .int .i64 n, .int .i64 t, .int .i64 d, .int .i64 r, .int .i64 k, .int .i64 g, .int .u64 z]).below hb (by simp)
    go_wp2_with fail
    with_reducible refine (within_any _).mono ?_
    rintro e w2 ⟨rfl, hw⟩
    have q1 := (RowAt.new w1 3 #[.int .i64 0]).alloc (.cells #[.int .i64 1099511627776] 3)
    have q2 := RowAt.new (w1.alloc (.cells #[.int .i64 0] 3)) 3 #[.int .i64 1099511627776]
    rw [World.size_alloc] at q2
    have b2 := ((Below.refl w1.heap.size w1).alloc (Nat.le_refl _) (.cells #[.int .i64 0] 3)).alloc (by rw [World.size_alloc]; exact Nat.le_succ _) (.cells #[.int .i64 1099511627776] 3)
    rw [← hw] at q1 q2 b2
    clear hw
    replace R1 := R1.on b2
    have c1 := q1.cell 0
    have c2 := q2.cell 0
    simp only [List.getElem?_cons_zero] at c1 c2
    have r5 : w2.cell? ⟨w.heap.size, 5, none⟩ = some (.int .i64 d) := by rw [R1.cell]; rfl
    go_wp2_with fail
    with_reducible refine (hold_any (q - d) ans _ _ _ c1 c2 (by omega) hA).mono ?_
    rintro e w3 ⟨rfl, rfl⟩
    go_wp2_with fail
    go_ret2
    exact ⟨rfl, hbw.trans (b2.mono hbw.size)⟩
set_option maxHeartbeats 1000000 in
set_option maxRecDepth 100000 in
theorem wCloses_any {v s c n t d r k g : Int} {fit : Bool} (hf : fitsC v s c n t d r k g = fit) (z : Int) (w : World) (hT : Spans w) (x : Int) (hx : -9223372036854775808 ≤ x ∧ x ≤ 9223372036854775807) (R E : Int) (hR : closesA fit t d r x = (R, E)) :
    Calls Tryd.prog 13 #[.agg #[.int .i64 v, .int .i64 s, .int .i64 c, .int .i64 n, .int .i64 t, .int .i64 d, .int .i64 r, .int .i64 k, .int .i64 g, .int .u64 z], .int .i64 x] w fun e w' => e = .returned (.tuple #[.int .i64 R, .int .i64 E]) ∧ Below w.heap.size w w' := by
  have hA0 : Below w.heap.size w (w.alloc (.cells #[.int .i64 v, .int .i64 s, .int .i64 c, .int .i64 n, .int .i64 t, .int .i64 d, .int .i64 r, .int .i64 k, .int .i64 g, .int .u64 z] 24)) := (Below.refl _ _).alloc (Nat.le_refl _) _
  have ht : fit = true → 1 ≤ t := fun h => (fits_t (hf.trans h)).1
  obtain ⟨_, hS⟩ | ⟨rfl, hx0, hm, hS⟩ | ⟨rfl, hx0, hx1, hq0, hq1, hS⟩ := start_cases fit t x ht
  · unfold closesA at hR; rw [hS, if_neg (by decide)] at hR
    obtain ⟨rfl, rfl⟩ := Prod.mk.inj hR
    clear hR
    go_enter Tryd.func13, Tryd.ntmps13
    go_wp2_with fail
    with_reducible refine (Start_any hf z _ (hT.on hA0) x hx _ _ hS).mono ?_
    rintro e w1 ⟨rfl, hb⟩
    go_wp2_with fail
    go_ret2
    exact ⟨rfl, box_bel (by simpa using hb)⟩
  · unfold closesA at hR; rw [hS, if_neg (by decide)] at hR
    obtain ⟨rfl, rfl⟩ := Prod.mk.inj hR
    clear hR
    go_enter Tryd.func13, Tryd.ntmps13
    go_wp2_with fail
    with_reducible refine (Start_any hf z _ (hT.on hA0) x hx _ _ hS).mono ?_
    rintro e w1 ⟨rfl, hb⟩
    go_wp2_with fail
    go_ret2
    exact ⟨rfl, box_bel (by simpa using hb)⟩
  · obtain ⟨ht1, ht2, hs1, hs2⟩ := fits_t hf
    obtain ⟨hd0, hd1, hr0, hr1⟩ := fits_d hf
    obtain ⟨hw1, hw2⟩ := wide_bd ht1 ht2 hr0 hr1
    unfold closesA at hR; rw [hS, if_pos rfl] at hR
    obtain ⟨rfl, rfl⟩ := Prod.mk.inj hR
    clear hR
    generalize x * t = q at *
    have hA : heldT (q + (r + 1) * t + d - 1) = min (q + (r + 1) * t + d - 1) 1099511627776 := by unfold heldT; omega
    generalize min (q + (r + 1) * t + d - 1) 1099511627776 = ans at *
    go_enter Tryd.func13, Tryd.ntmps13
    go_wp2_with fail
    with_reducible refine (Start_any hf z _ (hT.on hA0) x hx _ _ hS).mono ?_
    rintro e w1 ⟨rfl, hb⟩
    have hbw := box_bel (by simpa using hb)
    have R1 : RowAt w1 w.heap.size 24 [.int .i64 v, .int .i64 s, .int .i64 c, .int .i64 n, .int .i64 t, .int .i64 d, .int .i64 r, .int .i64 k, .int .i64 g, .int .u64 z] := (RowAt.new w 24 #[.int .i64 v, .int .i64 s, .int .i64 c, .int .i64 n, .int .i64 t, .int .i64 d, .int .i64 r, .int .i64 k, .int .i64 g, .int .u64 z]).below hb (by simp)
    go_wp2_with fail
    with_reducible refine (within_any _).mono ?_
    rintro e w2 ⟨rfl, hw⟩
    have q1 := (RowAt.new w1 3 #[.int .i64 0]).alloc (.cells #[.int .i64 1099511627776] 3)
    have q2 := RowAt.new (w1.alloc (.cells #[.int .i64 0] 3)) 3 #[.int .i64 1099511627776]
    rw [World.size_alloc] at q2
    have b2 := ((Below.refl w1.heap.size w1).alloc (Nat.le_refl _) (.cells #[.int .i64 0] 3)).alloc (by rw [World.size_alloc]; exact Nat.le_succ _) (.cells #[.int .i64 1099511627776] 3)
    rw [← hw] at q1 q2 b2
    clear hw
    replace R1 := R1.on b2
    have c1 := q1.cell 0
    have c2 := q2.cell 0
    simp only [List.getElem?_cons_zero] at c1 c2
    have r4 : w2.cell? ⟨w.heap.size, 4, none⟩ = some (.int .i64 t) := by rw [R1.cell]; rfl
    have r5 : w2.cell? ⟨w.heap.size, 5, none⟩ = some (.int .i64 d) := by rw [R1.cell]; rfl
    have r6 : w2.cell? ⟨w.heap.size, 6, none⟩ = some (.int .i64 r) := by rw [R1.cell]; rfl
    go_wp2_with fail
    with_reducible refine (hold_any (q + (r + 1) * t + d - 1) ans _ _ _ c1 c2 (by omega) hA).mono ?_
    rintro e w3 ⟨rfl, rfl⟩
    go_wp2_with fail
    go_ret2
    exact ⟨rfl, hbw.trans (b2.mono hbw.size)⟩
end Go.Proofs.YtjcpeimlebpglaaDoor
