/- Layer 12, the program: which slots may come. -/
import Derived.Test.YtjcpeimlebpglaaDoorWinBp
import Derived.Test.YtjcpeimlebpglaaDoorLagL
import Derived.Deep.RegionWith
import Derived.Deep.QuietTactic
import Derived.BigQuiet
import Derived.Deep.Cut
namespace Go.Proofs.YtjcpeimlebpglaaDoor
open Go.RowKit

theorem SpanOf.unique {t d r y lo hi lo' hi' : Int} (h : SpanOf t d r y lo hi) (h' : SpanOf t d r y lo' hi') : lo = lo' ∧ hi = hi' := by
  obtain ⟨l0, ⟨o1, o2, o3⟩, la, ri, ea⟩ := h
  obtain ⟨l0', ⟨o1', o2', o3'⟩, la', ri', ea'⟩ := h'
  have n1 : ¬ lo < lo' := fun hh => by have a := la' lo l0 hh; have b := ri lo (by omega) (by omega); omega
  have n2 : ¬ lo' < lo := fun hh => by have a := la lo' l0' hh; have b := ri' lo' (by omega) (by omega); omega
  have n3 : ¬ hi < hi' := fun hh => by have a := ea hi' hh; have b := ri' hi' (by omega) (by omega); omega
  have n4 : ¬ hi' < hi := fun hh => by have a := ea' hi hh; have b := ri hi (by omega) (by omega); omega
  omega
/-- The span, as the program counts it. -/
theorem span_is {t d r y lo hi : Int} (ht : 1 ≤ t) (hd : 0 ≤ d) (hr : 0 ≤ r) (h0 : 0 ≤ y) (h1 : y ≤ 1099511627776) (h : SpanOf t d r y lo hi) : lo = max 0 (heldT (y - d) / t - r) ∧ hi = heldT (y + d) / t := by
  obtain ⟨T, rfl⟩ := Int.eq_ofNat_of_zero_le (show 0 ≤ t by omega)
  obtain ⟨D, rfl⟩ := Int.eq_ofNat_of_zero_le hd
  obtain ⟨R, rfl⟩ := Int.eq_ofNat_of_zero_le hr
  obtain ⟨K, rfl⟩ := Int.eq_ofNat_of_zero_le h0
  obtain ⟨e1, e2⟩ := h.unique (span_nat T D R K (by omega) (by omega))
  have a1 : heldT ((K : Int) - (D : Int)) = ((K - D : Nat) : Int) := by unfold heldT; omega
  have a2 : heldT ((K : Int) + (D : Int)) = ((min (K + D) 1099511627776 : Nat) : Int) := by unfold heldT; omega
  have e : ∀ a b : Nat, (a : Int) / (b : Int) = ((a / b : Nat) : Int) := fun _ _ => rfl
  rw [a1, a2, e, e, e1, e2]
  unfold lowW highW
  exact ⟨by omega, rfl⟩
set_option maxHeartbeats 1000000 in
set_option maxRecDepth 100000 in
theorem wSpan_no {v s c n t d r k g : Int} {fit : Bool} (hf : fitsC v s c n t d r k g = fit) (z : Int) (w : World) (hT : Spans w) (y : Int) (hy : -9223372036854775808 ≤ y ∧ y ≤ 9223372036854775807) (hno : (fit && isTickB y) = false) :
    Calls Tryd.prog 17 #[.agg #[.int .i64 v, .int .i64 s, .int .i64 c, .int .i64 n, .int .i64 t, .int .i64 d, .int .i64 r, .int .i64 k, .int .i64 g, .int .u64 z], .int .i64 y] w fun e w' => e = .returned (.tuple #[.int .i64 0, .int .i64 0, .int .i64 1]) ∧ Below w.heap.size w w' := by
  have hA0 : Below w.heap.size w (w.alloc (.cells #[.int .i64 v, .int .i64 s, .int .i64 c, .int .i64 n, .int .i64 t, .int .i64 d, .int .i64 r, .int .i64 k, .int .i64 g, .int .u64 z] 24)) := (Below.refl _ _).alloc (Nat.le_refl _) _
  have hS := slot_no (t := t) hno
  clear hno
  go_enter Tryd.func17, Tryd.ntmps17
  go_wp2_with fail
  with_reducible refine (SlotOf_any hf z _ (hT.on hA0) y hy _ _ hS).mono ?_
  rintro e w1 ⟨rfl, hb⟩
  have hbw := box_bel (by simpa using hb)
  have R1 : RowAt w1 w.heap.size 24 [.int .i64 v, .int .i64 s, .int .i64 c, .int .i64 n, .int .i64 t, .int .i64 d, .int .i64 r, .int .i64 k, .int .i64 g, .int .u64 z] := (RowAt.new w 24 #[.int .i64 v, .int .i64 s, .int .i64 c, .int .i64 n, .int .i64 t, .int .i64 d, .int .i64 r, .int .i64 k, .int .i64 g, .int .u64 z]).below hb (by simp)
  have hT1 := hT.on hbw
  go_wp2_with fail
  refine bodyPost_ret (v := .tuple #[.int .i64 0, .int .i64 0, .int .i64 1]) (by simp [results, Tryd.results17, go_sem]) rfl ?_
  exact ⟨rfl, hbw⟩
set_option maxHeartbeats 1000000 in
set_option maxRecDepth 100000 in
theorem wSpan_yes {v s c n t d r k g : Int} (hf : fitsC v s c n t d r k g = true) (z : Int) (w : World) (hT : Spans w) (y : Int) (hy : 0 ≤ y ∧ y ≤ 1099511627776) (lo hi : Int) (hS : SpanOf t d r y lo hi) :
    Calls Tryd.prog 17 #[.agg #[.int .i64 v, .int .i64 s, .int .i64 c, .int .i64 n, .int .i64 t, .int .i64 d, .int .i64 r, .int .i64 k, .int .i64 g, .int .u64 z], .int .i64 y] w fun e w' => e = .returned (.tuple #[.int .i64 lo, .int .i64 hi, .int .i64 0]) ∧ Below w.heap.size w w' := by
  obtain ⟨ht1, ht2, hs1, hs2⟩ := fits_t hf
  obtain ⟨hd0, hd1, hr0, hr1⟩ := fits_d hf
  obtain ⟨hy0, hy1⟩ := hy
  have hy : -9223372036854775808 ≤ y ∧ y ≤ 9223372036854775807 := by omega
  obtain ⟨e1, e2⟩ := span_is ht1 hd0 (by omega) hy0 hy1 hS
  clear hS
  have hS := slot_yes (t := t) hy0 hy1
  generalize y / t = q at *
  obtain ⟨p1, hp1⟩ : ∃ p, heldT (y - d) = p := ⟨_, rfl⟩
  obtain ⟨p2, hp2⟩ : ∃ p, heldT (y + d) = p := ⟨_, rfl⟩
  rw [hp1] at e1
  rw [hp2] at e2
  have b1 : 0 ≤ p1 ∧ p1 ≤ 1099511627776 := by unfold heldT at hp1; omega
  have b2 : 0 ≤ p2 ∧ p2 ≤ 1099511627776 := by unfold heldT at hp2; omega
  have hS1 := slot_yes (t := t) b1.1 b1.2
  have hS2 := slot_yes (t := t) b2.1 b2.2
  have d1 := div_bd b1.1 (by omega) ht1
  have d2 := div_bd b2.1 (by omega) ht1
  rw [← e2] at hS2 d2
  clear e2
  generalize p1 / t = q1 at *
  have hp1' := Lib.hid hp1
  have hp2' := Lib.hid hp2
  clear hp1 hp2
  have e1' := e1.symm
  clear e1
  have hA0 : Below w.heap.size w (w.alloc (.cells #[.int .i64 v, .int .i64 s, .int .i64 c, .int .i64 n, .int .i64 t, .int .i64 d, .int .i64 r, .int .i64 k, .int .i64 g, .int .u64 z] 24)) := (Below.refl _ _).alloc (Nat.le_refl _) _
  go_enter Tryd.func17, Tryd.ntmps17
  go_wp2_with fail
  with_reducible refine (SlotOf_any hf z _ (hT.on hA0) y hy _ _ hS).mono ?_
  rintro e w1 ⟨rfl, hb⟩
  have hbw := box_bel (by simpa using hb)
  have R1 : RowAt w1 w.heap.size 24 [.int .i64 v, .int .i64 s, .int .i64 c, .int .i64 n, .int .i64 t, .int .i64 d, .int .i64 r, .int .i64 k, .int .i64 g, .int .u64 z] := (RowAt.new w 24 #[.int .i64 v, .int .i64 s, .int .i64 c, .int .i64 n, .int .i64 t, .int .i64 d, .int .i64 r, .int .i64 k, .int .i64 g, .int .u64 z]).below hb (by simp)
  have hT1 := hT.on hbw
  go_wp2_with fail
  with_reducible refine (within_any _).mono ?_
  rintro e w2 ⟨rfl, hw⟩
  have x1 := (RowAt.new w1 3 #[.int .i64 0]).alloc (.cells #[.int .i64 1099511627776] 3)
  have x2 := RowAt.new (w1.alloc (.cells #[.int .i64 0] 3)) 3 #[.int .i64 1099511627776]
  rw [World.size_alloc] at x2
  have bw2 := ((Below.refl w1.heap.size w1).alloc (Nat.le_refl _) (.cells #[.int .i64 0] 3)).alloc (by rw [World.size_alloc]; exact Nat.le_succ _) (.cells #[.int .i64 1099511627776] 3)
  rw [← hw] at x1 x2 bw2
  clear hw
  replace R1 := R1.on bw2
  have hbx := hbw.trans (bw2.mono hbw.size)
  have hT5 := hT.on hbx
  have cH : ∀ p : Later w2, Calls Tryd.prog 28 #[.int .i64 (y - d), .pointer (some ⟨w1.heap.size, 0, none⟩), .pointer (some ⟨w1.heap.size + 1, 0, none⟩)] p.W fun e w_ => e = .returned (.int .i64 p1) ∧ ∃ p : Later w2, w_ = p.W := fun p => later_same ((hold_any (y - d) _ _ _ _ (((x1.on p.h).cell 0).trans rfl) (((x2.on p.h).cell 0).trans rfl) (by omega) hp1'.out).mono fun _ _ ⟨a, b⟩ => ⟨a, b.symm⟩)
  have cS : ∀ p : Later w2, Calls Tryd.prog 19 #[.agg #[.int .i64 v, .int .i64 s, .int .i64 c, .int .i64 n, .int .i64 t, .int .i64 d, .int .i64 r, .int .i64 k, .int .i64 g, .int .u64 z], .int .i64 p1] p.W fun e w_ => e = .returned (.tuple #[.int .i64 q1, .int .i64 0]) ∧ ∃ p : Later w2, w_ = p.W := fun p => later_of (SlotOf_any hf z _ (hT5.on p.h) p1 (by omega) _ _ hS1)
  have y0 : ∀ p : Later w2, p.W.cell? ⟨w.heap.size, 0, none⟩ = some (.int .i64 v) := fun p => ((R1.on p.h).cell 0).trans rfl
  have y1 : ∀ p : Later w2, p.W.cell? ⟨w.heap.size, 1, none⟩ = some (.int .i64 s) := fun p => ((R1.on p.h).cell 1).trans rfl
  have y2 : ∀ p : Later w2, p.W.cell? ⟨w.heap.size, 2, none⟩ = some (.int .i64 c) := fun p => ((R1.on p.h).cell 2).trans rfl
  have y3 : ∀ p : Later w2, p.W.cell? ⟨w.heap.size, 3, none⟩ = some (.int .i64 n) := fun p => ((R1.on p.h).cell 3).trans rfl
  have y4 : ∀ p : Later w2, p.W.cell? ⟨w.heap.size, 4, none⟩ = some (.int .i64 t) := fun p => ((R1.on p.h).cell 4).trans rfl
  have y5 : ∀ p : Later w2, p.W.cell? ⟨w.heap.size, 5, none⟩ = some (.int .i64 d) := fun p => ((R1.on p.h).cell 5).trans rfl
  have y6 : ∀ p : Later w2, p.W.cell? ⟨w.heap.size, 6, none⟩ = some (.int .i64 r) := fun p => ((R1.on p.h).cell 6).trans rfl
  have y7 : ∀ p : Later w2, p.W.cell? ⟨w.heap.size, 7, none⟩ = some (.int .i64 k) := fun p => ((R1.on p.h).cell 7).trans rfl
  have y8 : ∀ p : Later w2, p.W.cell? ⟨w.heap.size, 8, none⟩ = some (.int .i64 g) := fun p => ((R1.on p.h).cell 8).trans rfl
  have y9 : ∀ p : Later w2, p.W.cell? ⟨w.heap.size, 9, none⟩ = some (.int .u64 z) := fun p => ((R1.on p.h).cell 9).trans rfl
  go_upto_region 5 with (fail)
  refine wp_region_later (by kernel_rfl) (by kernel_rfl) ?_
  repeat (go_big_quiet_step (first | (go_at_call 28; exact cH _) | (go_at_call 19; exact cS _)))
  refine wpQuiet_nil ?_
  intro _ hw'
  obtain ⟨pq, rfl⟩ := hw'
  have bq := pq.h
  replace R1 := R1.on bq
  replace x1 := x1.on bq
  replace x2 := x2.on bq
  have hby := hbx.trans (bq.mono hbx.size)
  clear cH cS y0 y1 y2 y3 y4 y5 y6 y7 y8 y9 bq
  generalize pq.W = w3 at *
  clear pq
  have hT6 := hT.on hby
  have cH : ∀ p : Later w3, Calls Tryd.prog 28 #[.int .i64 (y + d), .pointer (some ⟨w1.heap.size, 0, none⟩), .pointer (some ⟨w1.heap.size + 1, 0, none⟩)] p.W fun e w_ => e = .returned (.int .i64 p2) ∧ ∃ p : Later w3, w_ = p.W := fun p => later_same ((hold_any (y + d) _ _ _ _ (((x1.on p.h).cell 0).trans rfl) (((x2.on p.h).cell 0).trans rfl) (by omega) hp2'.out).mono fun _ _ ⟨a, b⟩ => ⟨a, b.symm⟩)
  have cS : ∀ p : Later w3, Calls Tryd.prog 19 #[.agg #[.int .i64 v, .int .i64 s, .int .i64 c, .int .i64 n, .int .i64 t, .int .i64 d, .int .i64 r, .int .i64 k, .int .i64 g, .int .u64 z], .int .i64 p2] p.W fun e w_ => e = .returned (.tuple #[.int .i64 hi, .int .i64 0]) ∧ ∃ p : Later w3, w_ = p.W := fun p => later_of (SlotOf_any hf z _ (hT6.on p.h) p2 (by omega) _ _ hS2)
  have y0 : ∀ p : Later w3, p.W.cell? ⟨w.heap.size, 0, none⟩ = some (.int .i64 v) := fun p => ((R1.on p.h).cell 0).trans rfl
  have y1 : ∀ p : Later w3, p.W.cell? ⟨w.heap.size, 1, none⟩ = some (.int .i64 s) := fun p => ((R1.on p.h).cell 1).trans rfl
  have y2 : ∀ p : Later w3, p.W.cell? ⟨w.heap.size, 2, none⟩ = some (.int .i64 c) := fun p => ((R1.on p.h).cell 2).trans rfl
  have y3 : ∀ p : Later w3, p.W.cell? ⟨w.heap.size, 3, none⟩ = some (.int .i64 n) := fun p => ((R1.on p.h).cell 3).trans rfl
  have y4 : ∀ p : Later w3, p.W.cell? ⟨w.heap.size, 4, none⟩ = some (.int .i64 t) := fun p => ((R1.on p.h).cell 4).trans rfl
  have y5 : ∀ p : Later w3, p.W.cell? ⟨w.heap.size, 5, none⟩ = some (.int .i64 d) := fun p => ((R1.on p.h).cell 5).trans rfl
  have y6 : ∀ p : Later w3, p.W.cell? ⟨w.heap.size, 6, none⟩ = some (.int .i64 r) := fun p => ((R1.on p.h).cell 6).trans rfl
  have y7 : ∀ p : Later w3, p.W.cell? ⟨w.heap.size, 7, none⟩ = some (.int .i64 k) := fun p => ((R1.on p.h).cell 7).trans rfl
  have y8 : ∀ p : Later w3, p.W.cell? ⟨w.heap.size, 8, none⟩ = some (.int .i64 g) := fun p => ((R1.on p.h).cell 8).trans rfl
  have y9 : ∀ p : Later w3, p.W.cell? ⟨w.heap.size, 9, none⟩ = some (.int .u64 z) := fun p => ((R1.on p.h).cell 9).trans rfl
  go_upto_region 6 with (fail)
  refine wp_region_later (by kernel_rfl) (by kernel_rfl) ?_
  repeat (go_big_quiet_step (first | (go_at_call 28; exact cH _) | (go_at_call 19; exact cS _)))
  refine wpQuiet_nil ?_
  intro _ hw'
  obtain ⟨pq, rfl⟩ := hw'
  have bq := pq.h
  replace R1 := R1.on bq
  replace x1 := x1.on bq
  replace x2 := x2.on bq
  have hbz := hby.trans (bq.mono hby.size)
  clear cH cS y0 y1 y2 y3 y4 y5 y6 y7 y8 y9 bq
  generalize pq.W = w4 at *
  clear pq
  have r6 : w4.cell? ⟨w.heap.size, 6, none⟩ = some (.int .i64 r) := by rw [R1.cell]; rfl
  go_wp2_with fail
  refine bodyPost_ret (v := .tuple #[.int .i64 lo, .int .i64 hi, .int .i64 0]) (by simp [results, Tryd.results17, go_sem, e1']) rfl ?_
  exact ⟨rfl, hbz⟩
end Go.Proofs.YtjcpeimlebpglaaDoor
