/- Layer 13, the program: marks held against each other by a row of methods. -/
import Derived.Test.YtcamhaeelkjigaaSenK
namespace Go.Proofs.Ytcamhaeelkjigaa
open Go.RowKit

set_option maxHeartbeats 2000000 in
set_option maxRecDepth 100000 in
theorem scompare_any (a1 a2 a3 b1 b2 b3 : Int) (g c : Nat) (t : TypeId) (w : World) (hr : RowAt w g t [.func (.func 35) #[] #[], .func (.func 36) #[] #[], .func (.func 37) #[] #[]]) :
    Calls Try.prog 34 #[.agg #[.int .i64 a1, .int .i64 a2, .int .i64 a3], .agg #[.int .i64 b1, .int .i64 b2, .int .i64 b3], .slice (some ⟨g, 0, none⟩) 3 c] w fun e w' => e = .returned (.int .i64 (cmpM (a1, a2, a3) (b1, b2, b3))) ∧ Below w.heap.size w w' := by
  have HC1 := Lib.hid (fun (h : a1 ≠ b1) => cmpM_1 (a2 := a2) (a3 := a3) (b2 := b2) (b3 := b3) h)
  have HC2 := Lib.hid (fun (h : a2 ≠ b2) => cmpM_2 (a1 := a1) (a3 := a3) (b3 := b3) h)
  have HC3 := Lib.hid (cmpM_3 (a1 := a1) (a2 := a2) (a3 := a3) (b3 := b3))
  have hA := (Below.refl w.heap.size w).alloc (Nat.le_refl _) (.cells #[.int .i64 a1, .int .i64 a2, .int .i64 a3] 62)
  have q1 := RowAt.new w 62 #[.int .i64 a1, .int .i64 a2, .int .i64 a3]
  go_enter Try.func34, Try.ntmps34
  go_upto_region 1 with (fail)
  obtain ⟨w1, hw1⟩ : ∃ w1, w1 = w.alloc (.cells #[.int .i64 a1, .int .i64 a2, .int .i64 a3] 62) := ⟨_, rfl⟩
  rw [← hw1] at hA q1 ⊢
  have hs1 : w1.heap.size = w.heap.size + 1 := by rw [hw1]; simp
  have hB := hA.alloc hA.size (.cells #[.int .i64 b1, .int .i64 b2, .int .i64 b3] 62)
  have q2 := RowAt.new w1 62 #[.int .i64 b1, .int .i64 b2, .int .i64 b3]
  replace q1 := q1.on ((Below.refl _ w1).alloc (Nat.le_refl _) (.cells #[.int .i64 b1, .int .i64 b2, .int .i64 b3] 62))
  replace hr := hr.on hB
  generalize w1.alloc (.cells #[.int .i64 b1, .int .i64 b2, .int .i64 b3] 62) = w2 at *
  rw [hs1] at q2
  clear hw1 hA hs1
  go_wp2_with fail
  go_loopw [12] (fun i wr => ∃ k : Nat, k ≤ 3 ∧ i = .int .i64 k ∧ (0 < k → a1 = b1) ∧ (1 < k → a2 = b2) ∧ (2 < k → a3 = b3) ∧ Below w2.heap.size w2 wr) (fun i _ => 3 - (intOf i).toNat)
  case atStart => exact ⟨0, by omega, rfl, by omega, by omega, by omega, Below.refl _ _⟩
  case round =>
    obtain ⟨k, hk, rfl, h1, h2, h3, hb⟩ := hrel
    have hbw := hB.trans (hb.mono hB.size)
    replace hr := hr.on hb
    replace q1 := q1.on hb
    replace q2 := q2.on hb
    clear hB
    obtain ⟨c0, c1, c2⟩ : wr.cell? ⟨g, 0, none⟩ = some (.func (.func 35) #[] #[]) ∧ wr.cell? ⟨g, 1, none⟩ = some (.func (.func 36) #[] #[]) ∧ wr.cell? ⟨g, 2, none⟩ = some (.func (.func 37) #[] #[]) := ⟨hr.cell 0, hr.cell 1, hr.cell 2⟩
    have x1 := row_later q1 0 _ rfl
    have x2 := row_later q1 1 _ rfl
    have x3 := row_later q1 2 _ rfl
    have y1 := row_later q2 0 _ rfl
    have y2 := row_later q2 1 _ rfl
    have y3 := row_later q2 2 _ rfl
    clear q1 q2 hr
    obtain rfl | rfl | rfl | rfl : k = 0 ∨ k = 1 ∨ k = 2 ∨ k = 3 := by omega
    · clear h1 h2 h3
      have cA := fun W => epoch_any a1 a2 a3 W
      have cB := fun W => epoch_any b1 b2 b3 W
      have cC := fun W => cmpc_any a1 b1 W
      by_cases hx : a1 = b1
      · subst hx
        rw [cmpI_eq] at cC
        go_upto_region 4 with (fail)
        refine wp_region_later (by kernel_rfl) (by kernel_rfl) ?_
        repeat (go_big_quiet_step (first | (go_at_call 35; first | exact later_of (cA _) | exact later_of (cB _)) | (go_at_call 38; exact later_eq (cC _))))
        refine wpQuiet_nil ?_
        intro _ hw'
        obtain ⟨pq, rfl⟩ := hw'
        have hbn : Below w2.heap.size w2 pq.W := hb.trans (pq.h.mono hb.size)
        clear c0 c1 c2 x1 x2 x3 y1 y2 y3 cA cB cC
        generalize pq.W = w3 at *
        go_wp2_with fail
        go_roundw
        case rel => exact ⟨1, by omega, rfl, by simp, by omega, by omega, hbn⟩
        case measure => simp [intOf]
      · have HF := Lib.hid (HC1.out hx)
        have hz : ¬ (cmpI a1 b1 = 0) := fun h => hx (cmpI_zero.1 h)
        clear hx
        generalize cmpI a1 b1 = r at *
        have g1 : (r == 0) = false := by simpa using hz
        have g2 : (r = 0) = False := eq_false hz
        clear hz
        go_upto_region 4 with (fail)
        refine wp_region_later (by kernel_rfl) (by kernel_rfl) ?_
        repeat (go_big_quiet_step (first | (go_at_call 35; first | exact later_of (cA _) | exact later_of (cB _)) | (go_at_call 38; exact later_eq (cC _))))
        refine wpQuiet_nil ?_
        intro _ hw'
        obtain ⟨pq, rfl⟩ := hw'
        have hbn : Below w.heap.size w pq.W := hbw.trans (pq.h.mono hbw.size)
        clear c0 c1 c2 x1 x2 x3 y1 y2 y3 cA cB cC
        generalize pq.W = w3 at *
        go_wp2_with fail
        go_ret
        exact ⟨by rw [HF.out]; rfl, hbn⟩
    · obtain rfl := h1 (by omega)
      clear h1 h2 h3
      have cA := fun W => kind_any a1 a2 a3 W
      have cB := fun W => kind_any a1 b2 b3 W
      have cC := fun W => cmpc_any a2 b2 W
      by_cases hx : a2 = b2
      · subst hx
        rw [cmpI_eq] at cC
        go_upto_region 4 with (fail)
        refine wp_region_later (by kernel_rfl) (by kernel_rfl) ?_
        repeat (go_big_quiet_step (first | (go_at_call 36; first | exact later_of (cA _) | exact later_of (cB _)) | (go_at_call 38; exact later_eq (cC _))))
        refine wpQuiet_nil ?_
        intro _ hw'
        obtain ⟨pq, rfl⟩ := hw'
        have hbn : Below w2.heap.size w2 pq.W := hb.trans (pq.h.mono hb.size)
        clear c0 c1 c2 x1 x2 x3 y1 y2 y3 cA cB cC
        generalize pq.W = w3 at *
        go_wp2_with fail
        go_roundw
        case rel => exact ⟨2, by omega, rfl, by simp, by simp, by omega, hbn⟩
        case measure => simp [intOf]
      · have HF := Lib.hid (HC2.out hx)
        have hz : ¬ (cmpI a2 b2 = 0) := fun h => hx (cmpI_zero.1 h)
        clear hx
        generalize cmpI a2 b2 = r at *
        have g1 : (r == 0) = false := by simpa using hz
        have g2 : (r = 0) = False := eq_false hz
        clear hz
        go_upto_region 4 with (fail)
        refine wp_region_later (by kernel_rfl) (by kernel_rfl) ?_
        repeat (go_big_quiet_step (first | (go_at_call 36; first | exact later_of (cA _) | exact later_of (cB _)) | (go_at_call 38; exact later_eq (cC _))))
        refine wpQuiet_nil ?_
        intro _ hw'
        obtain ⟨pq, rfl⟩ := hw'
        have hbn : Below w.heap.size w pq.W := hbw.trans (pq.h.mono hbw.size)
        clear c0 c1 c2 x1 x2 x3 y1 y2 y3 cA cB cC
        generalize pq.W = w3 at *
        go_wp2_with fail
        go_ret
        exact ⟨by rw [HF.out]; rfl, hbn⟩
    · obtain rfl := h1 (by omega)
      obtain rfl := h2 (by omega)
      clear h1 h2 h3
      have cA := fun W => who_any a1 a2 a3 W
      have cB := fun W => who_any a1 a2 b3 W
      have cC := fun W => cmpc_any a3 b3 W
      by_cases hx : a3 = b3
      · subst hx
        rw [cmpI_eq] at cC
        go_upto_region 4 with (fail)
        refine wp_region_later (by kernel_rfl) (by kernel_rfl) ?_
        repeat (go_big_quiet_step (first | (go_at_call 37; first | exact later_of (cA _) | exact later_of (cB _)) | (go_at_call 38; exact later_eq (cC _))))
        refine wpQuiet_nil ?_
        intro _ hw'
        obtain ⟨pq, rfl⟩ := hw'
        have hbn : Below w2.heap.size w2 pq.W := hb.trans (pq.h.mono hb.size)
        clear c0 c1 c2 x1 x2 x3 y1 y2 y3 cA cB cC
        generalize pq.W = w3 at *
        go_wp2_with fail
        go_roundw
        case rel => exact ⟨3, by omega, rfl, by simp, by simp, by simp, hbn⟩
        case measure => simp [intOf]
      · have HF := Lib.hid (HC3.out)
        have hz : ¬ (cmpI a3 b3 = 0) := fun h => hx (cmpI_zero.1 h)
        clear hx
        generalize cmpI a3 b3 = r at *
        have g1 : (r == 0) = false := by simpa using hz
        have g2 : (r = 0) = False := eq_false hz
        clear hz
        go_upto_region 4 with (fail)
        refine wp_region_later (by kernel_rfl) (by kernel_rfl) ?_
        repeat (go_big_quiet_step (first | (go_at_call 37; first | exact later_of (cA _) | exact later_of (cB _)) | (go_at_call 38; exact later_eq (cC _))))
        refine wpQuiet_nil ?_
        intro _ hw'
        obtain ⟨pq, rfl⟩ := hw'
        have hbn : Below w.heap.size w pq.W := hbw.trans (pq.h.mono hbw.size)
        clear c0 c1 c2 x1 x2 x3 y1 y2 y3 cA cB cC
        generalize pq.W = w3 at *
        go_wp2_with fail
        go_ret
        exact ⟨by rw [HF.out]; rfl, hbn⟩
    · obtain rfl := h1 (by omega)
      obtain rfl := h2 (by omega)
      obtain rfl := h3 (by omega)
      have HF := Lib.hid (cmpM_3 (a1 := a1) (a2 := a2) (a3 := a3) (b3 := a3) |>.trans (cmpI_eq a3))
      clear h1 h2 h3 HC1 HC2 HC3 c0 c1 c2 x1 x2 x3 y1 y2 y3
      go_wp2_with fail
      go_ret
      exact ⟨by rw [HF.out]; rfl, hbw⟩
end Go.Proofs.Ytcamhaeelkjigaa
