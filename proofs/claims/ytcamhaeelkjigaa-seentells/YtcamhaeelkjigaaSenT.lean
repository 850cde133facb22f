/- Layer 13, the program: Right. -/
import Derived.Test.YtcamhaeelkjigaaSenR
namespace Go.Proofs.Ytcamhaeelkjigaa
open Go.RowKit

set_option maxHeartbeats 1000000 in
theorem sRight_any (v : Value) (l : List Mk) (w : World) (hv : Mks w w.heap.size v l) (h9 : l.length ≤ maxLen) :
    Calls Try.prog 22 #[v] w fun e w' => e = .returned (.bool (rightMB l)) ∧ Below w.heap.size w w' := by
  obtain ⟨A, c, rfl, hc⟩ := hv.form
  have h9' : l.length ≤ 9223372036854775807 := h9
  go_enter Try.func22, Try.ntmps22
  go_wp2_with fail
  go_loopw [7] (fun i wr => ∃ k : Nat, k ≤ l.length ∧ i = .int .i64 k ∧ RightM (l.take k) ∧ Below w.heap.size w wr) (fun i _ => l.length - (intOf i).toNat)
  case atStart => exact ⟨0, Nat.zero_le _, rfl, by rw [List.take_zero]; exact RightM.nil, Below.refl _ _⟩
  case round =>
    obtain ⟨k, hk, rfl, hs, hb⟩ := hrel
    by_cases hlt : k < l.length
    · have g1 : ((k : Int) < (l.length : Int)) = True := eq_true (by omega)
      have g2 : (k < l.length) = True := eq_true hlt
      have HS := Lib.hid (fun (hm : mayM l[k]) (ha : ∀ _ : 0 < k, aheadM l[k - 1] l[k]) => right_snoc k hlt hs hm ha)
      have HN1 := Lib.hid (show mayMB l[k] = false → rightMB l = false from fun h0 => decide_eq_false fun h => absurd (h.may k hlt) (of_decide_eq_false h0))
      have HN2 := Lib.hid (show ∀ h : 0 < k, ¬ cmpM l[k - 1] l[k] < 0 → rightMB l = false from fun hk0 h0 => decide_eq_false fun h => absurd ((cmpM_neg _ _).2 (h.lt (k - 1) k (by omega) hlt)) h0)
      obtain ⟨ad, rfl, hc1, hc2, hc3⟩ := hv.cells hb hlt
      have z1 : wr.cell? (ad.add (k * 3)) = _ := hc1 ⟨wr, Below.refl _ _⟩
      have z2 : wr.cell? ⟨(ad.add (k * 3)).block, (ad.add (k * 3)).off + 1, none⟩ = _ := hc2 ⟨wr, Below.refl _ _⟩
      have z3 : wr.cell? ⟨(ad.add (k * 3)).block, (ad.add (k * 3)).off + 2, none⟩ = _ := hc3 ⟨wr, Below.refl _ _⟩
      clear hs
      go_upto_region 4 with (fail)
      have q8 := RowAt.new wr 25 #[.int .i64 (l[k]).1, .int .i64 (l[k]).2.1, .int .i64 (l[k]).2.2]
      have hb1 := hb.alloc hb.size (.cells #[.int .i64 (l[k]).1, .int .i64 (l[k]).2.1, .int .i64 (l[k]).2.2] 25)
      generalize wr.alloc (.cells #[.int .i64 (l[k]).1, .int .i64 (l[k]).2.1, .int .i64 (l[k]).2.2] 25) = w1 at *
      clear z1 z2 z3 hc1 hc2 hc3
      have x1 := row_later q8 0 _ rfl
      have x2 := row_later q8 1 _ rfl
      have x3 := row_later q8 2 _ rfl
      have cM := fun W => sfits_at l[k] W
      have hz := hb1.size
      cases hm : mayMB l[k]
      · have HF := Lib.hid (HN1.out hm)
        rw [hm] at cM
        clear HN1 HN2 HS hm
        refine wp_region_later (by kernel_rfl) (by kernel_rfl) ?_
        repeat (go_big_quiet_step (first | (go_at_call 24; exact later_of (cM _))))
        refine wpQuiet_nil ?_
        intro _ hw'
        obtain ⟨pq, rfl⟩ := hw'
        go_wp2_with fail
        go_ret
        exact ⟨by rw [HF.out]; rfl, hb1.trans (pq.h.mono hz)⟩
      · by_cases hk0 : 0 < k
        · obtain ⟨j, rfl⟩ : ∃ j, k = j + 1 := ⟨k - 1, by omega⟩
          obtain ⟨_, e, hd1, hd2, hd3⟩ := hv.cells hb1 (show j < l.length by omega)
          cases e
          have ej : ((j + 1 : Nat) : Int) - 1 = (j : Int) := by omega
          have gz : ((0 : Int) < ((j + 1 : Nat) : Int)) = True := eq_true (by omega)
          have cA := fun W => sorder_at l[j] l[j + 1] W
          have HS2 := Lib.hid (fun (h0 : cmpM l[j] l[j + 1] < 0) => HS.out (of_decide_eq_true hm) (fun _ => (cmpM_neg _ _).1 h0))
          have HN3 := Lib.hid (show ¬ cmpM l[j] l[j + 1] < 0 → rightMB l = false from fun h0 => HN2.out (by omega) h0)
          rw [hm] at cM
          clear HS HN1 HN2 hm
          generalize cmpM l[j] l[j + 1] = r at *
          by_cases hr : r < 0
          · have hs2 := HS2.out hr
            have gr : (0 ≤ r) = False := eq_false (by omega)
            have gr2 : decide (0 ≤ r) = false := by simp; omega
            clear HS2 HN3 hr
            refine wp_region_later (by kernel_rfl) (by kernel_rfl) ?_
            repeat (go_big_quiet_step (first | (go_at_call 24; exact later_of (cM _)) | (go_at_call 30; exact later_of (cA _))))
            refine wpQuiet_nil ?_
            intro _ hw'
            obtain ⟨pq, rfl⟩ := hw'
            have hbn : Below w.heap.size w pq.W := hb1.trans (pq.h.mono hz)
            generalize pq.W = w3 at *
            go_wp2_with fail
            go_roundw
            case rel => exact ⟨j + 1 + 1, by omega, by go_num, hs2, hbn⟩
            case measure => simp [intOf]; omega
          · have HF := Lib.hid (HN3.out hr)
            have gr : (0 ≤ r) = True := eq_true (by omega)
            have gr2 : decide (0 ≤ r) = true := by simp; omega
            clear HS2 HN3 hr
            refine wp_region_later (by kernel_rfl) (by kernel_rfl) ?_
            repeat (go_big_quiet_step (first | (go_at_call 24; exact later_of (cM _)) | (go_at_call 30; exact later_of (cA _))))
            refine wpQuiet_nil ?_
            intro _ hw'
            obtain ⟨pq, rfl⟩ := hw'
            have hbn : Below w.heap.size w pq.W := hb1.trans (pq.h.mono hz)
            generalize pq.W = w3 at *
            go_wp2_with fail
            go_ret
            exact ⟨by rw [HF.out]; rfl, hbn⟩
        · obtain rfl : k = 0 := by omega
          have hs2 := HS.out (of_decide_eq_true hm) (fun h => absurd h (by omega))
          rw [hm] at cM
          clear HS HN1 HN2 hm
          refine wp_region_later (by kernel_rfl) (by kernel_rfl) ?_
          repeat (go_big_quiet_step (first | (go_at_call 24; exact later_of (cM _))))
          refine wpQuiet_nil ?_
          intro _ hw'
          obtain ⟨pq, rfl⟩ := hw'
          go_wp2_with fail
          go_roundw
          case rel => exact ⟨0 + 1, by omega, by go_num, hs2, hb1.trans (pq.h.mono hz)⟩
          case measure => simp [intOf]; omega
    · obtain rfl : k = l.length := by omega
      have HF := Lib.hid (show rightMB l = true from decide_eq_true (by rwa [List.take_length] at hs))
      clear hs
      go_wp2_with fail
      go_ret
      exact ⟨by rw [HF.out]; rfl, hb⟩
end Go.Proofs.Ytcamhaeelkjigaa
