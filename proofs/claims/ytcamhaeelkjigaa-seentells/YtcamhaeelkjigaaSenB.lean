/- The document's own answers of layer 13: Right, Has, Same. -/
import Derived.Test.YtcamhaeelkjigaaSenA
import Derived.Lib.Hide
import Derived.Deep.Cut
namespace Go.Proofs.Ytcamhaeelkjigaa
open Go.RowKit

instance (l : List Mk) : Decidable (RightM l) := by unfold RightM; infer_instance
abbrev rightMB (l : List Mk) : Bool := decide (RightM l)
set_option maxHeartbeats 1000000 in
theorem rRight_any (v : Value) (l : List Mk) (w : World) (hv : Mks w w.heap.size v l) (h9 : l.length ≤ maxLen) :
    Calls Try.prog 23 #[v] w fun e w' => e = .returned (.bool (rightMB l)) ∧ Below w.heap.size w w' := by
  obtain ⟨A, c, rfl, hc⟩ := hv.form
  have h9' : l.length ≤ 9223372036854775807 := h9
  go_enter Try.func23, Try.ntmps23
  go_wp2_with fail
  go_loopw [3, 4] (fun i _ wr => ∃ k : Nat, k ≤ l.length ∧ i = .int .i64 k ∧ RightM (l.take k) ∧ Below w.heap.size w wr) (fun i _ _ => l.length - (intOf i).toNat)
  case atStart => exact ⟨0, Nat.zero_le _, rfl, by rw [List.take_zero]; exact RightM.nil, Below.refl _ _⟩
  case round =>
    obtain ⟨k, hk, rfl, hs, hb⟩ := hrel
    by_cases hlt : k < l.length
    · have g1 : ((k : Int) < (l.length : Int)) = True := eq_true (by omega)
      have g2 : (k < l.length) = True := eq_true hlt
      have HS := Lib.hid (fun (hm : mayM l[k]) (ha : ∀ _ : 0 < k, aheadM l[k - 1] l[k]) => right_snoc k hlt hs hm ha)
      have HN1 := Lib.hid (show mayMB l[k] = false → rightMB l = false from fun h0 => decide_eq_false fun h => absurd (h.may k hlt) (of_decide_eq_false h0))
      have HN2 := Lib.hid (show ∀ h : 0 < k, aheadMB l[k - 1] l[k] = false → rightMB l = false from fun hk0 h0 => decide_eq_false fun h => absurd (h.lt (k - 1) k (by omega) hlt) (of_decide_eq_false h0))
      obtain ⟨ad, rfl, hc1, hc2, hc3⟩ := hv.cells hb hlt
      have z1 : wr.cell? (ad.add (k * 3)) = _ := hc1 ⟨wr, Below.refl _ _⟩
      have z2 : wr.cell? ⟨(ad.add (k * 3)).block, (ad.add (k * 3)).off + 1, none⟩ = _ := hc2 ⟨wr, Below.refl _ _⟩
      have z3 : wr.cell? ⟨(ad.add (k * 3)).block, (ad.add (k * 3)).off + 2, none⟩ = _ := hc3 ⟨wr, Below.refl _ _⟩
      have cM := fun W => rmay_at l[k] W
      clear hs
      go_upto_region 4 with (fail)
      go_wp2_with fail
      with_reducible refine (cM _).mono ?_
      rintro e w2 ⟨rfl, hb2⟩
      clear z1 z2 z3 hc1 hc2 hc3
      replace hb := hb.trans (hb2.mono hb.size)
      obtain ⟨_, e, hc1, hc2, hc3⟩ := hv.cells hb hlt
      cases e
      cases hm : mayMB l[k]
      · have HF := Lib.hid (HN1.out hm)
        clear cM HN1 HN2 HS hc1 hc2 hc3
        have HM := Lib.hid hm
        clear hm
        go_upto_region 5 with (fail)
        refine wp_region_later (by kernel_rfl) (by kernel_rfl) ?_
        repeat (go_big_quiet_step (fail))
        refine wpQuiet_nil ?_
        intro _ hw'
        obtain ⟨pq, rfl⟩ := hw'
        go_wp2_with fail
        go_ret
        exact ⟨by rw [HF.out]; rfl, hb.trans (pq.h.mono hb.size)⟩
      · clear cM
        by_cases hk0 : 0 < k
        · obtain ⟨j, rfl⟩ : ∃ j, k = j + 1 := ⟨k - 1, by omega⟩
          obtain ⟨_, e, hd1, hd2, hd3⟩ := hv.cells hb (show j < l.length by omega)
          cases e
          have hz := hb.size
          have ej : ((j + 1 : Nat) : Int) - 1 = (j : Int) := by omega
          have gz : ((0 : Int) < ((j + 1 : Nat) : Int)) = True := eq_true (by omega)
          have cA := fun W => rahead_at l[j] l[j + 1] W
          have HS2 := Lib.hid (fun (h0 : aheadMB l[j] l[j + 1] = true) => HS.out (of_decide_eq_true hm) (fun _ => of_decide_eq_true h0))
          have HN3 := Lib.hid (show aheadMB l[j] l[j + 1] = false → rightMB l = false from fun h0 => HN2.out (by omega) h0)
          clear HS HN1 HN2 hm
          generalize aheadMB l[j] l[j + 1] = bb at *
          go_upto_region 5 with (fail)
          refine wp_region_later (by kernel_rfl) (by kernel_rfl) ?_
          repeat (go_big_quiet_step (first | (go_at_call 28; exact later_of (cA _))))
          refine wpQuiet_nil ?_
          intro _ hw'
          obtain ⟨pq, rfl⟩ := hw'
          have hbn : Below w.heap.size w pq.W := hb.trans (pq.h.mono hz)
          clear hc1 hc2 hc3 hd1 hd2 hd3
          generalize pq.W = w3 at *
          cases bb
          · have HF := Lib.hid (HN3.out rfl)
            clear HN3 HS2
            go_wp2_with fail
            go_ret
            exact ⟨by rw [HF.out]; rfl, hbn⟩
          · have hs2 := HS2.out rfl
            clear HS2 HN3
            go_wp2_with fail
            go_roundw
            case rel => exact ⟨j + 1 + 1, by omega, by go_num, hs2, hbn⟩
            case measure => simp [intOf]; omega
        · obtain rfl : k = 0 := by omega
          have hs2 := HS.out (of_decide_eq_true hm) (fun h => absurd h (by omega))
          clear HS HN1 HN2 hm hc1 hc2 hc3
          go_upto_region 5 with (fail)
          refine wp_region_later (by kernel_rfl) (by kernel_rfl) ?_
          repeat (go_big_quiet_step (fail))
          refine wpQuiet_nil ?_
          intro _ hw'
          obtain ⟨pq, rfl⟩ := hw'
          go_wp2_with fail
          go_roundw
          case rel => exact ⟨0 + 1, by omega, by go_num, hs2, hb.trans (pq.h.mono hb.size)⟩
          case measure => simp [intOf]; omega
    · obtain rfl : k = l.length := by omega
      have HF := Lib.hid (show rightMB l = true from decide_eq_true (by rwa [List.take_length] at hs))
      clear hs
      go_wp2_with fail
      go_ret
      exact ⟨by rw [HF.out]; rfl, hb⟩
end Go.Proofs.Ytcamhaeelkjigaa
