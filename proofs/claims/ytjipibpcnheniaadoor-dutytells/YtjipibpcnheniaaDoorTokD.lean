/- The document's own answers for layer 5: Encode. -/
import Derived.Test.YtjipibpcnheniaaDoorTokC
import Derived.Test.YtjipibpcnheniaaDoorRefP
namespace Go.Proofs.YtjipibpcnheniaaDoor
open Go.RowKit

/-- What Encode tells: the bytes, the error. -/
def encT (f : Bool) (l : List Pr) : List UInt8 × Int := if rightT l then (encB f l, 0) else ([], 1)
theorem enc_take (f : Bool) (l : List Pr) (k : Nat) (hk : k < l.length) :
    (⟨(encB f (l.take k)).toArray⟩ : ByteArray) ++ ⟨(leBytes (l[k]).1 8).toArray⟩ ++ ⟨(leBytes (l[k]).2 8).toArray⟩ = ⟨(encB f (l.take (k + 1))).toArray⟩ := by
  apply ByteArray.ext
  unfold encB
  rw [List.take_succ_eq_append_getElem hk, List.flatMap_append]
  simp [pairBytes]

set_option maxHeartbeats 2000000 in
theorem rEncode_any (x : Value) (f : Bool) (l : List Pr) (w : World) (hx : Tk w x f l) (h9 : l.length ≤ maxLen) :
    Calls Tryd.prog 48 #[x] w fun e w' => e = .returned (.tuple #[.string ⟨(encT f l).1.toArray⟩, .int .i64 (encT f l).2]) ∧ Below w.heap.size w w' := by
  obtain ⟨A, c, rfl, hc, hv⟩ := hx.form
  obtain ⟨w0, hw0⟩ : ∃ w0, w0 = w.alloc (.cells #[.bool f, .slice A l.length c] 28) := ⟨_, rfl⟩
  have b0 : Below w.heap.size w w0 := by rw [hw0]; exact boxed _ _ _
  have r0 : RowAt w0 w.heap.size 28 [.bool f, .slice A l.length c] := by rw [hw0]; exact RowAt.new w 28 #[.bool f, .slice A l.length c]
  have cR := rRight_any _ f l w0 (hx.on b0) h9
  have hv0 := hv.on b0
  have HW := Lib.hid hw0
  clear hw0 hx hv
  unfold encT
  cases hr : rightT l
  · rw [hr] at cR
    clear hr
    go_enter Tryd.func48, Tryd.ntmps48
    go_wp2_with fail
    rw [← HW.out]
    with_reducible refine cR.mono ?_
    rintro e w1 ⟨rfl, hb1⟩
    have hw1 := bstep b0 hb1 b0.size
    clear cR
    go_wp2_with fail
    go_ret2
    exact ⟨rfl, hw1⟩
  · rw [hr] at cR
    have hl := right_len hr
    clear hr
    go_enter Tryd.func48, Tryd.ntmps48
    go_wp2_with fail
    rw [← HW.out]
    with_reducible refine cR.mono ?_
    rintro e w1 ⟨rfl, hb1⟩
    have hw1 := bstep b0 hb1 b0.size
    obtain ⟨x0, x1⟩ := (r0.on hb1).two
    clear cR
    cases f
    · go_wp2_with fail
      go_loopw [5, 6] (fun s i wr => ∃ k : Nat, k ≤ l.length ∧ i = .int .i64 k ∧ s = .string ⟨(encB false (l.take k)).toArray⟩ ∧ Below w0.heap.size w0 wr) (fun _ i _ => l.length - (intOf i).toNat)
      case atStart => exact ⟨0, Nat.zero_le _, rfl, rfl, hb1⟩
      case round =>
        obtain ⟨k, hk, rfl, rfl, hb⟩ := hrel
        have hbw := bstep b0 hb b0.size
        obtain ⟨y0, y1⟩ := (r0.on hb).two
        clear x0 x1
        by_cases hlt : k < l.length
        · have hz := hb.size
          obtain ⟨ad, rfl, c1, c2⟩ := hv0.cells hb hlt
          obtain ⟨d0, d1⟩ := (r0.on hb).laters
          have hsz : (⟨(encB false (l.take k)).toArray⟩ : ByteArray).size ≤ 40000 := by rw [size_le, encB_length, List.length_take]; omega
          have hs1 : (⟨(leBytes (l[k]).1 8).toArray⟩ : ByteArray).size = 8 := by rw [size_le, leBytes_length]
          have hs2 : (⟨(leBytes (l[k]).2 8).toArray⟩ : ByteArray).size = 8 := by rw [size_le, leBytes_length]
          have HE := Lib.hid (enc_take false l k hlt)
          have p1 := fun W => rPut8 (l[k]).1 W
          have p2 := fun W => rPut8 (l[k]).2 W
          generalize (⟨(encB false (l.take k)).toArray⟩ : ByteArray) = E at *
          generalize (l[k]).1 = k1 at *
          generalize (l[k]).2 = k2 at *
          generalize (⟨(leBytes k1 8).toArray⟩ : ByteArray) = B1 at *
          generalize (⟨(leBytes k2 8).toArray⟩ : ByteArray) = B2 at *
          go_wp2_with fail
          refine wp_region_later (by kernel_rfl) (by kernel_rfl) ?_
          repeat (go_big_quiet_step (first | (go_at_call 57; first | with_reducible exact later_of (p1 _) | with_reducible exact later_of (p2 _))))
          refine wpQuiet_nil ?_
          intro _ hw'
          obtain ⟨pq, rfl⟩ := hw'
          have hbn := bstep hb pq.h hz
          clear c1 c2 d0 d1 p1 p2
          generalize pq.W = w3 at *
          go_wp2_with fail
          go_roundw
          case rel => exact ⟨k + 1, by omega, by go_num, by rw [← HE.out], hbn⟩
          case measure => simp [intOf]; omega
        · go_wp2_with fail
          go_ret2
          refine ⟨?_, hbw⟩
          rw [List.take_of_length_le (by omega)]
          rfl
    · go_wp2_with fail
      go_loopw [5, 6] (fun s i wr => ∃ k : Nat, k ≤ l.length ∧ i = .int .i64 k ∧ s = .string ⟨(encB true (l.take k)).toArray⟩ ∧ Below w0.heap.size w0 wr) (fun _ i _ => l.length - (intOf i).toNat)
      case atStart => exact ⟨0, Nat.zero_le _, rfl, rfl, hb1⟩
      case round =>
        obtain ⟨k, hk, rfl, rfl, hb⟩ := hrel
        have hbw := bstep b0 hb b0.size
        obtain ⟨y0, y1⟩ := (r0.on hb).two
        clear x0 x1
        by_cases hlt : k < l.length
        · have hz := hb.size
          obtain ⟨ad, rfl, c1, c2⟩ := hv0.cells hb hlt
          obtain ⟨d0, d1⟩ := (r0.on hb).laters
          have hsz : (⟨(encB true (l.take k)).toArray⟩ : ByteArray).size ≤ 40000 := by rw [size_le, encB_length, List.length_take]; omega
          have hs1 : (⟨(leBytes (l[k]).1 8).toArray⟩ : ByteArray).size = 8 := by rw [size_le, leBytes_length]
          have hs2 : (⟨(leBytes (l[k]).2 8).toArray⟩ : ByteArray).size = 8 := by rw [size_le, leBytes_length]
          have HE := Lib.hid (enc_take true l k hlt)
          have p1 := fun W => rPut8 (l[k]).1 W
          have p2 := fun W => rPut8 (l[k]).2 W
          generalize (⟨(encB true (l.take k)).toArray⟩ : ByteArray) = E at *
          generalize (l[k]).1 = k1 at *
          generalize (l[k]).2 = k2 at *
          generalize (⟨(leBytes k1 8).toArray⟩ : ByteArray) = B1 at *
          generalize (⟨(leBytes k2 8).toArray⟩ : ByteArray) = B2 at *
          go_wp2_with fail
          refine wp_region_later (by kernel_rfl) (by kernel_rfl) ?_
          repeat (go_big_quiet_step (first | (go_at_call 57; first | with_reducible exact later_of (p1 _) | with_reducible exact later_of (p2 _))))
          refine wpQuiet_nil ?_
          intro _ hw'
          obtain ⟨pq, rfl⟩ := hw'
          have hbn := bstep hb pq.h hz
          clear c1 c2 d0 d1 p1 p2
          generalize pq.W = w3 at *
          go_wp2_with fail
          go_roundw
          case rel => exact ⟨k + 1, by omega, by go_num, by rw [← HE.out], hbn⟩
          case measure => simp [intOf]; omega
        · go_wp2_with fail
          go_ret2
          refine ⟨?_, hbw⟩
          rw [List.take_of_length_le (by omega)]
          rfl
end Go.Proofs.YtjipibpcnheniaaDoor
