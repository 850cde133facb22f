/- The document's own answer for layer 1: Join. -/
import Derived.Test.YtagfbbflpjjbfaaRefA
namespace Go.Proofs.Ytagfbbflpjjbfaa
open Go.RowKit

def JoinEnds (f : ByteArray) (ss : List ByteArray) (w : World) (e : Ending) (w' : World) : Prop :=
  e = .returned (.tuple #[.string ⟨(joinOf f.data.toList (txts ss)).1.toArray⟩, .int .i64 (joinOf f.data.toList (txts ss)).2]) ∧ Below w.heap.size w w'

theorem joinEnds_no {f : ByteArray} {ss : List ByteArray} {w w' : World} (h : ¬ (ss.length ≤ 8 ∧ f.size + 4 * ss.length + strSum ss ≤ 65536)) (hb : Below w.heap.size w w') : JoinEnds f ss w (.returned (.tuple #[.string ⟨#[]⟩, .int .i64 4])) w' := by
  refine ⟨?_, hb⟩
  unfold strSum at h
  unfold joinOf
  rw [size_list, txts_length, if_neg h]
theorem joinEnds_yes {f : ByteArray} {ss : List ByteArray} {w w' : World} {s : ByteArray} (h8 : ss.length ≤ 8) (h : f.size + 4 * ss.length + strSum ss ≤ 65536) (hs : s.data.toList = wholeOf f.data.toList (txts ss)) (hb : Below w.heap.size w w') : JoinEnds f ss w (.returned (.tuple #[.string s, .int .i64 0])) w' := by
  refine ⟨?_, hb⟩
  have hs2 : s = ⟨(wholeOf f.data.toList (txts ss)).toArray⟩ := by apply WideShapes.bytes_inj; rw [hs]
  unfold joinOf
  rw [size_list, txts_length, if_pos ⟨h8, h⟩, hs2]

theorem cat_list (a b : ByteArray) : (a ++ b).data.toList = a.data.toList ++ b.data.toList := by simp
theorem strSum_mem (ss : List ByteArray) (k : Nat) (h : k < ss.length) : ss[k].size ≤ strSum ss := by
  have h1 := strSum_take ss k h
  have h2 := strSum_le ss (k + 1)
  omega

set_option maxHeartbeats 2000000 in
theorem refJoin_ends (f : ByteArray) (ss : List ByteArray) (v : Value) (w : World) (hv : Strs w w.heap.size v ss) (hc9 : ss.length ≤ 9223372036854775807) (hf9 : f.size ≤ 9223372036854775807) :
    Calls Try.prog 16 #[.string f, v] w (JoinEnds f ss w) := by
  obtain ⟨A, c, rfl, hc⟩ := hv.form
  by_cases h8 : 8 < ss.length
  · have hd1 : decide ((8 : Int) < (ss.length : Int)) = true := by simp; omega
    go_enter Try.func16, Try.ntmps16
    go_wp2_with fail
    go_ret2
    exact joinEnds_no (by omega) (Below.refl _ _)
  · have hd1 : decide ((8 : Int) < (ss.length : Int)) = false := by simp; omega
    by_cases hf6 : 65536 < f.size
    · have hd2 : decide ((65536 : Int) < (f.size : Int)) = true := by simp; omega
      go_enter Try.func16, Try.ntmps16
      go_wp2_with fail
      go_ret2
      exact joinEnds_no (by omega) (Below.refl _ _)
    · have hd2 : decide ((65536 : Int) < (f.size : Int)) = false := by simp; omega
      go_enter Try.func16, Try.ntmps16
      go_wp2_with fail
      go_loopw [6, 7, 8, 9] (fun n o b i wr => ∃ (k : Nat) (ob bb : ByteArray), k ≤ ss.length ∧ i = .int .i64 k ∧ n = .int .i64 ((f.size : Int) + 4 * (ss.length : Int) + (strSum (ss.take k) : Int)) ∧ strSum (ss.take k) ≤ 65536 * k ∧
          o = .string ob ∧ ob.data.toList = head1 f ss k ∧ b = .string bb ∧ bb.data.toList = (txts (ss.take k)).flatten ∧ Below w.heap.size w wr) (fun _ _ _ i _ => ss.length - (intOf i).toNat)
      case atStart => exact ⟨0, f, ⟨#[]⟩, Nat.zero_le _, rfl, by rw [strSum_zero]; go_num, by rw [strSum_zero]; omega, rfl, by simp [head1, txts, placesOf], rfl, by simp [txts], Below.refl _ _⟩
      case round =>
        obtain ⟨k, ob, bb, hk, rfl, rfl, hsk, rfl, hob, rfl, hbb, hb⟩ := hrel
        have hobs : ob.size ≤ 65600 := by rw [← size_list, hob, head1_length f ss k hk]; omega
        have hbbs : bb.size ≤ 600000 := by rw [← size_list, hbb]; show strSum (ss.take k) ≤ _; omega
        have HO := Lib.hid hob
        have HB := Lib.hid hbb
        clear hob hbb
        have hz := hb.size
        by_cases hlt : k < ss.length
        · obtain ⟨ad, rfl, hbl, hcell⟩ := (hv.below hb (Nat.le_refl _)).at_ hlt
          have hlti : (k : Int) < (ss.length : Int) := by omega
          by_cases hp6 : 65536 < ss[k].size
          · have hd3 : decide ((65536 : Int) < (ss[k].size : Int)) = true := by simp; omega
            have hno : ¬ (ss.length ≤ 8 ∧ f.size + 4 * ss.length + strSum ss ≤ 65536) := by
              have := strSum_mem ss k hlt; omega
            go_wp2_with fail
            go_ret2
            exact joinEnds_no hno hb
          · have hd3 : decide ((65536 : Int) < (ss[k].size : Int)) = false := by simp; omega
            have H1 := Lib.hid (strSum_take ss k hlt)
            generalize hx : ss[k] = x at *
            have HX := Lib.hid hx
            clear hx
            go_wp2_with fail
            with_reducible refine (refPut_int _ (f.size + 4 * ss.length + strSum (ss.take k)) _ _ (by simp)).mono ?_
            rintro e w2 ⟨rfl, hb2⟩
            rw [putOf_four]
            have hcell2 : w2.cell? (ad.add k) = some (.string x) := by
              rw [hb2.cell (by rw [add_block]; omega)]; exact hcell
            have hbn : Below w.heap.size w w2 := hb.trans (hb2.mono hz)
            have hqs : (ByteArray.mk (leBytes (f.size + 4 * ss.length + strSum (ss.take k)) 4).toArray).size ≤ 4 := by rw [size_mk, leBytes_length]; omega
            generalize hq : ByteArray.mk (leBytes (f.size + 4 * ss.length + strSum (ss.take k)) 4).toArray = q at *
            have HQ := Lib.hid (show q.data.toList = leBytes (f.size + 4 * ss.length + strSum (ss.take k)) 4 by rw [← hq])
            clear hq hcell hb hb2
            go_wp2_with fail
            go_roundw
            case rel =>
              refine ⟨k + 1, ob ++ q, bb ++ x, by omega, by go_num, by rw [H1.out]; go_num, by rw [H1.out]; omega, rfl, ?_, rfl, ?_, hbn⟩
              · rw [cat_list, HO.out, HQ.out, head1_step f ss k (by omega)]
              · rw [cat_list, HB.out, txts_take ss k (by omega), HX.out]; simp
            case measure => simp [intOf]; omega
        · have hke : ss.take k = ss := List.take_of_length_le (by omega)
          have hkl : k = ss.length := by omega
          by_cases htot : 65536 < f.size + 4 * ss.length + strSum (ss.take k)
          · have hd4 : decide ((65536 : Int) < (f.size : Int) + 4 * (ss.length : Int) + (strSum (ss.take k) : Int)) = true := by simp; omega
            have hno : ¬ (ss.length ≤ 8 ∧ f.size + 4 * ss.length + strSum ss ≤ 65536) := by rw [hke] at htot; omega
            clear hke hkl
            generalize strSum (ss.take k) = sk at *
            go_wp2_with fail
            go_ret2
            exact joinEnds_no hno hb
          · have hd4 : decide ((65536 : Int) < (f.size : Int) + 4 * (ss.length : Int) + (strSum (ss.take k) : Int)) = false := by simp; omega
            have hfin : f.size + 4 * ss.length + strSum ss ≤ 65536 := by rw [hke] at htot; omega
            have HW := Lib.hid (show (ob ++ bb).data.toList = wholeOf f.data.toList (txts ss) by
              rw [cat_list, HO.out, HB.out, ← head2_end, hkl]; rfl)
            clear hke hkl
            generalize strSum (ss.take k) = sk at *
            go_wp2_with fail
            go_ret2
            exact joinEnds_yes (by omega) hfin HW.out hb

theorem refJoin_any (f : ByteArray) (ss : List ByteArray) (v : Value) (w : World) (hv : Strs w w.heap.size v ss) (hc9 : ss.length ≤ 9223372036854775807) (hf9 : f.size ≤ 9223372036854775807) :
    Calls Try.prog 16 #[.string f, v] w fun e w' => e = .returned (.tuple #[.string ⟨(joinOf f.data.toList (txts ss)).1.toArray⟩, .int .i64 (joinOf f.data.toList (txts ss)).2]) ∧ Below w.heap.size w w' :=
  refJoin_ends f ss v w hv hc9 hf9
end Go.Proofs.Ytagfbbflpjjbfaa
