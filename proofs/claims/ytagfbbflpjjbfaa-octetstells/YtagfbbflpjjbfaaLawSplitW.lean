/- The walk of OctetsSplit. -/
import Derived.Test.YtagfbbflpjjbfaaLawParts
namespace Go.Proofs.Ytagfbbflpjjbfaa
open Go.RowKit

theorem txts_cut_sum : ∀ (l : List ByteArray), (∀ s ∈ l, s.size ≤ 20) → strSum l ≤ 20 * l.length
  | [], _ => by simp [strSum, txts, sumLen]
  | x :: l, h => by
    have h1 := txts_cut_sum l (fun s hs => h s (List.mem_cons_of_mem _ hs))
    have h2 := h x (List.mem_cons_self)
    have e : strSum (x :: l) = x.size + strSum l := by simp [strSum, txts, sumLen]
    rw [e, List.length_cons]; omega
theorem parts_sum (ss : List ByteArray) : strSum (partsOf ss) ≤ 120 := by
  have h := txts_cut_sum (partsOf ss) (fun s hs => by
    unfold partsOf at hs
    obtain ⟨x, _, rfl⟩ := List.mem_map.1 hs
    exact cut20_size x)
  have := partsOf_length ss
  omega

theorem joinOf_ok (f : ByteArray) (qs : List ByteArray) (h8 : qs.length ≤ 8) (h : f.size + 4 * qs.length + strSum qs ≤ 65536) : joinOf f.data.toList (txts qs) = (wholeOf f.data.toList (txts qs), 0) := by
  unfold joinOf
  rw [size_list, txts_length, if_pos ⟨h8, h⟩]

theorem splitOf_whole (f : ByteArray) (qs : List ByteArray) (h8 : qs.length ≤ 8) (h : f.size + 4 * qs.length + strSum qs ≤ 65536) :
    splitOf (wholeOf f.data.toList (txts qs)) (f.size : Int) (qs.length : Int) = (f.data.toList, txts qs, 0) := by
  have hl := wholeOf_length f.data.toList (txts qs)
  rw [size_list, txts_length] at hl
  have hs : sumLen (txts qs) = strSum qs := rfl
  have hc := cutBack_of_whole f.data.toList (txts qs) (by rw [hl, hs]; omega)
  rw [size_list, txts_length] at hc
  unfold splitOf
  rw [if_pos (by omega), if_pos (by omega), if_pos (by rw [hl, hs]; omega), Int.toNat_natCast, Int.toNat_natCast, if_pos (by rw [hl]; omega), hc]
  have e : (wholeOf f.data.toList (txts qs)).take f.size = f.data.toList := by
    unfold wholeOf
    rw [List.append_assoc]
    exact List.take_left' (size_list f)
  rw [e]

set_option maxHeartbeats 1000000 in
set_option maxRecDepth 100000 in
theorem splitLaw_walk (f0 : ByteArray) (ss : List ByteArray) (v : Value) (w : World) (hv : Strs w w.heap.size v ss) :
    Calls Try.prog 6 #[.string f0, v] w fun e w' => e = .returned (.bool true) ∧ Below w.heap.size w w' := by
  obtain ⟨A, c, rfl, hc⟩ := hv.form
  go_enter Try.func6, Try.ntmps6
  go_wp2_with fail
  with_reducible refine (awake_any _).mono ?_
  rintro e w1 ⟨rfl, hw1⟩
  have hv1 := (hv.below hw1 (Nat.le_refl _)).more hw1.size
  clear hv
  go_wp2_with fail
  have hfs : (f0.extract 0 (min (f0.size : Int) 30).toNat).size ≤ 30 := by rw [ext_size _ _ _ (by omega)]; omega
  generalize f0.extract 0 (min (f0.size : Int) 30).toNat = f at *
  with_reducible refine (Parts_any _ _ _ hv1).mono ?_
  rintro e w2 ⟨v2, rfl, hown, hb2⟩
  have hw2 : Below w.heap.size w w2 := hw1.trans (hb2.mono hw1.size)
  have hv2 := Strs.own hown
  clear hown hb2 hw1 hv1
  have hq6 := partsOf_length ss
  have hqs := parts_sum ss
  generalize partsOf ss = qs at *
  obtain ⟨A2, c2, rfl, hc2⟩ := hv2.form
  go_wp2_with fail
  with_reducible refine (Join_any _ _ _ _ hv2 (by omega) (by omega)).mono ?_
  rintro e w3 ⟨rfl, hb3⟩
  have hw3 : Below w.heap.size w w3 := hw2.trans (hb3.mono hw2.size)
  have hv3 := (hv2.below hb3 (Nat.le_refl _)).more hb3.size
  rw [joinOf_ok f qs (by omega) (by omega)]
  clear hb3 hw2 hv2
  have HL := Lib.hid (show (ByteArray.mk (wholeOf f.data.toList (txts qs)).toArray).size = f.size + 4 * qs.length + strSum qs by rw [size_mk, wholeOf_length, size_list, txts_length]; rfl)
  have HS := Lib.hid (splitOf_whole f qs (by omega) (by omega))
  generalize hW : (ByteArray.mk (wholeOf f.data.toList (txts qs)).toArray) = whole at *
  have hwl : whole.data.toList = wholeOf f.data.toList (txts qs) := by rw [← hW]
  have HW := Lib.hid hwl
  clear hW hwl
  go_wp2_with fail
  with_reducible refine (Split_any _ _ _ _).mono ?_
  rintro e w4 ⟨v4, rs, rfl, hv4, _, hq4, hb4⟩
  have hw4 : Below w.heap.size w w4 := hw3.trans (hb4.mono hw3.size)
  have hv3' := (hv3.below hb4 (Nat.le_refl _)).more hb4.size
  clear hb4 hw3 hv3
  rw [HW.out, HS.out] at hq4 ⊢
  have hrs := txts_inj hq4
  subst hrs
  obtain ⟨A4, c4, rfl, hc4⟩ := hv4.form
  clear hq4 HS HW
  go_wp2_with fail
  go_loop [13, 14] (fun n i => ∃ k : Nat, k ≤ rs.length ∧ i = .int .i64 k ∧ n = .int .i64 ((f.size : Int) + 4 * (rs.length : Int) + (strSum (rs.take k) : Int))) (fun _ i => rs.length - (intOf i).toNat)
  case atStart => exact ⟨0, Nat.zero_le _, rfl, by rw [strSum_zero]; go_num⟩
  case round =>
    obtain ⟨k, hk, rfl, rfl⟩ := hrel
    have hsl := strSum_le rs k
    by_cases hlt : k < rs.length
    · obtain ⟨ad, rfl, hbl, hcell⟩ := hv3'.at_ hlt
      have H1 := Lib.hid (strSum_take rs k hlt)
      have hsl1 := strSum_le rs (k + 1)
      have hb1 : strSum (rs.take k) + rs[k].size ≤ strSum rs := by have := H1.out; omega
      clear hsl1
      go_wp2_with fail
      go_round
      case rel => exact ⟨k + 1, by omega, by go_num, by rw [H1.out]; go_num⟩
      case measure => simp [intOf]; omega
    · have hke : rs.take k = rs := List.take_of_length_le (by omega)
      have hfin : ((whole.size : Int) == (f.size : Int) + 4 * (rs.length : Int) + (strSum (rs.take k) : Int)) = true := by
        rw [HL.out, hke]; simp
      clear hke
      generalize strSum (rs.take k) = total at *
      go_wp2_with fail
      with_reducible refine (Texts_any _ _ _ _ _ hv4 hv3' (by omega)).mono ?_
      rintro e w5 ⟨rfl, hb5⟩
      have hw5 : Below w.heap.size w w5 := hw4.trans (hb5.mono hw4.size)
      clear hb5 hw4
      have hdt : decide (rs = rs) = true := by simp
      rw [hdt]
      clear hdt
      go_wp2_with fail
      go_ret
      exact ⟨rfl, hw5⟩

theorem splitLaw_calls (f0 : ByteArray) (_hf : f0.size ≤ maxLen) (ss : List ByteArray) (v : Value) {w : World} (hv : Strs w w.heap.size v ss) (_hb : ∀ s ∈ ss, s.size ≤ maxLen) :
    Calls Try.prog 6 #[.string f0, v] w fun e w' => e = .returned (.bool true) ∧ Below w.heap.size w w' := splitLaw_walk f0 ss v w hv
end Go.Proofs.Ytagfbbflpjjbfaa
