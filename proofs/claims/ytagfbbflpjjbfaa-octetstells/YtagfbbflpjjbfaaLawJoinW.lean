/- The walk of OctetsJoin. -/
import Derived.Test.YtagfbbflpjjbfaaLawSplitW
import Derived.Test.YtagfbbflpjjbfaaLawBackW
import Derived.Test.YtagfbbflpjjbfaaOctS
import Derived.BigRegion
namespace Go.Proofs.Ytagfbbflpjjbfaa
open Go.RowKit

theorem one_byte (W : World) (g : Nat) (c : UInt8) (h : W.cell? ⟨g, 0, none⟩ = some (.int .u8 (c.toNat : Int))) : (convert 35 9 (.slice (some ⟨g, 0, none⟩) 1 1)).run Try.prog W = .ok (.string ⟨#[c]⟩) W := by
  have h := run_convert_bytes_back (P := Try.prog) W 35 9 5 ⟨g, 0, none⟩ 1 [c] Try.underlying35 Try.underlying5 Try.underlying9 (fun j hj => by
    have hj0 : j = 0 := by simpa using hj
    subst hj0
    simpa [Addr.add] using h)
  simpa using h

set_option maxHeartbeats 2000000 in
set_option maxRecDepth 100000 in
theorem joinLaw_walk (s : ByteArray) (ss : List ByteArray) (v : Value) (fixed many at_ : Int) (cb : UInt8) (w : World) (hv : Strs w w.heap.size v ss)
    (hfx : -9223372036854775808 ≤ fixed ∧ fixed ≤ 9223372036854775807) (hmn : -9223372036854775808 ≤ many ∧ many ≤ 9223372036854775807) (hat : -9223372036854775808 ≤ at_ ∧ at_ ≤ 9223372036854775807) :
    Calls Try.prog 7 #[.string s, v, .int .i64 fixed, .int .i64 many, .int .i64 at_, .int .u8 (cb.toNat : Int)] w fun e w' => e = .returned (.bool true) ∧ Below w.heap.size w w' := by
  obtain ⟨A, c, rfl, hc⟩ := hv.form
  go_enter Try.func7, Try.ntmps7
  go_wp2_with fail
  with_reducible refine (awake_any _).mono ?_
  rintro e w1 ⟨rfl, hw1⟩
  have hv1 := (hv.below hw1 (Nat.le_refl _)).more hw1.size
  clear hv
  go_wp2_with fail
  have hxs : (s.extract 0 (min (s.size : Int) 200).toNat).size ≤ 200 := by rw [ext_size _ _ _ (by omega)]; omega
  generalize s.extract 0 (min (s.size : Int) 200).toNat = x at *
  with_reducible refine (Parts_any _ _ _ hv1).mono ?_
  rintro e w2 ⟨v2, rfl, hown, hb2⟩
  have hw2 : Below w.heap.size w w2 := hw1.trans (hb2.mono hw1.size)
  have hl2 := Strs.own hown
  clear hown hb2 hw1 hv1
  have hq6 := partsOf_length ss
  have hqs := parts_sum ss
  generalize partsOf ss = ls at *
  obtain ⟨A2, c2, rfl, hc2⟩ := hl2.form
  go_wp2_with fail
  with_reducible refine (pick_any _ _ _ hfx (by omega) (by omega)).mono ?_
  rintro e w3 ⟨rfl, rfl⟩
  obtain ⟨hk0, hk1⟩ := pickOf_bd fixed 30 (by omega)
  generalize pickOf fixed 30 = k at *
  go_wp2_with fail
  with_reducible refine (pick_any _ _ _ hmn (by omega) (by omega)).mono ?_
  rintro e w3 ⟨rfl, rfl⟩
  obtain ⟨hm0, hm1⟩ := pickOf_bd many 9 (by omega)
  generalize pickOf many 9 = m at *
  go_wp2_with fail
  with_reducible refine (Split_any _ _ _ _).mono ?_
  rintro e w3 ⟨v3, ps, rfl, hp3, _, hq3, hb3⟩
  have hw3 : Below w.heap.size w w3 := hw2.trans (hb3.mono hw2.size)
  have hl3 := (hl2.below hb3 (Nat.le_refl _)).more hb3.size
  clear hb3 hw2 hl2
  obtain ⟨A3, c3, rfl, hc3⟩ := hp3.form
  rcases splitOf_cases x.data.toList k m with ⟨a, p, hsp⟩ | ⟨y, hy, hsp⟩
  · rw [hsp] at hq3 ⊢
    subst hq3
    have HJ := Lib.hid (joinOf_of_split hsp)
    obtain ⟨_, _, _, _, _, hal, hpl, _⟩ := splitOf_sound hsp
    rw [txts_length] at hpl
    have haln : ((a.length : Int) != k) = false := by simp; omega
    have hpln : ((ps.length : Int) != m) = false := by simp; omega
    have hp8 : ps.length ≤ 8 := by omega
    have ha8 : a.length ≤ 65536 := by omega
    clear hal hpl hsp
    have HA := Lib.hid (show (ByteArray.mk a.toArray).data.toList = a by simp)
    generalize hab : ByteArray.mk a.toArray = ab at *
    have habs : ab.size = a.length := by rw [← hab, size_mk]
    have habn : ((ab.size : Int) != k) = false := by rw [habs]; exact haln
    have hab8 : ab.size ≤ 65536 := by omega
    clear hab habs haln ha8
    go_wp2_with fail
    with_reducible refine (Join_any _ _ _ _ hp3 (by omega) (by omega)).mono ?_
    rintro e w4 ⟨rfl, hb4⟩
    have hw4 : Below w.heap.size w w4 := hw3.trans (hb4.mono hw3.size)
    have hl4 := (hl3.below hb4 (Nat.le_refl _)).more hb4.size
    rw [HA.out, HJ.out]
    have hxx : (ByteArray.mk (x.data.toList).toArray) = x := by apply bytes_ext; simp
    rw [hxx]
    clear hb4 hw3 hl3 hxx HA HJ hp3
    go_wp2_with fail
    have hfl : (x.extract 0 (min (x.size : Int) k).toNat).size ≤ 30 := by rw [ext_size _ _ _ (by omega)]; omega
    have HF := Lib.hid (show min (x.size : Int) k = ((x.extract 0 (min (x.size : Int) k).toNat).size : Int) by rw [ext_size _ _ _ (by omega)]; omega)
    generalize hfx' : x.extract 0 (min (x.size : Int) k).toNat = f at *
    have HX := Lib.hid hfx'
    clear hfx'
    with_reducible refine (Join_any _ _ _ _ hl4 (by omega) (by omega)).mono ?_
    rintro e w5 ⟨rfl, hb5⟩
    have hw5 : Below w.heap.size w w5 := hw4.trans (hb5.mono hw4.size)
    have hl5 := (hl4.below hb5 (Nat.le_refl _)).more hb5.size
    rw [joinOf_ok f ls (by omega) (by omega)]
    clear hb5 hw4 hl4
    have hys : (ByteArray.mk (wholeOf f.data.toList (txts ls)).toArray).size = f.size + 4 * ls.length + strSum ls := by rw [size_mk, wholeOf_length, size_list, txts_length]; rfl
    generalize hW : (ByteArray.mk (wholeOf f.data.toList (txts ls)).toArray) = y at *
    have HY := Lib.hid (show y.data.toList = wholeOf f.data.toList (txts ls) by rw [← hW])
    have hy9 : y.size ≤ 200 := by omega
    clear hW hys
    by_cases hy0 : y.size = 0
    · have hye : ((y.size : Int) == 0) = true := by simp [hy0]
      clear hy0
      go_wp2_with fail
      go_ret
      exact ⟨rfl, hw5⟩
    · have hye : ((y.size : Int) == 0) = false := by simp [hy0]
      go_wp2_with fail
      with_reducible refine (pick_any _ _ _ hat (by omega) (by omega)).mono ?_
      rintro e w6 ⟨rfl, rfl⟩
      obtain ⟨hi0, hi1⟩ := pickOf_bd at_ (y.size : Int) (by omega)
      generalize pickOf at_ (y.size : Int) = i0 at *
      obtain ⟨i, rfl⟩ := Int.eq_ofNat_of_zero_le hi0
      have hob := one_byte (w5.alloc (.cells #[.int .u8 (cb.toNat : Int)] 5)).drew w5.heap.size cb (by simp [go_sem])
      have hi2 : i ≤ y.size := by omega
      have hi3 : i + 1 ≤ y.size := by omega
      have hi4 : (i : Int) + 1 ≤ (y.size : Int) := by omega
      have hs1 : (y.extract 0 i).size ≤ 200 := by rw [ext_size _ _ _ hi2]; omega
      have hs2 : (y.extract (i + 1) y.size).size ≤ 200 := by rw [ext_size _ _ _ (Nat.le_refl _)]; omega
      go_wp2_with fail
      go_region
      have hw6 : Below w.heap.size w (w5.alloc (.cells #[.int .u8 (cb.toNat : Int)] 5)).drew := (hw5.alloc hw5.size _).drew
      have hl6 : Strs (w5.alloc (.cells #[.int .u8 (cb.toNat : Int)] 5)).drew (w5.alloc (.cells #[.int .u8 (cb.toNat : Int)] 5)).drew.heap.size (.slice A2 ls.length c2) ls := (strs_alloc hl5 _).below (Below.refl _ _).drew (Nat.le_refl _)
      generalize (w5.alloc (.cells #[.int .u8 (cb.toNat : Int)] 5)).drew = w6 at *
      generalize y.extract 0 i ++ ⟨#[cb]⟩ ++ y.extract (i + 1) y.size = z at *
      clear hob hi0 hi1 hi2 hi3 hi4 hs1 hs2 hw5 hl5 hye hy0
      go_wp2_with fail
      with_reducible refine (Split_any _ _ _ _).mono ?_
      rintro e w7 ⟨v7, qs, rfl, hp7, _, hq7, hb7⟩
      have hw7 : Below w.heap.size w w7 := hw6.trans (hb7.mono hw6.size)
      have hl7 := (hl6.below hb7 (Nat.le_refl _)).more hb7.size
      clear hb7 hw6 hl6
      obtain ⟨A7, c7, rfl, hc7⟩ := hp7.form
      rw [HF.out] at hq7 ⊢
      have hfsz : (f.data.toList.length : Int) = (f.size : Int) := by rw [size_list]
      have hlsz : ((txts ls).length : Int) = (ls.length : Int) := by rw [txts_length]
      rcases splitOf_cases z.data.toList (f.size : Int) (ls.length : Int) with ⟨b, q, hsz⟩ | ⟨er, her, hsz⟩
      · rw [hsz] at hq7 ⊢
        subst hq7
        have HS := Lib.hid (show z = y ↔ (b = f.data.toList ∧ qs = ls) by
          rw [← hfsz, ← hlsz] at hsz
          have h1 := split_same (by rw [txts_length]; omega) (by rw [size_list, txts_length]; show f.size + 4 * ls.length + strSum ls ≤ 65536; omega) hsz
          rw [← HY.out] at h1
          constructor
          · intro e
            have h2 := h1.1 (by rw [e])
            exact ⟨h2.1, txts_inj h2.2⟩
          · rintro ⟨e1, e2⟩
            exact bytes_ext (h1.2 ⟨e1, by rw [e2]⟩))
        have hqsl : qs.length ≤ 8 := by have h1 := (splitOf_sound hsz).2.2.2.2.2.2.1; rw [txts_length] at h1; omega
        clear hsz hfsz hlsz HF
        go_wp2_with fail
        · have hbf : b = (x.extract 0 (min (x.size : Int) k).toNat).toList := by assumption
          have HB := Lib.hid hbf
          clear hbf
          with_reducible refine (Texts_any _ _ _ _ _ hp7 hl7 (by omega)).mono ?_
          rintro e w8 ⟨rfl, hb8⟩
          have hw8 : Below w.heap.size w w8 := hw7.trans (hb8.mono hw7.size)
          clear hb8 hw7 hp7 hl7
          go_wp2_with fail
          go_ret
          have hbf2 : b = f.data.toList := by
            have h1 := HB.out
            rw [HX.out, ByteArray.toList_eq] at h1
            exact h1
          refine ⟨?_, hw8⟩
          show Ending.returned (Value.bool ((z.toList == y.toList) == decide (qs = ls))) = _
          have hzq : (z.toList == y.toList) = decide (qs = ls) := by
            by_cases hq : qs = ls
            · have hz : z = y := HS.out.2 ⟨hbf2, hq⟩
              rw [hz, decide_eq_true hq]; simp
            · have hz : ¬ z = y := fun e => hq (HS.out.1 e).2
              rw [decide_eq_false hq]
              exact beq_eq_false_iff_ne.2 (fun e => hz (bytes_of_toList e))
          rw [hzq]; simp
        · have hbf : ¬ b = (x.extract 0 (min (x.size : Int) k).toNat).toList := by assumption
          rw [HX.out, ByteArray.toList_eq] at hbf
          go_ret
          have hne : ¬ z = y := fun e => hbf (HS.out.1 e).1
          have hzy : (z.toList == y.toList) = false := beq_eq_false_iff_ne.2 (fun e => hne (bytes_of_toList e))
          refine ⟨?_, hw7⟩
          show Ending.returned (Value.bool (!z.toList == y.toList)) = _
          rw [hzy]; rfl
      · rw [hsz] at hq7 ⊢
        have hqn : qs = [] := by
          have : (txts qs).length = 0 := by rw [hq7]; rfl
          rw [txts_length] at this
          exact List.eq_nil_of_length_eq_zero this
        subst hqn
        have hern : (er != 0) = true := by simpa using her
        have hzy : (z.toList == y.toList) = false := beq_eq_false_iff_ne.2 (fun e => by
          have e2 := bytes_of_toList e
          subst e2
          rw [HY.out, splitOf_whole f ls (by omega) (by omega)] at hsz
          simp only [Prod.mk.injEq] at hsz
          exact her hsz.2.2.symm)
        clear hsz hq7 her hfsz hlsz
        go_wp2_with fail
        go_ret
        exact ⟨rfl, hw7⟩
  · rw [hsp] at hq3 ⊢
    have hyf : (y == 0) = false := beq_eq_false_iff_ne.2 hy
    clear hq3 hsp hy hp3
    have hw4 := hw3
    have hl4 := hl3
    clear hw3 hl3
    go_wp2_with fail
    have hfl : (x.extract 0 (min (x.size : Int) k).toNat).size ≤ 30 := by rw [ext_size _ _ _ (by omega)]; omega
    have HF := Lib.hid (show min (x.size : Int) k = ((x.extract 0 (min (x.size : Int) k).toNat).size : Int) by rw [ext_size _ _ _ (by omega)]; omega)
    generalize hfx' : x.extract 0 (min (x.size : Int) k).toNat = f at *
    have HX := Lib.hid hfx'
    clear hfx'
    with_reducible refine (Join_any _ _ _ _ hl4 (by omega) (by omega)).mono ?_
    rintro e w5 ⟨rfl, hb5⟩
    have hw5 : Below w.heap.size w w5 := hw4.trans (hb5.mono hw4.size)
    have hl5 := (hl4.below hb5 (Nat.le_refl _)).more hb5.size
    rw [joinOf_ok f ls (by omega) (by omega)]
    clear hb5 hw4 hl4
    have hys : (ByteArray.mk (wholeOf f.data.toList (txts ls)).toArray).size = f.size + 4 * ls.length + strSum ls := by rw [size_mk, wholeOf_length, size_list, txts_length]; rfl
    generalize hW : (ByteArray.mk (wholeOf f.data.toList (txts ls)).toArray) = y at *
    have HY := Lib.hid (show y.data.toList = wholeOf f.data.toList (txts ls) by rw [← hW])
    have hy9 : y.size ≤ 200 := by omega
    clear hW hys
    by_cases hy0 : y.size = 0
    · have hye : ((y.size : Int) == 0) = true := by simp [hy0]
      clear hy0
      go_wp2_with fail
      go_ret
      exact ⟨rfl, hw5⟩
    · have hye : ((y.size : Int) == 0) = false := by simp [hy0]
      go_wp2_with fail
      with_reducible refine (pick_any _ _ _ hat (by omega) (by omega)).mono ?_
      rintro e w6 ⟨rfl, rfl⟩
      obtain ⟨hi0, hi1⟩ := pickOf_bd at_ (y.size : Int) (by omega)
      generalize pickOf at_ (y.size : Int) = i0 at *
      obtain ⟨i, rfl⟩ := Int.eq_ofNat_of_zero_le hi0
      have hob := one_byte (w5.alloc (.cells #[.int .u8 (cb.toNat : Int)] 5)).drew w5.heap.size cb (by simp [go_sem])
      have hi2 : i ≤ y.size := by omega
      have hi3 : i + 1 ≤ y.size := by omega
      have hi4 : (i : Int) + 1 ≤ (y.size : Int) := by omega
      have hs1 : (y.extract 0 i).size ≤ 200 := by rw [ext_size _ _ _ hi2]; omega
      have hs2 : (y.extract (i + 1) y.size).size ≤ 200 := by rw [ext_size _ _ _ (Nat.le_refl _)]; omega
      go_wp2_with fail
      go_region
      have hw6 : Below w.heap.size w (w5.alloc (.cells #[.int .u8 (cb.toNat : Int)] 5)).drew := (hw5.alloc hw5.size _).drew
      have hl6 : Strs (w5.alloc (.cells #[.int .u8 (cb.toNat : Int)] 5)).drew (w5.alloc (.cells #[.int .u8 (cb.toNat : Int)] 5)).drew.heap.size (.slice A2 ls.length c2) ls := (strs_alloc hl5 _).below (Below.refl _ _).drew (Nat.le_refl _)
      generalize (w5.alloc (.cells #[.int .u8 (cb.toNat : Int)] 5)).drew = w6 at *
      generalize y.extract 0 i ++ ⟨#[cb]⟩ ++ y.extract (i + 1) y.size = z at *
      clear hob hi0 hi1 hi2 hi3 hi4 hs1 hs2 hw5 hl5 hye hy0
      go_wp2_with fail
      with_reducible refine (Split_any _ _ _ _).mono ?_
      rintro e w7 ⟨v7, qs, rfl, hp7, _, hq7, hb7⟩
      have hw7 : Below w.heap.size w w7 := hw6.trans (hb7.mono hw6.size)
      have hl7 := (hl6.below hb7 (Nat.le_refl _)).more hb7.size
      clear hb7 hw6 hl6
      obtain ⟨A7, c7, rfl, hc7⟩ := hp7.form
      rw [HF.out] at hq7 ⊢
      have hfsz : (f.data.toList.length : Int) = (f.size : Int) := by rw [size_list]
      have hlsz : ((txts ls).length : Int) = (ls.length : Int) := by rw [txts_length]
      rcases splitOf_cases z.data.toList (f.size : Int) (ls.length : Int) with ⟨b, q, hsz⟩ | ⟨er, her, hsz⟩
      · rw [hsz] at hq7 ⊢
        subst hq7
        have HS := Lib.hid (show z = y ↔ (b = f.data.toList ∧ qs = ls) by
          rw [← hfsz, ← hlsz] at hsz
          have h1 := split_same (by rw [txts_length]; omega) (by rw [size_list, txts_length]; show f.size + 4 * ls.length + strSum ls ≤ 65536; omega) hsz
          rw [← HY.out] at h1
          constructor
          · intro e
            have h2 := h1.1 (by rw [e])
            exact ⟨h2.1, txts_inj h2.2⟩
          · rintro ⟨e1, e2⟩
            exact bytes_ext (h1.2 ⟨e1, by rw [e2]⟩))
        have hqsl : qs.length ≤ 8 := by have h1 := (splitOf_sound hsz).2.2.2.2.2.2.1; rw [txts_length] at h1; omega
        clear hsz hfsz hlsz HF
        go_wp2_with fail
        · have hbf : b = (x.extract 0 (min (x.size : Int) k).toNat).toList := by assumption
          have HB := Lib.hid hbf
          clear hbf
          with_reducible refine (Texts_any _ _ _ _ _ hp7 hl7 (by omega)).mono ?_
          rintro e w8 ⟨rfl, hb8⟩
          have hw8 : Below w.heap.size w w8 := hw7.trans (hb8.mono hw7.size)
          clear hb8 hw7 hp7 hl7
          go_wp2_with fail
          go_ret
          have hbf2 : b = f.data.toList := by
            have h1 := HB.out
            rw [HX.out, ByteArray.toList_eq] at h1
            exact h1
          refine ⟨?_, hw8⟩
          show Ending.returned (Value.bool ((z.toList == y.toList) == decide (qs = ls))) = _
          have hzq : (z.toList == y.toList) = decide (qs = ls) := by
            by_cases hq : qs = ls
            · have hz : z = y := HS.out.2 ⟨hbf2, hq⟩
              rw [hz, decide_eq_true hq]; simp
            · have hz : ¬ z = y := fun e => hq (HS.out.1 e).2
              rw [decide_eq_false hq]
              exact beq_eq_false_iff_ne.2 (fun e => hz (bytes_of_toList e))
          rw [hzq]; simp
        · have hbf : ¬ b = (x.extract 0 (min (x.size : Int) k).toNat).toList := by assumption
          rw [HX.out, ByteArray.toList_eq] at hbf
          go_ret
          have hne : ¬ z = y := fun e => hbf (HS.out.1 e).1
          have hzy : (z.toList == y.toList) = false := beq_eq_false_iff_ne.2 (fun e => hne (bytes_of_toList e))
          refine ⟨?_, hw7⟩
          show Ending.returned (Value.bool (!z.toList == y.toList)) = _
          rw [hzy]; rfl
      · rw [hsz] at hq7 ⊢
        have hqn : qs = [] := by
          have : (txts qs).length = 0 := by rw [hq7]; rfl
          rw [txts_length] at this
          exact List.eq_nil_of_length_eq_zero this
        subst hqn
        have hern : (er != 0) = true := by simpa using her
        have hzy : (z.toList == y.toList) = false := beq_eq_false_iff_ne.2 (fun e => by
          have e2 := bytes_of_toList e
          subst e2
          rw [HY.out, splitOf_whole f ls (by omega) (by omega)] at hsz
          simp only [Prod.mk.injEq] at hsz
          exact her hsz.2.2.symm)
        clear hsz hq7 her hfsz hlsz
        go_wp2_with fail
        go_ret
        exact ⟨rfl, hw7⟩

theorem joinLaw_calls (s : ByteArray) (_hs : s.size ≤ maxLen) (ss : List ByteArray) (v : Value) {w : World} (hv : Strs w w.heap.size v ss) (_hb : ∀ s ∈ ss, s.size ≤ maxLen)
    (fixed : Int) (w2 : (Lit.int .i64 fixed).wf = true) (many : Int) (w3 : (Lit.int .i64 many).wf = true) (at_ : Int) (w4 : (Lit.int .i64 at_).wf = true) (c : Int) (w5 : (Lit.int .u8 c).wf = true) :
    Calls Try.prog 7 #[.string s, v, .int .i64 fixed, .int .i64 many, .int .i64 at_, .int .u8 c] w fun e w' => e = .returned (.bool true) ∧ Below w.heap.size w w' := by
  obtain ⟨h0, h1⟩ := bounds_u8 w5
  obtain ⟨x, rfl⟩ := Int.eq_ofNat_of_zero_le h0
  have e : ((UInt8.ofNat x).toNat : Int) = (x : Int) := by rw [UInt8.toNat_ofNat']; omega
  have h := joinLaw_walk s ss v fixed many at_ (UInt8.ofNat x) w hv (bounds_i64 w2) (bounds_i64 w3) (bounds_i64 w4)
  rw [e] at h
  exact h
end Go.Proofs.Ytagfbbflpjjbfaa
