/- The walk of OctetsTells. -/
import Derived.Test.YtagfbbflpjjbfaaLawJoinW
import Derived.Test.YtagfbbflpjjbfaaLawLongW
import Derived.Deep.DeepCutAuto
namespace Go.Proofs.Ytagfbbflpjjbfaa
open Go.RowKit

set_option maxHeartbeats 4000000 in
set_option maxRecDepth 100000 in
theorem tells_walk (x : Nat) (n : Int) (s : ByteArray) (ss : List ByteArray) (v : Value) (fixed many at_ : Int) (cb : UInt8) (w : World) (hv : Strs w w.heap.size v ss)
    (hn : -9223372036854775808 ≤ n ∧ n ≤ 9223372036854775807)
    (hfx : -9223372036854775808 ≤ fixed ∧ fixed ≤ 9223372036854775807) (hmn : -9223372036854775808 ≤ many ∧ many ≤ 9223372036854775807) (hat : -9223372036854775808 ≤ at_ ∧ at_ ≤ 9223372036854775807) :
    Calls Try.prog 3 #[.int .u64 x, .int .i64 n, .string s, v, .int .i64 fixed, .int .i64 many, .int .i64 at_, .int .u8 (cb.toNat : Int)] w fun e w' => e = .returned (.bool true) ∧ Below w.heap.size w w' := by
  obtain ⟨A, c, rfl, hc⟩ := hv.form
  go_enter Try.func3, Try.ntmps3
  go_wp2_with fail
  with_reducible refine (awake_any _).mono ?_
  rintro e w1 ⟨rfl, hw1⟩
  have hv1 := (hv.below hw1 (Nat.le_refl _)).more hw1.size
  clear hv
  go_wp2_with fail
  have hxs : (s.extract 0 (min (s.size : Int) 200).toNat).size ≤ 200 := by rw [ext_size _ _ _ (by omega)]; omega
  generalize s.extract 0 (min (s.size : Int) 200).toNat = xs at *
  with_reducible refine (Parts_any _ _ _ hv1).mono ?_
  rintro e w2 ⟨v2, rfl, hown, hb2⟩
  have hw2 : Below w.heap.size w w2 := hw1.trans (hb2.mono hw1.size)
  have hl2 := Strs.own hown
  clear hown hb2 hw1 hv1
  have hq6 := partsOf_length ss
  have hqs := parts_sum ss
  generalize partsOf ss = ls at *
  obtain ⟨A2, c2, rfl, hc2⟩ := hl2.form
  go_wp2_with fail
  with_reducible refine (pick_any _ _ _ hfx (by omega) (by omega)).mono ?_
  rintro e w3 ⟨rfl, rfl⟩
  obtain ⟨hk0, hk1⟩ := pickOf_bd fixed 30 (by omega)
  generalize pickOf fixed 30 = k at *
  go_wp2_with fail
  with_reducible refine (pick_any _ _ _ hn (by omega) (by omega)).mono ?_
  rintro e w3 ⟨rfl, rfl⟩
  generalize pickOf n 10 = n10 at *
  go_wp2_with fail
  have hcell0 : (w2.alloc (.cells #[.int .i64 n, .int .i64 n10] 3)).cell? ⟨w2.heap.size, 0, none⟩ = some (.int .i64 n) := by simp [go_sem]
  have hcell1 : (w2.alloc (.cells #[.int .i64 n, .int .i64 n10] 3)).cell? ⟨w2.heap.size, 1, none⟩ = some (.int .i64 n10) := by simp [go_sem]
  have hw3 : Below w.heap.size w (w2.alloc (.cells #[.int .i64 n, .int .i64 n10] 3)) := hw2.alloc hw2.size _
  have hl3 := strs_alloc hl2 (.cells #[.int .i64 n, .int .i64 n10] 3)
  have hrow : ∀ j, j < 2 → ∃ m : Int, (w2.alloc (.cells #[.int .i64 n, .int .i64 n10] 3)).cell? ⟨w2.heap.size, j, none⟩ = some (.int .i64 m) := by
    intro j hj
    match j, hj with
    | 0, _ => exact ⟨_, hcell0⟩
    | 1, _ => exact ⟨_, hcell1⟩
  have HR := Lib.hid hrow
  have hz3 : w2.heap.size + 1 ≤ (w2.alloc (.cells #[.int .i64 n, .int .i64 n10] 3)).heap.size := by simp
  clear hrow hcell0 hcell1 hl2 hw2
  generalize w2.alloc (.cells #[.int .i64 n, .int .i64 n10] 3) = w3 at *
  go_loopw [60] (fun i wr => ∃ k : Nat, k ≤ 2 ∧ i = .int .i64 k ∧ Below w3.heap.size w3 wr) (fun i _ => 2 - (intOf i).toNat)
  case atStart => exact ⟨0, Nat.zero_le _, rfl, Below.refl _ _⟩
  case round =>
    obtain ⟨j, hj, rfl, hbr⟩ := hrel
    have hzr := hbr.size
    by_cases hlt : j < 2
    · obtain ⟨m, hm⟩ := HR.out j hlt
      have hlti : (j : Int) < 2 := by omega
      have hcell2 : wr.cell? ⟨w2.heap.size, j, none⟩ = some (.int .i64 m) := by
        rw [hbr.cell (p := ⟨w2.heap.size, j, none⟩) (by show w2.heap.size < _; omega)]; exact hm
      clear hm
      go_wp2_with fail
      with_reducible refine (Take_any _ _ _ (by omega)).mono ?_
      rintro e w4 ⟨rfl, hb4⟩
      have hbr4 : Below w3.heap.size w3 w4 := hbr.trans (hb4.mono hzr)
      clear hb4 hbr hcell2
      generalize hto : takeOf xs m = tr at *
      have HT := Lib.hid hto
      clear hto
      obtain ⟨t1, t2, t3⟩ := tr
      go_wp2_with fail
      with_reducible refine (refTake_any _ _ _ (by omega)).mono ?_
      rintro e w5 ⟨rfl, hb5⟩
      have hbr5 : Below w3.heap.size w3 w5 := hbr4.trans (hb5.mono hbr4.size)
      clear hb5 hbr4
      rw [HT.out]
      dsimp only
      go_wp2_with fail
      with_reducible refine (Put_any _ _ _).mono ?_
      rintro e w6 ⟨rfl, hb6⟩
      have hbr6 : Below w3.heap.size w3 w6 := hbr5.trans (hb6.mono hbr5.size)
      clear hb6 hbr5
      generalize hpt : ByteArray.mk (putOf x m).toArray = pb at *
      have HP := Lib.hid hpt
      clear hpt
      go_wp2_with fail
      with_reducible refine (refPut_any _ _ _).mono ?_
      rintro e w7 ⟨rfl, hb7⟩
      have hbr7 : Below w3.heap.size w3 w7 := hbr6.trans (hb7.mono hbr6.size)
      clear hb7 hbr6
      rw [HP.out]
      go_wp2_with fail
      go_roundw
      case rel => exact ⟨j + 1, by omega, by go_num, hbr7⟩
      case measure => simp [intOf]; omega
    · have hwr : Below w.heap.size w wr := hw3.trans (hbr.mono hw3.size)
      have hlr := (hl3.below hbr (Nat.le_refl _)).more hzr
      clear hbr hw3 hl3 HR hz3 hzr
      have hd : decide ((j : Int) < 2) = false := by simp; omega
      go_wp2_with fail
      have hfl : (xs.extract 0 (min (xs.size : Int) k).toNat).size ≤ 30 := by rw [ext_size _ _ _ (by omega)]; omega
      generalize hfx' : xs.extract 0 (min (xs.size : Int) k).toNat = f at *
      have HX := Lib.hid hfx'
      clear hfx'
      with_reducible refine (Join_any _ _ _ _ hlr (by omega) (by omega)).mono ?_
      rintro e w4 ⟨rfl, hb4⟩
      have hw4 : Below w.heap.size w w4 := hwr.trans (hb4.mono hwr.size)
      have hl4 := (hlr.below hb4 (Nat.le_refl _)).more hb4.size
      clear hb4 hwr hlr
      rw [joinOf_ok f ls (by omega) (by omega)]
      have hys : (ByteArray.mk (wholeOf f.data.toList (txts ls)).toArray).size = f.size + 4 * ls.length + strSum ls := by rw [size_mk, wholeOf_length, size_list, txts_length]; rfl
      generalize hW : (ByteArray.mk (wholeOf f.data.toList (txts ls)).toArray) = y at *
      have HY := Lib.hid hW
      have hy9 : y.size ≤ 200 := by omega
      clear hW hys
      go_wp2_with fail
      rw [HX.out]
      with_reducible refine (refJoin_any _ _ _ _ hl4 (by omega) (by omega)).mono ?_
      rintro e w5 ⟨rfl, hb5⟩
      have hw5 : Below w.heap.size w w5 := hw4.trans (hb5.mono hw4.size)
      have hl5 := (hl4.below hb5 (Nat.le_refl _)).more hb5.size
      clear hb5 hw4 hl4
      rw [joinOf_ok f ls (by omega) (by omega)]
      dsimp only
      rw [HY.out]
      clear HY
      go_upto_if 134 with (fail)
      go_cut [33, 34] (fun z _ wx => ∃ zb : ByteArray, z = .string zb ∧ zb.size ≤ 1000 ∧ Below w.heap.size w wx ∧ Strs wx wx.heap.size (.slice A2 ls.length c2) ls)
      case first =>
        by_cases hy0 : 0 < y.size
        · have hye : decide ((0 : Int) < (y.size : Int)) = true := decide_eq_true (by omega)
          go_wp2_with fail
          with_reducible refine (pick_any _ _ _ hat (by omega) (by omega)).mono ?_
          rintro e w6 ⟨rfl, rfl⟩
          obtain ⟨hi0, hi1⟩ := pickOf_bd at_ (y.size : Int) (by omega)
          generalize pickOf at_ (y.size : Int) = i0 at *
          obtain ⟨i, rfl⟩ := Int.eq_ofNat_of_zero_le hi0
          have hob := one_byte (w5.alloc (.cells #[.int .u8 (cb.toNat : Int)] 5)).drew w5.heap.size cb (by simp [go_sem])
          have hi2 : i ≤ y.size := by omega
          have hi3 : i + 1 ≤ y.size := by omega
          have hi4 : (i : Int) + 1 ≤ (y.size : Int) := by omega
          have hs1 : (y.extract 0 i).size ≤ 200 := by rw [ext_size _ _ _ hi2]; omega
          have hs2 : (y.extract (i + 1) y.size).size ≤ 200 := by rw [ext_size _ _ _ (Nat.le_refl _)]; omega
          go_wp2_with fail
          go_region
          go_wp2_with fail
          go_meet
          case rel => exact ⟨_, rfl, by rw [ByteArray.size_append, ByteArray.size_append]; have : (ByteArray.mk #[cb]).size = 1 := rfl; omega, (hw5.alloc hw5.size _).drew, (strs_alloc hl5 _).below (Below.refl _ _).drew (Nat.le_refl _)⟩
        · have hye : decide ((0 : Int) < (y.size : Int)) = false := decide_eq_false (by omega)
          go_wp2_with fail
          go_meet
          case rel => exact ⟨y, rfl, by omega, hw5, hl5⟩
      case rest =>
        obtain ⟨zb, rfl, hzb, hw6, hl6⟩ := hcut
        go_wp2_with fail
        have hyx : (y ++ xs).size ≤ 1000 := by rw [ByteArray.size_append]; omega
        have hw7 : Below w.heap.size w (wc.alloc (.cells #[.string xs, .string y, .string zb, .string (y ++ xs)] 9)) := hw6.alloc hw6.size _
        have hl7 := strs_alloc hl6 (.cells #[.string xs, .string y, .string zb, .string (y ++ xs)] 9)
        have hrow := RowAt.new wc 9 #[.string xs, .string y, .string zb, .string (y ++ xs)]
        have hrows : ∀ j, j < 4 → ∃ sb : ByteArray, (wc.alloc (.cells #[.string xs, .string y, .string zb, .string (y ++ xs)] 9)).cell? ⟨wc.heap.size, j, none⟩ = some (.string sb) ∧ sb.size ≤ 1000 := by
          intro j hj
          match j, hj with
          | 0, _ => exact ⟨xs, by rw [hrow.cell]; rfl, by omega⟩
          | 1, _ => exact ⟨y, by rw [hrow.cell]; rfl, by omega⟩
          | 2, _ => exact ⟨zb, by rw [hrow.cell]; rfl, hzb⟩
          | 3, _ => exact ⟨y ++ xs, by rw [hrow.cell]; rfl, hyx⟩
        have HR := Lib.hid hrows
        have hz7 : wc.heap.size + 1 ≤ (wc.alloc (.cells #[.string xs, .string y, .string zb, .string (y ++ xs)] 9)).heap.size := by simp
        generalize y ++ xs = yx at *
        clear hrows hrow hw6 hl6
        generalize wc.alloc (.cells #[.string xs, .string y, .string zb, .string yx] 9) = w7 at *
        go_loopw [159] (fun i wr => ∃ k : Nat, k ≤ 4 ∧ i = .int .i64 k ∧ Below w7.heap.size w7 wr) (fun i _ => 4 - (intOf i).toNat)
        case atStart => exact ⟨0, Nat.zero_le _, rfl, Below.refl _ _⟩
        case round =>
          obtain ⟨j4, hj4, rfl, hbr⟩ := hrel
          have hzr := hbr.size
          by_cases hlt4 : j4 < 4
          · obtain ⟨sb, hm, hsb⟩ := HR.out j4 hlt4
            have hlti : (j4 : Int) < 4 := by omega
            have hcell2 : wr.cell? ⟨wc.heap.size, j4, none⟩ = some (.string sb) := by
              rw [hbr.cell (p := ⟨wc.heap.size, j4, none⟩) (by show wc.heap.size < _; omega)]; exact hm
            clear hm
            go_wp2_with fail
            with_reducible refine (pick_any _ _ _ hmn (by omega) (by omega)).mono ?_
            rintro e w8 ⟨rfl, rfl⟩
            generalize pickOf many 9 = m9 at *
            clear hcell2
            go_wp2_with fail
            obtain ⟨wo, hwo⟩ : ∃ wo, wo = wr := ⟨_, rfl⟩
            subst hwo
            have hrow3 := RowAt.new wo 36 #[.int .i64 fixed, .int .i64 many, .int .i64 (min (xs.size : Int) k), .int .i64 (ls.length : Int), .int .i64 k, .int .i64 m9]
            have hb8 : Below w7.heap.size w7 (wo.alloc (.cells #[.int .i64 fixed, .int .i64 many, .int .i64 (min (xs.size : Int) k), .int .i64 (ls.length : Int), .int .i64 k, .int .i64 m9] 36)) := hbr.alloc hzr _
            have hprs : ∀ j, j < 3 → ∃ p q : Int, (wo.alloc (.cells #[.int .i64 fixed, .int .i64 many, .int .i64 (min (xs.size : Int) k), .int .i64 (ls.length : Int), .int .i64 k, .int .i64 m9] 36)).cell? ⟨wo.heap.size, j * 2, none⟩ = some (.int .i64 p) ∧ (wo.alloc (.cells #[.int .i64 fixed, .int .i64 many, .int .i64 (min (xs.size : Int) k), .int .i64 (ls.length : Int), .int .i64 k, .int .i64 m9] 36)).cell? ⟨wo.heap.size, j * 2 + 1, none⟩ = some (.int .i64 q) := by
              intro j hj
              match j, hj with
              | 0, _ => exact ⟨_, _, by rw [hrow3.cell]; rfl, by rw [hrow3.cell]; rfl⟩
              | 1, _ => exact ⟨_, _, by rw [hrow3.cell]; rfl, by rw [hrow3.cell]; rfl⟩
              | 2, _ => exact ⟨_, _, by rw [hrow3.cell]; rfl, by rw [hrow3.cell]; rfl⟩
            have HP3 := Lib.hid hprs
            have hz8 : wo.heap.size + 1 ≤ (wo.alloc (.cells #[.int .i64 fixed, .int .i64 many, .int .i64 (min (xs.size : Int) k), .int .i64 (ls.length : Int), .int .i64 k, .int .i64 m9] 36)).heap.size := by simp
            clear hrow3 hprs hbr
            generalize wo.alloc (.cells #[.int .i64 fixed, .int .i64 many, .int .i64 (min (xs.size : Int) k), .int .i64 (ls.length : Int), .int .i64 k, .int .i64 m9] 36) = w8 at *
            go_loopw [179] (fun i wr => ∃ k : Nat, k ≤ 3 ∧ i = .int .i64 k ∧ Below w8.heap.size w8 wr) (fun i _ => 3 - (intOf i).toNat)
            case atStart => exact ⟨0, Nat.zero_le _, rfl, Below.refl _ _⟩
            case round =>
              obtain ⟨j3, hj3, rfl, hbq⟩ := hrel
              have hzq := hbq.size
              by_cases hlt3 : j3 < 3
              · obtain ⟨p, q, hp, hq⟩ := HP3.out j3 hlt3
                have hlti3 : (j3 : Int) < 3 := by omega
                have hp2 : wr.cell? ⟨wo.heap.size, j3 * 2, none⟩ = some (.int .i64 p) := by
                  rw [hbq.cell (p := ⟨wo.heap.size, j3 * 2, none⟩) (by show wo.heap.size < _; omega)]; exact hp
                have hq2 : wr.cell? ⟨wo.heap.size, j3 * 2 + 1, none⟩ = some (.int .i64 q) := by
                  rw [hbq.cell (p := ⟨wo.heap.size, j3 * 2 + 1, none⟩) (by show wo.heap.size < _; omega)]; exact hq
                clear hp hq
                go_wp2_with fail
                have hbx : Below w8.heap.size w8 (wr.alloc (.cells #[.int .i64 p, .int .i64 q] 36)) := hbq.alloc hzq _
                have hx0 := (RowAt.new wr 36 #[.int .i64 p, .int .i64 q])
                have hgx : wr.heap.size < (wr.alloc (.cells #[.int .i64 p, .int .i64 q] 36)).heap.size := by simp
                clear hp2 hq2 hbq
                generalize wr.alloc (.cells #[.int .i64 p, .int .i64 q] 36) = wx at *
                with_reducible refine (Split_any _ _ _ _).mono ?_
                rintro e w9 ⟨v9, qs, rfl, hp9, _, hq9, hb9⟩
                have hbx9 : Below w8.heap.size w8 w9 := hbx.trans (hb9.mono hbx.size)
                have hx9 := hx0.below hb9 hgx
                have hx90 : w9.cell? ⟨wr.heap.size, 0, none⟩ = some (.int .i64 p) := by rw [hx9.cell]; rfl
                have hx91 : w9.cell? ⟨wr.heap.size, 1, none⟩ = some (.int .i64 q) := by rw [hx9.cell]; rfl
                clear hb9 hbx hx0 hgx hx9
                obtain ⟨A9, c9, rfl, hc9⟩ := hp9.form
                have hqs8 : qs.length ≤ 8 := by
                  rw [← txts_length, hq9]
                  rcases splitOf_cases sb.data.toList p q with ⟨x, pp, h⟩ | ⟨y, _, h⟩
                  · rw [h]; have h1 := (splitOf_sound h); simp only; omega
                  · rw [h]; simp
                generalize hso : splitOf sb.data.toList p q = sr at *
                have HS := Lib.hid hso
                have HQ := Lib.hid hq9
                clear hso hq9
                generalize hst : ByteArray.mk sr.1.toArray = sb1
                have HB2 := Lib.hid hst
                clear hst
                generalize hse : sr.2.2 = se
                have HE := Lib.hid hse
                clear hse
                go_wp2_with fail
                with_reducible refine (refSplit_any _ _ _ _ (by omega)).mono ?_
                rintro e w10 ⟨v10, rs, rfl, hp10, _, hq10, hb10⟩
                have hbx10 : Below w8.heap.size w8 w10 := hbx9.trans (hb10.mono hbx9.size)
                have hp9' := (hp9.below hb10 (Nat.le_refl _)).more hb10.size
                clear hb10 hbx9 hp9 hx90 hx91
                obtain ⟨A10, c10, rfl, hc10⟩ := hp10.form
                rw [HS.out] at hq10 ⊢
                rw [HB2.out, HE.out]
                have hqr : qs = rs := txts_inj (HQ.out.trans hq10.symm)
                subst hqr
                clear hq10 HS HQ HB2 HE
                go_wp2_with fail
                with_reducible refine (Texts_any _ _ _ _ _ hp9' hp10 (by omega)).mono ?_
                rintro e w11 ⟨rfl, hb11⟩
                have hbx11 : Below w8.heap.size w8 w11 := hbx10.trans (hb11.mono hbx10.size)
                have hdt : decide (qs = qs) = true := by simp
                rw [hdt]
                clear hdt hb11 hbx10 hp9' hp10
                go_wp2_with fail
                go_roundw
                case rel => exact ⟨j3 + 1, by omega, by go_num, hbx11⟩
                case measure => simp [intOf]; omega
              · have hb9 : Below w7.heap.size w7 wr := hb8.trans (hbq.mono hb8.size)
                have hd3 : decide ((j3 : Int) < 3) = false := by simp; omega
                clear hbq hb8 HP3 hz8 hzq
                go_wp2_with fail
                go_roundw
                case rel => exact ⟨j4 + 1, by omega, by go_num, hb9⟩
                case measure => simp [intOf]; omega
          · have hwr2 : Below w.heap.size w wr := hw7.trans (hbr.mono hw7.size)
            have hd4 : decide ((j4 : Int) < 4) = false := by simp; omega
            clear hbr hw7 hl7 HR hz7 hzr
            go_wp2_with fail
            go_ret
            exact ⟨rfl, hwr2⟩

theorem tells_calls (x : Int) (w0 : (Lit.int .u64 x).wf = true) (n : Int) (w1 : (Lit.int .i64 n).wf = true) (s : ByteArray) (_hs : s.size ≤ maxLen) (ss : List ByteArray) (v : Value) {w : World} (hv : Strs w w.heap.size v ss) (_hb : ∀ s ∈ ss, s.size ≤ maxLen)
    (fixed : Int) (w2 : (Lit.int .i64 fixed).wf = true) (many : Int) (w3 : (Lit.int .i64 many).wf = true) (at_ : Int) (w4 : (Lit.int .i64 at_).wf = true) (c : Int) (w5 : (Lit.int .u8 c).wf = true) :
    Calls Try.prog 3 #[.int .u64 x, .int .i64 n, .string s, v, .int .i64 fixed, .int .i64 many, .int .i64 at_, .int .u8 c] w fun e w' => e = .returned (.bool true) ∧ Below w.heap.size w w' := by
  obtain ⟨h0, h1⟩ := bounds_u8 w5
  obtain ⟨y, rfl⟩ := Int.eq_ofNat_of_zero_le h0
  obtain ⟨h2, h3⟩ := bounds_u64 w0
  obtain ⟨z, rfl⟩ := Int.eq_ofNat_of_zero_le h2
  have e : ((UInt8.ofNat y).toNat : Int) = (y : Int) := by rw [UInt8.toNat_ofNat']; omega
  have h := tells_walk z n s ss v fixed many at_ (UInt8.ofNat y) w hv (bounds_i64 w1) (bounds_i64 w2) (bounds_i64 w3) (bounds_i64 w4)
  rw [e] at h
  exact h
end Go.Proofs.Ytagfbbflpjjbfaa
