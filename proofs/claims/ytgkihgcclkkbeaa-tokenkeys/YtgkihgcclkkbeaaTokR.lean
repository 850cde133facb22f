/- awake: chapter 5's examples. -/
import Derived.Test.YtgkihgcclkkbeaaTokQ
namespace Go.Proofs.Ytgkihgcclkkbeaa
open Go.RowKit

theorem One_27 (w : World) : Calls Try.prog 24 #[.int .u64 2, .int .u64 7] w fun e w' => ∃ A c, e = .returned (.agg #[.bool false, .slice A 1 c]) ∧ Tk w' (.agg #[.bool false, .slice A 1 c]) false [(2, 7)] ∧ Below w.heap.size w w' := One_eq 2 7 w
theorem One_19 (w : World) : Calls Try.prog 24 #[.int .u64 1, .int .u64 9] w fun e w' => ∃ A c, e = .returned (.agg #[.bool false, .slice A 1 c]) ∧ Tk w' (.agg #[.bool false, .slice A 1 c]) false [(1, 9)] ∧ Below w.heap.size w w' := One_eq 1 9 w
theorem Keys_7 (x : Value) (f : Bool) (l : List Pr) (w : World) (ks : List Nat) (b : Bool) (hT : keysT 7 l = (ks, b)) (hx : Tk w x f l) (h9 : l.length ≤ 1000000) :
    Calls Try.prog 15 #[x, .int .u64 7] w fun e w' => ∃ A c, e = .returned (.tuple #[.slice A ks.length c, .bool b]) ∧ Wds w' w'.heap.size (.slice A ks.length c) ks ∧ Below w.heap.size w w' := Keys_eq x f l 7 w ks b hT hx h9
theorem aw_merge : mergeT [(false, [(2, 7)]), (false, [(1, 9)])] = (0, false, [(1, 9), (2, 7)]) := by
  have h : mrgAll [[(2, 7)], [(1, 9)]] = [(1, 9), (2, 7)] := mrgAll_eq (by decide) (by decide) (by decide)
  unfold mergeT
  rw [if_neg (by decide), if_neg (by decide)]
  simp only [List.map_cons, List.map_nil, h]
  rfl
theorem aw_wrong : mergeT [(false, [(2, 0), (1, 0)])] = (1, false, []) := by
  unfold mergeT
  rw [if_pos (by decide)]
theorem aw_fit : Fit [(1, 9), (2, 7)] := by intro p hp; simp at hp; rcases hp with rfl | rfl <;> decide

set_option maxHeartbeats 4000000 in
set_option maxRecDepth 100000 in
theorem awake_any (w : World) : Calls Try.prog 9 #[] w fun e w' => e = .returned (.bool true) ∧ Below w.heap.size w w' := by
  obtain ⟨L, hL⟩ : ∃ L : List Pr, L = [(1, 9), (2, 7)] := ⟨_, rfl⟩
  obtain ⟨N, hN⟩ : ∃ N : List Pr, N = [] := ⟨_, rfl⟩
  obtain ⟨K, hK⟩ : ∃ K : List Nat, K = [2] := ⟨_, rfl⟩
  obtain ⟨Z, hZ⟩ : ∃ Z : List Nat, Z = [] := ⟨_, rfl⟩
  obtain ⟨U, hU⟩ : ∃ U : ByteArray, U = ⟨(encB false L).toArray⟩ := ⟨_, rfl⟩
  have hUd : U.data.toList = encB false L := by rw [hU]
  have hUs : U.size = 33 := by rw [← list_len, hUd, hL]; rfl
  have HM := Lib.hid (show mergeT [(false, [(2, 7)]), (false, [(1, 9)])] = (0, false, L) by rw [hL]; exact aw_merge)
  have HX := Lib.hid (show mergeT [(false, [(2, 0), (1, 0)])] = (1, false, N) by rw [hN]; exact aw_wrong)
  have HE0 := Lib.hid (show encT false [] = ((⟨#[0]⟩ : ByteArray).data.toList, 0) from rfl)
  have HE := Lib.hid (show encT false L = (U.data.toList, 0) by rw [hUd, hL]; rfl)
  have HD := Lib.hid (show decB U.data.toList = (0, false, L) by rw [hUd, hL]; exact dec_enc false _ aw_fit (by decide) (by decide))
  have HD2 := Lib.hid (show decB (⟨#[2]⟩ : ByteArray).data.toList = (2, false, N) by rw [hN]; rfl)
  have HK1 := Lib.hid (show keysT 7 [(2, 7)] = (K, true) by rw [hK]; decide)
  have HK2 := Lib.hid (show keysT 7 L = (Z, false) by rw [hL, hZ]; decide)
  have HSA := Lib.hid (show sameT false false L [(1, 9), (2, 7)] = true by rw [hL]; decide)
  have HSB := Lib.hid (sameT_refl false L)
  have HWK := Lib.hid (show decide (K = [2]) = true by rw [hK]; rfl)
  have HR := Lib.hid (show rightT L = true by rw [hL]; decide)
  have lL : L.length ≤ 1000000 := by rw [hL]; decide
  have lK : K.length ≤ 1000000 := by rw [hK]; decide
  have lU : U.size ≤ 1000000 := by omega
  have hlen : ((U.size : Int) == 33) = true := by rw [hUs]; rfl
  have HH := Lib.hid hlen
  clear hL hN hK hZ hU hUd hUs hlen
  go_enter Try.func9, Try.ntmps9
  go_wp2_with fail
  with_reducible refine (One_27 _).mono ?_
  rintro e w1 ⟨A1, c1, rfl, t1, hB1⟩
  have hw2 : Below w.heap.size w (w1) := hB1
  clear hB1
  go_wp2_with fail
  with_reducible refine (One_19 _).mono ?_
  rintro e w2 ⟨A2, c2, rfl, t2, hB3⟩
  replace t1 := t1.on hB3
  have hw4 : Below w.heap.size w (w2) := hw2.trans (hB3.mono hw2.size)
  clear hw2
  clear hB3
  have tr_ := RowAt.new (w2) 24 #[.bool false, .slice A1 1 c1, .bool false, .slice A2 1 c2]
  have hA5 : Below (w2).heap.size (w2) (w2.alloc (.cells #[.bool false, .slice A1 1 c1, .bool false, .slice A2 1 c2] 24)) := (Below.refl _ _).alloc (Nat.le_refl _) _
  replace t1 := t1.on hA5
  replace t2 := t2.on hA5
  have hw6 : Below w.heap.size w (w2.alloc (.cells #[.bool false, .slice A1 1 c1, .bool false, .slice A2 1 c2] 24)) := hw4.trans (hA5.mono hw4.size)
  clear hw4
  clear hA5
  have tr : TkRow (w2.alloc (.cells #[.bool false, .slice A1 1 c1, .bool false, .slice A2 1 c2] 24)) (.slice (some ⟨w2.heap.size, 0, none⟩) 2 2) [(false, [(2, 7)]), (false, [(1, 9)])] := TkRow.of (xs := [(false, .slice A1 1 c1), (false, .slice A2 1 c2)]) tr_ (.cons t1 (.cons t2 (.nil _)))
  go_wp2_with fail
  with_reducible refine (Merge_eq _ _ _ 0 false L HM.out tr (by decide) (by decide)).mono ?_
  rintro e w3 ⟨A3, c3, rfl, t3, hB7⟩
  replace t1 := t1.on hB7
  replace t2 := t2.on hB7
  replace tr := tr.on hB7
  have hw8 : Below w.heap.size w (w3) := hw6.trans (hB7.mono hw6.size)
  clear hw6
  clear hB7
  have hA9 : Below (w3).heap.size (w3) (w3.alloc (.cells #[.bool false, .slice A3 L.length c3] 24)) := (Below.refl _ _).alloc (Nat.le_refl _) _
  have r1_ := RowAt.new (w3) 24 #[.bool false, .slice A3 L.length c3]
  replace t3 := t3.on hA9
  have hw10 : Below w.heap.size w (w3.alloc (.cells #[.bool false, .slice A3 L.length c3] 24)) := hw8.trans (hA9.mono hw8.size)
  clear hw8
  clear hA9
  have r1 : RowAt (w3.alloc (.cells #[.bool false, .slice A3 L.length c3] 24)) (w3.heap.size) 24 [.bool false, .slice A3 L.length c3] := r1_
  clear r1_
  obtain ⟨cr10_1, cr11_1⟩ := r1.two
  go_wp2_with fail
  with_reducible refine (Encode_eq _ false [] _ ⟨#[0]⟩ 0 HE0.out (Tk.empty _) (by decide)).mono ?_
  rintro e w4 ⟨rfl, hB11⟩
  clear cr10_1 cr11_1
  replace t3 := t3.on hB11
  replace r1 := r1.on hB11
  have hw12 : Below w.heap.size w (w4) := hw10.trans (hB11.mono hw10.size)
  clear hw10
  clear hB11
  obtain ⟨cr10_2, cr11_2⟩ := r1.two
  go_wp2_with fail
  with_reducible refine (Encode_eq _ false L _ U 0 HE.out t3 lL).mono ?_
  rintro e w5 ⟨rfl, hB13⟩
  clear cr10_2 cr11_2
  replace t3 := t3.on hB13
  replace r1 := r1.on hB13
  have hw14 : Below w.heap.size w (w5) := hw12.trans (hB13.mono hw12.size)
  clear hw12
  clear hB13
  obtain ⟨cr10_3, cr11_3⟩ := r1.two
  go_wp2_with fail
  with_reducible refine (Decode_eq U _ 0 false L HD.out lU).mono ?_
  rintro e w6 ⟨A4, c4, rfl, t4, hB15⟩
  clear cr10_3 cr11_3
  replace t3 := t3.on hB15
  replace r1 := r1.on hB15
  have hw16 : Below w.heap.size w (w6) := hw14.trans (hB15.mono hw14.size)
  clear hw14
  clear hB15
  obtain ⟨cr10_4, cr11_4⟩ := r1.two
  have hA17 : Below (w6).heap.size (w6) (w6.alloc (.cells #[.bool false, .slice A4 L.length c4] 24)) := (Below.refl _ _).alloc (Nat.le_refl _) _
  have r2_ := RowAt.new (w6) 24 #[.bool false, .slice A4 L.length c4]
  replace t3 := t3.on hA17
  replace t4 := t4.on hA17
  replace r1 := r1.on hA17
  have hw18 : Below w.heap.size w (w6.alloc (.cells #[.bool false, .slice A4 L.length c4] 24)) := hw16.trans (hA17.mono hw16.size)
  clear hw16
  clear hA17
  obtain ⟨cr10_5, cr11_5⟩ := r1.two
  have r2 : RowAt (w6.alloc (.cells #[.bool false, .slice A4 L.length c4] 24)) (w6.heap.size) 24 [.bool false, .slice A4 L.length c4] := r2_
  clear r2_
  obtain ⟨cr20_6, cr21_6⟩ := r2.two
  go_wp2_with fail
  with_reducible refine (Decode_eq ⟨#[2]⟩ _ 2 false N HD2.out (by decide)).mono ?_
  rintro e w7 ⟨A5, c5, rfl, -, hB19⟩
  clear cr10_4 cr11_4 cr10_5 cr11_5 cr20_6 cr21_6
  replace t3 := t3.on hB19
  replace t4 := t4.on hB19
  replace r1 := r1.on hB19
  replace r2 := r2.on hB19
  have hw20 : Below w.heap.size w (w7) := hw18.trans (hB19.mono hw18.size)
  clear hw18
  clear hB19
  obtain ⟨cr10_7, cr11_7⟩ := r1.two
  obtain ⟨cr20_8, cr21_8⟩ := r2.two
  have hA21 : Below (w7).heap.size (w7) (w7.alloc (.cells #[.bool false, .slice A5 N.length c5] 24)) := (Below.refl _ _).alloc (Nat.le_refl _) _
  replace t3 := t3.on hA21
  replace t4 := t4.on hA21
  replace r1 := r1.on hA21
  replace r2 := r2.on hA21
  have hw22 : Below w.heap.size w (w7.alloc (.cells #[.bool false, .slice A5 N.length c5] 24)) := hw20.trans (hA21.mono hw20.size)
  clear hw20
  clear hA21
  obtain ⟨cr10_9, cr11_9⟩ := r1.two
  obtain ⟨cr20_10, cr21_10⟩ := r2.two
  go_wp2_with fail
  with_reducible refine (One_27 _).mono ?_
  rintro e w8 ⟨A6, c6, rfl, t6, hB23⟩
  clear cr10_7 cr11_7 cr20_8 cr21_8 cr10_9 cr11_9 cr20_10 cr21_10
  replace t3 := t3.on hB23
  replace t4 := t4.on hB23
  replace r1 := r1.on hB23
  replace r2 := r2.on hB23
  have hw24 : Below w.heap.size w (w8) := hw22.trans (hB23.mono hw22.size)
  clear hw22
  clear hB23
  obtain ⟨cr10_11, cr11_11⟩ := r1.two
  obtain ⟨cr20_12, cr21_12⟩ := r2.two
  go_wp2_with fail
  with_reducible refine (Keys_7 _ false [(2, 7)] _ K true HK1.out t6 (by decide)).mono ?_
  rintro e w9 ⟨A7, c7, rfl, k7, hB25⟩
  clear cr10_11 cr11_11 cr20_12 cr21_12
  replace t3 := t3.on hB25
  replace t4 := t4.on hB25
  replace t6 := t6.on hB25
  replace r1 := r1.on hB25
  replace r2 := r2.on hB25
  have hw26 : Below w.heap.size w (w9) := hw24.trans (hB25.mono hw24.size)
  clear hw24
  clear hB25
  obtain ⟨cr10_13, cr11_13⟩ := r1.two
  obtain ⟨cr20_14, cr21_14⟩ := r2.two
  go_wp2_with fail
  with_reducible refine (Keys_7 _ false L _ Z false HK2.out t3 lL).mono ?_
  rintro e w10 ⟨A8, c8, rfl, -, hB27⟩
  clear cr10_13 cr11_13 cr20_14 cr21_14
  replace t3 := t3.on hB27
  replace t4 := t4.on hB27
  replace k7 := k7.on hB27
  replace r1 := r1.on hB27
  replace r2 := r2.on hB27
  have hw28 : Below w.heap.size w (w10) := hw26.trans (hB27.mono hw26.size)
  clear hw26
  clear hB27
  obtain ⟨cr10_15, cr11_15⟩ := r1.two
  obtain ⟨cr20_16, cr21_16⟩ := r2.two
  have p8_ := RowAt.new (w10) 50 #[.int .u64 2, .int .u64 0, .int .u64 1, .int .u64 0]
  have hA29 : Below (w10).heap.size (w10) (w10.alloc (.cells #[.int .u64 2, .int .u64 0, .int .u64 1, .int .u64 0] 50)) := (Below.refl _ _).alloc (Nat.le_refl _) _
  replace t3 := t3.on hA29
  replace t4 := t4.on hA29
  replace k7 := k7.on hA29
  replace r1 := r1.on hA29
  replace r2 := r2.on hA29
  have hw30 : Below w.heap.size w (w10.alloc (.cells #[.int .u64 2, .int .u64 0, .int .u64 1, .int .u64 0] 50)) := hw28.trans (hA29.mono hw28.size)
  clear hw28
  clear hA29
  obtain ⟨cr10_17, cr11_17⟩ := r1.two
  obtain ⟨cr20_18, cr21_18⟩ := r2.two
  have t8 : Tk (w10.alloc (.cells #[.int .u64 2, .int .u64 0, .int .u64 1, .int .u64 0] 50)) (.agg #[.bool false, .slice (some ⟨w10.heap.size, 0, none⟩) 2 2]) false [(2, 0), (1, 0)] := ⟨_, rfl, Prs.row (l := [(2, 0), (1, 0)]) p8_⟩
  have tr8_ := RowAt.new (w10.alloc (.cells #[.int .u64 2, .int .u64 0, .int .u64 1, .int .u64 0] 50)) 24 #[.bool false, .slice (some ⟨w10.heap.size, 0, none⟩) 2 2]
  have hA31 : Below (w10.alloc (.cells #[.int .u64 2, .int .u64 0, .int .u64 1, .int .u64 0] 50)).heap.size (w10.alloc (.cells #[.int .u64 2, .int .u64 0, .int .u64 1, .int .u64 0] 50)) ((w10.alloc (.cells #[.int .u64 2, .int .u64 0, .int .u64 1, .int .u64 0] 50)).alloc (.cells #[.bool false, .slice (some ⟨w10.heap.size, 0, none⟩) 2 2] 24)) := (Below.refl _ _).alloc (Nat.le_refl _) _
  replace t3 := t3.on hA31
  replace t4 := t4.on hA31
  replace k7 := k7.on hA31
  replace t8 := t8.on hA31
  replace r1 := r1.on hA31
  replace r2 := r2.on hA31
  have hw32 : Below w.heap.size w ((w10.alloc (.cells #[.int .u64 2, .int .u64 0, .int .u64 1, .int .u64 0] 50)).alloc (.cells #[.bool false, .slice (some ⟨w10.heap.size, 0, none⟩) 2 2] 24)) := hw30.trans (hA31.mono hw30.size)
  clear hw30
  clear hA31
  obtain ⟨cr10_19, cr11_19⟩ := r1.two
  obtain ⟨cr20_20, cr21_20⟩ := r2.two
  simp only [World.size_alloc] at tr8_
  have tr8 : TkRow ((w10.alloc (.cells #[.int .u64 2, .int .u64 0, .int .u64 1, .int .u64 0] 50)).alloc (.cells #[.bool false, .slice (some ⟨w10.heap.size, 0, none⟩) 2 2] 24)) (.slice (some ⟨w10.heap.size + 1, 0, none⟩) 1 1) [(false, [(2, 0), (1, 0)])] := TkRow.of (xs := [(false, .slice (some ⟨w10.heap.size, 0, none⟩) 2 2)]) tr8_ (.cons t8 (.nil _))
  go_wp2_with fail
  with_reducible refine (Merge_eq _ _ _ 1 false N HX.out tr8 (by decide) (by decide)).mono ?_
  rintro e w11 ⟨A9, c9, rfl, -, hB33⟩
  clear cr10_15 cr11_15 cr20_16 cr21_16 cr10_17 cr11_17 cr20_18 cr21_18 cr10_19 cr11_19 cr20_20 cr21_20
  replace t3 := t3.on hB33
  replace t4 := t4.on hB33
  replace k7 := k7.on hB33
  replace t8 := t8.on hB33
  replace tr8 := tr8.on hB33
  replace r1 := r1.on hB33
  replace r2 := r2.on hB33
  have hw34 : Below w.heap.size w (w11) := hw32.trans (hB33.mono hw32.size)
  clear hw32
  clear hB33
  obtain ⟨cr10_21, cr11_21⟩ := r1.two
  obtain ⟨cr20_22, cr21_22⟩ := r2.two
  have hA35 : Below (w11).heap.size (w11) (w11.alloc (.cells #[.bool false, .slice A9 N.length c9] 24)) := (Below.refl _ _).alloc (Nat.le_refl _) _
  replace t3 := t3.on hA35
  replace t4 := t4.on hA35
  replace k7 := k7.on hA35
  replace r1 := r1.on hA35
  replace r2 := r2.on hA35
  have hw36 : Below w.heap.size w (w11.alloc (.cells #[.bool false, .slice A9 N.length c9] 24)) := hw34.trans (hA35.mono hw34.size)
  clear hw34
  clear hA35
  obtain ⟨cr10_23, cr11_23⟩ := r1.two
  obtain ⟨cr20_24, cr21_24⟩ := r2.two
  have p9_ := RowAt.new (w11.alloc (.cells #[.bool false, .slice A9 N.length c9] 24)) 50 #[.int .u64 1, .int .u64 9, .int .u64 2, .int .u64 7]
  have hA37 : Below (w11.alloc (.cells #[.bool false, .slice A9 N.length c9] 24)).heap.size (w11.alloc (.cells #[.bool false, .slice A9 N.length c9] 24)) ((w11.alloc (.cells #[.bool false, .slice A9 N.length c9] 24)).alloc (.cells #[.int .u64 1, .int .u64 9, .int .u64 2, .int .u64 7] 50)) := (Below.refl _ _).alloc (Nat.le_refl _) _
  replace t3 := t3.on hA37
  replace t4 := t4.on hA37
  replace k7 := k7.on hA37
  replace r1 := r1.on hA37
  replace r2 := r2.on hA37
  have hw38 : Below w.heap.size w ((w11.alloc (.cells #[.bool false, .slice A9 N.length c9] 24)).alloc (.cells #[.int .u64 1, .int .u64 9, .int .u64 2, .int .u64 7] 50)) := hw36.trans (hA37.mono hw36.size)
  clear hw36
  clear hA37
  obtain ⟨cr10_25, cr11_25⟩ := r1.two
  obtain ⟨cr20_26, cr21_26⟩ := r2.two
  simp only [World.size_alloc] at p9_
  have t9 : Tk ((w11.alloc (.cells #[.bool false, .slice A9 N.length c9] 24)).alloc (.cells #[.int .u64 1, .int .u64 9, .int .u64 2, .int .u64 7] 50)) (.agg #[.bool false, .slice (some ⟨w11.heap.size + 1, 0, none⟩) 2 2]) false [(1, 9), (2, 7)] := ⟨_, rfl, Prs.row (l := [(1, 9), (2, 7)]) p9_⟩
  go_wp2_with fail
  with_reducible refine (Same_eq _ _ false false L [(1, 9), (2, 7)] _ true HSA.out t3 t9 lL (by decide)).mono ?_
  rintro e w12 ⟨rfl, hB39⟩
  clear cr10_21 cr11_21 cr20_22 cr21_22 cr10_23 cr11_23 cr20_24 cr21_24 cr10_25 cr11_25 cr20_26 cr21_26
  replace t3 := t3.on hB39
  replace t4 := t4.on hB39
  replace k7 := k7.on hB39
  replace t9 := t9.on hB39
  replace r1 := r1.on hB39
  replace r2 := r2.on hB39
  have hw40 : Below w.heap.size w (w12) := hw38.trans (hB39.mono hw38.size)
  clear hw38
  clear hB39
  obtain ⟨cr10_27, cr11_27⟩ := r1.two
  obtain ⟨cr20_28, cr21_28⟩ := r2.two
  have hlen := HH.out
  go_wp2_with fail
  with_reducible refine (Same_eq _ _ false false L L _ true HSB.out t4 t3 lL lL).mono ?_
  rintro e w13 ⟨rfl, hB41⟩
  clear cr10_27 cr11_27 cr20_28 cr21_28
  replace t3 := t3.on hB41
  replace t4 := t4.on hB41
  replace k7 := k7.on hB41
  replace r1 := r1.on hB41
  replace r2 := r2.on hB41
  have hw42 : Below w.heap.size w (w13) := hw40.trans (hB41.mono hw40.size)
  clear hw40
  clear hB41
  obtain ⟨cr10_29, cr11_29⟩ := r1.two
  obtain ⟨cr20_30, cr21_30⟩ := r2.two
  have k9_ := RowAt.new (w13) 26 #[.int .u64 2]
  have hA43 : Below (w13).heap.size (w13) (w13.alloc (.cells #[.int .u64 2] 26)) := (Below.refl _ _).alloc (Nat.le_refl _) _
  replace t3 := t3.on hA43
  replace t4 := t4.on hA43
  replace k7 := k7.on hA43
  replace r1 := r1.on hA43
  replace r2 := r2.on hA43
  have hw44 : Below w.heap.size w (w13.alloc (.cells #[.int .u64 2] 26)) := hw42.trans (hA43.mono hw42.size)
  clear hw42
  clear hA43
  obtain ⟨cr10_31, cr11_31⟩ := r1.two
  obtain ⟨cr20_32, cr21_32⟩ := r2.two
  have k9 : Wds (w13.alloc (.cells #[.int .u64 2] 26)) (w13.alloc (.cells #[.int .u64 2] 26)).heap.size (.slice (some ⟨w13.heap.size, 0, none⟩) 1 1) [2] := Elems.row (xs := [2]) k9_
  go_wp2_with fail
  with_reducible refine (Words_eq _ _ K [2] _ true HWK.out k7 k9 lK (by decide)).mono ?_
  rintro e w14 ⟨rfl, hB45⟩
  clear cr10_29 cr11_29 cr20_30 cr21_30 cr10_31 cr11_31 cr20_32 cr21_32
  replace t3 := t3.on hB45
  replace t4 := t4.on hB45
  replace k7 := k7.on hB45
  replace k9 := k9.on hB45
  replace r1 := r1.on hB45
  replace r2 := r2.on hB45
  have hw46 : Below w.heap.size w (w14) := hw44.trans (hB45.mono hw44.size)
  clear hw44
  clear hB45
  obtain ⟨cr10_33, cr11_33⟩ := r1.two
  obtain ⟨cr20_34, cr21_34⟩ := r2.two
  go_wp2_with fail
  with_reducible refine (Right_eq _ false L _ true HR.out t3 lL).mono ?_
  rintro e w15 ⟨rfl, hB47⟩
  clear cr10_33 cr11_33 cr20_34 cr21_34
  replace t3 := t3.on hB47
  replace t4 := t4.on hB47
  replace k7 := k7.on hB47
  replace r1 := r1.on hB47
  replace r2 := r2.on hB47
  have hw48 : Below w.heap.size w (w15) := hw46.trans (hB47.mono hw46.size)
  clear hw46
  clear hB47
  obtain ⟨cr10_35, cr11_35⟩ := r1.two
  obtain ⟨cr20_36, cr21_36⟩ := r2.two
  go_wp2_with fail
  go_ret
  exact ⟨rfl, hw48⟩
end Go.Proofs.Ytgkihgcclkkbeaa
