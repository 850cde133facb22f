/- The walk of TokenBack. -/
import Derived.Test.YtgkihgcclkkbeaaTokR
namespace Go.Proofs.Ytgkihgcclkkbeaa
open Go.RowKit

theorem enc_right (f : Bool) (raw : List Int) : encT f (tokL raw) = (encB f (tokL raw), 0) := by unfold encT; rw [tokL_right, if_pos rfl]
theorem enc_of_dec {s : List UInt8} {f : Bool} {l : List Pr} (h : decB s = (0, f, l)) : encT f l = (s, 0) := by
  obtain ⟨h1, h2, h3, _⟩ := enc_dec h
  unfold encT rightT
  rw [h2, decide_eq_true h3]
  simp [h1]
theorem dec_len (s : List UInt8) : (decB s).2.2.length ≤ s.length := by
  cases s with
  | nil => simp [decB]
  | cons b r =>
    simp only [decB]
    split
    · simp
    · split
      · simp
      · split
        · simp
        · simp [readP_length]; omega
theorem dec_cases (s : List UInt8) : ∃ (n : Int) (f : Bool) (l : List Pr), decB s = (n, f, l) ∧ (n = 0 ∨ (n == 0) = false) ∧ l.length ≤ s.length := by
  refine ⟨(decB s).1, (decB s).2.1, (decB s).2.2, rfl, ?_, dec_len s⟩
  generalize (decB s).1 = n
  by_cases h : n = 0
  · exact .inl h
  · exact .inr (by simpa using h)
theorem ext_all (t : ByteArray) : t.extract 0 t.size = t := by
  apply ByteArray.ext
  simp
theorem cut_ways (s : ByteArray) (n : Nat) : ∃ t : ByteArray, t.size ≤ n ∧ ((n < s.size ∧ s.extract 0 n = t) ∨ s = t) := by
  by_cases h : n < s.size
  · exact ⟨_, by rw [ext_size _ _ _ (by omega)]; omega, .inl ⟨h, rfl⟩⟩
  · exact ⟨s, by omega, .inr rfl⟩
theorem same_bytes {a b : Bool} {l m : List Pr} (hl : Fit l) (hm : Fit m) {X Y : ByteArray} (hX : X.data.toList = encB a l) (hY : Y.data.toList = encB b m) : ((X.toList == Y.toList) == sameT a b l m) = true := by
  rw [ByteArray.toList_eq, ByteArray.toList_eq, hX, hY]
  by_cases h : a = b ∧ l = m
  · obtain ⟨rfl, rfl⟩ := h
    simp [sameT]
  · have h1 : sameT a b l m = false := by
      cases e : sameT a b l m
      · rfl
      · simp [sameT] at e
        exact absurd e h
    have h2 : (encB a l == encB b m) = false := by
      rw [beq_eq_false_iff_ne]
      exact fun e => h ((enc_inj hl hm).1 e)
    rw [h1, h2]; rfl

set_option maxHeartbeats 4000000 in
set_option maxRecDepth 100000 in
theorem tback_1y (one two : List Int) (fa fb : Bool) (s : ByteArray) (t : ByteArray) (v u : Value) (w : World) (hv : Ints w w.heap.size v one) (hu : Ints w w.heap.size u two) (hI1 : ∀ r ∈ one, I64 r) (hI2 : ∀ r ∈ two, I64 r) (l91 : one.length ≤ maxLen) (l92 : two.length ≤ maxLen) (hs9 : s.size ≤ maxLen) (h1 : 100 < s.size) (hx : s.extract 0 100 = t) (ht : t.size ≤ 100) (n0 : Int) (f0 : Bool) (l0 : List Pr) (hd : decB t.data.toList = (n0, f0, l0)) (hn : n0 = 0) (hl0 : l0.length ≤ 100) :
    Calls Try.prog 4 #[v, u, .bool fa, .bool fb, .string s] w fun e w' => e = .returned (.bool true) ∧ Below w.heap.size w w' := by
  obtain ⟨Av, cv, rfl, -⟩ := hv.form
  obtain ⟨Au, cu, rfl, -⟩ := hu.form
  have hs9' : s.size ≤ 9223372036854775807 := hs9
  have hmin : min (s.size : Int) 100 = 100 := by omega
  have hle : (100 : Int) ≤ (s.size : Int) := by omega
  have lt : t.size ≤ 1000000 := by omega
  have ll0 : l0.length ≤ 1000000 := by omega
  have la := tokL_length one
  have lb := tokL_length two
  have fita := tokL_fit one
  have fitb := tokL_fit two
  have hea := enc_right fa one
  have heb := enc_right fb two
  have sa := tokL_srt one
  generalize hA : tokL one = a at *
  generalize hB : tokL two = b at *
  obtain ⟨X, hX⟩ : ∃ X : ByteArray, X = ⟨(encB fa a).toArray⟩ := ⟨_, rfl⟩
  obtain ⟨Y, hY⟩ : ∃ Y : ByteArray, Y = ⟨(encB fb b).toArray⟩ := ⟨_, rfl⟩
  have hXd : X.data.toList = encB fa a := by rw [hX]
  have hYd : Y.data.toList = encB fb b := by rw [hY]
  have hXs : X.size = 1 + 16 * a.length := by rw [← list_len, hXd, encB_length]
  have HA := Lib.hid hA
  have HB := Lib.hid hB
  have HX := Lib.hid (show encT fa a = (X.data.toList, 0) by rw [hXd]; exact hea)
  have HY := Lib.hid (show encT fb b = (Y.data.toList, 0) by rw [hYd]; exact heb)
  have HDX := Lib.hid (show decB X.data.toList = (0, fa, a) by rw [hXd]; exact dec_enc fa a fita sa (by omega))
  have HST0 := same_bytes fita fitb hXd hYd
  have lX : X.size ≤ 1000000 := by omega
  have HLEN := Lib.hid (show ((X.size : Int) == 1 + 16 * (a.length : Int)) = true by rw [hXs]; simp)
  have la' := la
  have lb' := lb
  clear la lb
  have la : a.length ≤ 1000000 := by omega
  have lb : b.length ≤ 1000000 := by omega
  have HSA := Lib.hid (sameT_refl fa a)
  obtain ⟨R, hR⟩ : ∃ R, sameT fa fb a b = R := ⟨_, rfl⟩
  rw [hR] at HST0
  have HST := Lib.hid HST0
  have HR := Lib.hid hR
  subst hn
  have HD := Lib.hid hd
  have HE := Lib.hid (enc_of_dec hd)
  clear hd
  clear hA hB hX hY hXd hYd hXs hR HST0 hea heb sa fita fitb
  go_enter Try.func4, Try.ntmps4
  go_wp2_with fail
  with_reducible refine (awake_any _).mono ?_
  rintro e w1 ⟨rfl, hB1⟩
  replace hv := hv.on hB1
  replace hu := hu.on hB1
  have hw2 : Below w.heap.size w (w1) := hB1
  clear hB1
  go_wp2_with fail
  with_reducible refine (Token_eq _ one fa a _ HA.out hv hI1 l91).mono ?_
  rintro e w2 ⟨A1, c1, rfl, t1, hB3⟩
  replace hv := hv.on hB3
  replace hu := hu.on hB3
  have hw4 : Below w.heap.size w (w2) := hw2.trans (hB3.mono hw2.size)
  clear hw2
  clear hB3
  have hA5 : Below (w2).heap.size (w2) (w2.alloc (.cells #[.bool fa, .slice A1 a.length c1] 24)) := (Below.refl _ _).alloc (Nat.le_refl _) _
  have r1_ := RowAt.new (w2) 24 #[.bool fa, .slice A1 a.length c1]
  replace hu := hu.on hA5
  replace t1 := t1.on hA5
  have hw6 : Below w.heap.size w (w2.alloc (.cells #[.bool fa, .slice A1 a.length c1] 24)) := hw4.trans (hA5.mono hw4.size)
  clear hw4
  clear hA5
  have r1 : RowAt (w2.alloc (.cells #[.bool fa, .slice A1 a.length c1] 24)) (w2.heap.size) 24 [.bool fa, .slice A1 a.length c1] := r1_
  clear r1_
  obtain ⟨cr10_1, cr11_1⟩ := r1.two
  go_wp2_with fail
  with_reducible refine (Token_eq _ two fb b _ HB.out hu hI2 l92).mono ?_
  rintro e w3 ⟨A2, c2, rfl, t2, hB7⟩
  clear cr10_1 cr11_1
  replace hu := hu.on hB7
  replace t1 := t1.on hB7
  replace r1 := r1.on hB7
  have hw8 : Below w.heap.size w (w3) := hw6.trans (hB7.mono hw6.size)
  clear hw6
  clear hB7
  obtain ⟨cr10_2, cr11_2⟩ := r1.two
  have hA9 : Below (w3).heap.size (w3) (w3.alloc (.cells #[.bool fb, .slice A2 b.length c2] 24)) := (Below.refl _ _).alloc (Nat.le_refl _) _
  have r2_ := RowAt.new (w3) 24 #[.bool fb, .slice A2 b.length c2]
  replace t1 := t1.on hA9
  replace t2 := t2.on hA9
  replace r1 := r1.on hA9
  have hw10 : Below w.heap.size w (w3.alloc (.cells #[.bool fb, .slice A2 b.length c2] 24)) := hw8.trans (hA9.mono hw8.size)
  clear hw8
  clear hA9
  obtain ⟨cr10_3, cr11_3⟩ := r1.two
  have r2 : RowAt (w3.alloc (.cells #[.bool fb, .slice A2 b.length c2] 24)) (w3.heap.size) 24 [.bool fb, .slice A2 b.length c2] := r2_
  clear r2_
  obtain ⟨cr20_4, cr21_4⟩ := r2.two
  go_wp2_with fail
  with_reducible refine (Encode_eq _ fa a _ X 0 HX.out t1 la).mono ?_
  rintro e w4 ⟨rfl, hB11⟩
  clear cr10_2 cr11_2 cr10_3 cr11_3 cr20_4 cr21_4
  replace t1 := t1.on hB11
  replace t2 := t2.on hB11
  replace r1 := r1.on hB11
  replace r2 := r2.on hB11
  have hw12 : Below w.heap.size w (w4) := hw10.trans (hB11.mono hw10.size)
  clear hw10
  clear hB11
  obtain ⟨cr10_5, cr11_5⟩ := r1.two
  obtain ⟨cr20_6, cr21_6⟩ := r2.two
  go_wp2_with fail
  with_reducible refine (Encode_eq _ fb b _ Y 0 HY.out t2 lb).mono ?_
  rintro e w5 ⟨rfl, hB13⟩
  clear cr10_5 cr11_5 cr20_6 cr21_6
  replace t1 := t1.on hB13
  replace t2 := t2.on hB13
  replace r1 := r1.on hB13
  replace r2 := r2.on hB13
  have hw14 : Below w.heap.size w (w5) := hw12.trans (hB13.mono hw12.size)
  clear hw12
  clear hB13
  obtain ⟨cr10_7, cr11_7⟩ := r1.two
  obtain ⟨cr20_8, cr21_8⟩ := r2.two
  go_wp2_with fail
  with_reducible refine (Decode_eq X _ 0 fa a HDX.out lX).mono ?_
  rintro e w6 ⟨A3, c3, rfl, t3, hB15⟩
  clear cr10_7 cr11_7 cr20_8 cr21_8
  replace t1 := t1.on hB15
  replace t2 := t2.on hB15
  replace r1 := r1.on hB15
  replace r2 := r2.on hB15
  have hw16 : Below w.heap.size w (w6) := hw14.trans (hB15.mono hw14.size)
  clear hw14
  clear hB15
  obtain ⟨cr10_9, cr11_9⟩ := r1.two
  obtain ⟨cr20_10, cr21_10⟩ := r2.two
  have hA17 : Below (w6).heap.size (w6) (w6.alloc (.cells #[.bool fa, .slice A3 a.length c3] 24)) := (Below.refl _ _).alloc (Nat.le_refl _) _
  have r3_ := RowAt.new (w6) 24 #[.bool fa, .slice A3 a.length c3]
  replace t1 := t1.on hA17
  replace t2 := t2.on hA17
  replace t3 := t3.on hA17
  replace r1 := r1.on hA17
  replace r2 := r2.on hA17
  have hw18 : Below w.heap.size w (w6.alloc (.cells #[.bool fa, .slice A3 a.length c3] 24)) := hw16.trans (hA17.mono hw16.size)
  clear hw16
  clear hA17
  obtain ⟨cr10_11, cr11_11⟩ := r1.two
  obtain ⟨cr20_12, cr21_12⟩ := r2.two
  have r3 : RowAt (w6.alloc (.cells #[.bool fa, .slice A3 a.length c3] 24)) (w6.heap.size) 24 [.bool fa, .slice A3 a.length c3] := r3_
  clear r3_
  obtain ⟨cr30_13, cr31_13⟩ := r3.two
  go_wp2_with fail
  with_reducible refine (Decode_eq t _ 0 f0 l0 HD.out lt).mono ?_
  rintro e w7 ⟨A4, c4, rfl, t4, hB19⟩
  clear cr10_9 cr11_9 cr20_10 cr21_10 cr10_11 cr11_11 cr20_12 cr21_12 cr30_13 cr31_13
  replace t1 := t1.on hB19
  replace t2 := t2.on hB19
  replace t3 := t3.on hB19
  replace r1 := r1.on hB19
  replace r2 := r2.on hB19
  replace r3 := r3.on hB19
  have hw20 : Below w.heap.size w (w7) := hw18.trans (hB19.mono hw18.size)
  clear hw18
  clear hB19
  obtain ⟨cr10_14, cr11_14⟩ := r1.two
  obtain ⟨cr20_15, cr21_15⟩ := r2.two
  obtain ⟨cr30_16, cr31_16⟩ := r3.two
  have hA21 : Below (w7).heap.size (w7) (w7.alloc (.cells #[.bool f0, .slice A4 l0.length c4] 24)) := (Below.refl _ _).alloc (Nat.le_refl _) _
  have r4_ := RowAt.new (w7) 24 #[.bool f0, .slice A4 l0.length c4]
  replace t1 := t1.on hA21
  replace t2 := t2.on hA21
  replace t3 := t3.on hA21
  replace t4 := t4.on hA21
  replace r1 := r1.on hA21
  replace r2 := r2.on hA21
  replace r3 := r3.on hA21
  have hw22 : Below w.heap.size w (w7.alloc (.cells #[.bool f0, .slice A4 l0.length c4] 24)) := hw20.trans (hA21.mono hw20.size)
  clear hw20
  clear hA21
  obtain ⟨cr10_17, cr11_17⟩ := r1.two
  obtain ⟨cr20_18, cr21_18⟩ := r2.two
  obtain ⟨cr30_19, cr31_19⟩ := r3.two
  have r4 : RowAt (w7.alloc (.cells #[.bool f0, .slice A4 l0.length c4] 24)) (w7.heap.size) 24 [.bool f0, .slice A4 l0.length c4] := r4_
  clear r4_
  obtain ⟨cr40_20, cr41_20⟩ := r4.two
  go_wp2_with fail
  with_reducible refine (Encode_eq _ f0 l0 _ t 0 HE.out t4 ll0).mono ?_
  rintro e w8 ⟨rfl, hB23⟩
  clear cr10_14 cr11_14 cr20_15 cr21_15 cr30_16 cr31_16 cr10_17 cr11_17 cr20_18 cr21_18 cr30_19 cr31_19 cr40_20 cr41_20
  replace t1 := t1.on hB23
  replace t2 := t2.on hB23
  replace t3 := t3.on hB23
  replace t4 := t4.on hB23
  replace r1 := r1.on hB23
  replace r2 := r2.on hB23
  replace r3 := r3.on hB23
  replace r4 := r4.on hB23
  have hw24 : Below w.heap.size w (w8) := hw22.trans (hB23.mono hw22.size)
  clear hw22
  clear hB23
  obtain ⟨cr10_21, cr11_21⟩ := r1.two
  obtain ⟨cr20_22, cr21_22⟩ := r2.two
  obtain ⟨cr30_23, cr31_23⟩ := r3.two
  obtain ⟨cr40_24, cr41_24⟩ := r4.two
  go_wp2_with fail
  with_reducible refine (Same_eq _ _ fa fa a a _ true HSA.out t3 t1 la la).mono ?_
  rintro e w9 ⟨rfl, hB25⟩
  clear cr10_21 cr11_21 cr20_22 cr21_22 cr30_23 cr31_23 cr40_24 cr41_24
  replace t1 := t1.on hB25
  replace t2 := t2.on hB25
  replace t3 := t3.on hB25
  replace t4 := t4.on hB25
  replace r1 := r1.on hB25
  replace r2 := r2.on hB25
  replace r3 := r3.on hB25
  replace r4 := r4.on hB25
  have hw26 : Below w.heap.size w (w9) := hw24.trans (hB25.mono hw24.size)
  clear hw24
  clear hB25
  obtain ⟨cr10_25, cr11_25⟩ := r1.two
  obtain ⟨cr20_26, cr21_26⟩ := r2.two
  obtain ⟨cr30_27, cr31_27⟩ := r3.two
  obtain ⟨cr40_28, cr41_28⟩ := r4.two
  go_wp2_with fail
  with_reducible refine (Same_eq _ _ fa fb a b _ R HR.out t1 t2 la lb).mono ?_
  rintro e w10 ⟨rfl, hB27⟩
  clear cr10_25 cr11_25 cr20_26 cr21_26 cr30_27 cr31_27 cr40_28 cr41_28
  replace t1 := t1.on hB27
  replace t2 := t2.on hB27
  replace t3 := t3.on hB27
  replace t4 := t4.on hB27
  replace r1 := r1.on hB27
  replace r2 := r2.on hB27
  replace r3 := r3.on hB27
  replace r4 := r4.on hB27
  have hw28 : Below w.heap.size w (w10) := hw26.trans (hB27.mono hw26.size)
  clear hw26
  clear hB27
  obtain ⟨cr10_29, cr11_29⟩ := r1.two
  obtain ⟨cr20_30, cr21_30⟩ := r2.two
  obtain ⟨cr30_31, cr31_31⟩ := r3.two
  obtain ⟨cr40_32, cr41_32⟩ := r4.two
  have hst := HST.out
  have hlen := HLEN.out
  go_wp2_with fail
  go_ret
  exact ⟨rfl, hw28⟩

set_option maxHeartbeats 4000000 in
set_option maxRecDepth 100000 in
theorem tback_1n (one two : List Int) (fa fb : Bool) (s : ByteArray) (t : ByteArray) (v u : Value) (w : World) (hv : Ints w w.heap.size v one) (hu : Ints w w.heap.size u two) (hI1 : ∀ r ∈ one, I64 r) (hI2 : ∀ r ∈ two, I64 r) (l91 : one.length ≤ maxLen) (l92 : two.length ≤ maxLen) (hs9 : s.size ≤ maxLen) (h1 : 100 < s.size) (hx : s.extract 0 100 = t) (ht : t.size ≤ 100) (n0 : Int) (f0 : Bool) (l0 : List Pr) (hd : decB t.data.toList = (n0, f0, l0)) (hn : (n0 == 0) = false) (hl0 : l0.length ≤ 100) :
    Calls Try.prog 4 #[v, u, .bool fa, .bool fb, .string s] w fun e w' => e = .returned (.bool true) ∧ Below w.heap.size w w' := by
  obtain ⟨Av, cv, rfl, -⟩ := hv.form
  obtain ⟨Au, cu, rfl, -⟩ := hu.form
  have hs9' : s.size ≤ 9223372036854775807 := hs9
  have hmin : min (s.size : Int) 100 = 100 := by omega
  have hle : (100 : Int) ≤ (s.size : Int) := by omega
  have lt : t.size ≤ 1000000 := by omega
  have ll0 : l0.length ≤ 1000000 := by omega
  have la := tokL_length one
  have lb := tokL_length two
  have fita := tokL_fit one
  have fitb := tokL_fit two
  have hea := enc_right fa one
  have heb := enc_right fb two
  have sa := tokL_srt one
  generalize hA : tokL one = a at *
  generalize hB : tokL two = b at *
  obtain ⟨X, hX⟩ : ∃ X : ByteArray, X = ⟨(encB fa a).toArray⟩ := ⟨_, rfl⟩
  obtain ⟨Y, hY⟩ : ∃ Y : ByteArray, Y = ⟨(encB fb b).toArray⟩ := ⟨_, rfl⟩
  have hXd : X.data.toList = encB fa a := by rw [hX]
  have hYd : Y.data.toList = encB fb b := by rw [hY]
  have hXs : X.size = 1 + 16 * a.length := by rw [← list_len, hXd, encB_length]
  have HA := Lib.hid hA
  have HB := Lib.hid hB
  have HX := Lib.hid (show encT fa a = (X.data.toList, 0) by rw [hXd]; exact hea)
  have HY := Lib.hid (show encT fb b = (Y.data.toList, 0) by rw [hYd]; exact heb)
  have HDX := Lib.hid (show decB X.data.toList = (0, fa, a) by rw [hXd]; exact dec_enc fa a fita sa (by omega))
  have HST0 := same_bytes fita fitb hXd hYd
  have lX : X.size ≤ 1000000 := by omega
  have HLEN := Lib.hid (show ((X.size : Int) == 1 + 16 * (a.length : Int)) = true by rw [hXs]; simp)
  have la' := la
  have lb' := lb
  clear la lb
  have la : a.length ≤ 1000000 := by omega
  have lb : b.length ≤ 1000000 := by omega
  have HSA := Lib.hid (sameT_refl fa a)
  obtain ⟨R, hR⟩ : ∃ R, sameT fa fb a b = R := ⟨_, rfl⟩
  rw [hR] at HST0
  have HST := Lib.hid HST0
  have HR := Lib.hid hR
  have HN := Lib.hid hn
  have HD := Lib.hid hd
  clear hn hd
  clear hA hB hX hY hXd hYd hXs hR HST0 hea heb sa fita fitb
  go_enter Try.func4, Try.ntmps4
  go_wp2_with fail
  with_reducible refine (awake_any _).mono ?_
  rintro e w1 ⟨rfl, hB1⟩
  replace hv := hv.on hB1
  replace hu := hu.on hB1
  have hw2 : Below w.heap.size w (w1) := hB1
  clear hB1
  go_wp2_with fail
  with_reducible refine (Token_eq _ one fa a _ HA.out hv hI1 l91).mono ?_
  rintro e w2 ⟨A1, c1, rfl, t1, hB3⟩
  replace hv := hv.on hB3
  replace hu := hu.on hB3
  have hw4 : Below w.heap.size w (w2) := hw2.trans (hB3.mono hw2.size)
  clear hw2
  clear hB3
  have hA5 : Below (w2).heap.size (w2) (w2.alloc (.cells #[.bool fa, .slice A1 a.length c1] 24)) := (Below.refl _ _).alloc (Nat.le_refl _) _
  have r1_ := RowAt.new (w2) 24 #[.bool fa, .slice A1 a.length c1]
  replace hu := hu.on hA5
  replace t1 := t1.on hA5
  have hw6 : Below w.heap.size w (w2.alloc (.cells #[.bool fa, .slice A1 a.length c1] 24)) := hw4.trans (hA5.mono hw4.size)
  clear hw4
  clear hA5
  have r1 : RowAt (w2.alloc (.cells #[.bool fa, .slice A1 a.length c1] 24)) (w2.heap.size) 24 [.bool fa, .slice A1 a.length c1] := r1_
  clear r1_
  obtain ⟨cr10_1, cr11_1⟩ := r1.two
  go_wp2_with fail
  with_reducible refine (Token_eq _ two fb b _ HB.out hu hI2 l92).mono ?_
  rintro e w3 ⟨A2, c2, rfl, t2, hB7⟩
  clear cr10_1 cr11_1
  replace hu := hu.on hB7
  replace t1 := t1.on hB7
  replace r1 := r1.on hB7
  have hw8 : Below w.heap.size w (w3) := hw6.trans (hB7.mono hw6.size)
  clear hw6
  clear hB7
  obtain ⟨cr10_2, cr11_2⟩ := r1.two
  have hA9 : Below (w3).heap.size (w3) (w3.alloc (.cells #[.bool fb, .slice A2 b.length c2] 24)) := (Below.refl _ _).alloc (Nat.le_refl _) _
  have r2_ := RowAt.new (w3) 24 #[.bool fb, .slice A2 b.length c2]
  replace t1 := t1.on hA9
  replace t2 := t2.on hA9
  replace r1 := r1.on hA9
  have hw10 : Below w.heap.size w (w3.alloc (.cells #[.bool fb, .slice A2 b.length c2] 24)) := hw8.trans (hA9.mono hw8.size)
  clear hw8
  clear hA9
  obtain ⟨cr10_3, cr11_3⟩ := r1.two
  have r2 : RowAt (w3.alloc (.cells #[.bool fb, .slice A2 b.length c2] 24)) (w3.heap.size) 24 [.bool fb, .slice A2 b.length c2] := r2_
  clear r2_
  obtain ⟨cr20_4, cr21_4⟩ := r2.two
  go_wp2_with fail
  with_reducible refine (Encode_eq _ fa a _ X 0 HX.out t1 la).mono ?_
  rintro e w4 ⟨rfl, hB11⟩
  clear cr10_2 cr11_2 cr10_3 cr11_3 cr20_4 cr21_4
  replace t1 := t1.on hB11
  replace t2 := t2.on hB11
  replace r1 := r1.on hB11
  replace r2 := r2.on hB11
  have hw12 : Below w.heap.size w (w4) := hw10.trans (hB11.mono hw10.size)
  clear hw10
  clear hB11
  obtain ⟨cr10_5, cr11_5⟩ := r1.two
  obtain ⟨cr20_6, cr21_6⟩ := r2.two
  go_wp2_with fail
  with_reducible refine (Encode_eq _ fb b _ Y 0 HY.out t2 lb).mono ?_
  rintro e w5 ⟨rfl, hB13⟩
  clear cr10_5 cr11_5 cr20_6 cr21_6
  replace t1 := t1.on hB13
  replace t2 := t2.on hB13
  replace r1 := r1.on hB13
  replace r2 := r2.on hB13
  have hw14 : Below w.heap.size w (w5) := hw12.trans (hB13.mono hw12.size)
  clear hw12
  clear hB13
  obtain ⟨cr10_7, cr11_7⟩ := r1.two
  obtain ⟨cr20_8, cr21_8⟩ := r2.two
  go_wp2_with fail
  with_reducible refine (Decode_eq X _ 0 fa a HDX.out lX).mono ?_
  rintro e w6 ⟨A3, c3, rfl, t3, hB15⟩
  clear cr10_7 cr11_7 cr20_8 cr21_8
  replace t1 := t1.on hB15
  replace t2 := t2.on hB15
  replace r1 := r1.on hB15
  replace r2 := r2.on hB15
  have hw16 : Below w.heap.size w (w6) := hw14.trans (hB15.mono hw14.size)
  clear hw14
  clear hB15
  obtain ⟨cr10_9, cr11_9⟩ := r1.two
  obtain ⟨cr20_10, cr21_10⟩ := r2.two
  have hA17 : Below (w6).heap.size (w6) (w6.alloc (.cells #[.bool fa, .slice A3 a.length c3] 24)) := (Below.refl _ _).alloc (Nat.le_refl _) _
  have r3_ := RowAt.new (w6) 24 #[.bool fa, .slice A3 a.length c3]
  replace t1 := t1.on hA17
  replace t2 := t2.on hA17
  replace t3 := t3.on hA17
  replace r1 := r1.on hA17
  replace r2 := r2.on hA17
  have hw18 : Below w.heap.size w (w6.alloc (.cells #[.bool fa, .slice A3 a.length c3] 24)) := hw16.trans (hA17.mono hw16.size)
  clear hw16
  clear hA17
  obtain ⟨cr10_11, cr11_11⟩ := r1.two
  obtain ⟨cr20_12, cr21_12⟩ := r2.two
  have r3 : RowAt (w6.alloc (.cells #[.bool fa, .slice A3 a.length c3] 24)) (w6.heap.size) 24 [.bool fa, .slice A3 a.length c3] := r3_
  clear r3_
  obtain ⟨cr30_13, cr31_13⟩ := r3.two
  go_wp2_with fail
  with_reducible refine (Decode_eq t _ n0 f0 l0 HD.out lt).mono ?_
  rintro e w7 ⟨A4, c4, rfl, t4, hB19⟩
  clear cr10_9 cr11_9 cr20_10 cr21_10 cr10_11 cr11_11 cr20_12 cr21_12 cr30_13 cr31_13
  replace t1 := t1.on hB19
  replace t2 := t2.on hB19
  replace t3 := t3.on hB19
  replace r1 := r1.on hB19
  replace r2 := r2.on hB19
  replace r3 := r3.on hB19
  have hw20 : Below w.heap.size w (w7) := hw18.trans (hB19.mono hw18.size)
  clear hw18
  clear hB19
  obtain ⟨cr10_14, cr11_14⟩ := r1.two
  obtain ⟨cr20_15, cr21_15⟩ := r2.two
  obtain ⟨cr30_16, cr31_16⟩ := r3.two
  have hA21 : Below (w7).heap.size (w7) (w7.alloc (.cells #[.bool f0, .slice A4 l0.length c4] 24)) := (Below.refl _ _).alloc (Nat.le_refl _) _
  have r4_ := RowAt.new (w7) 24 #[.bool f0, .slice A4 l0.length c4]
  replace t1 := t1.on hA21
  replace t2 := t2.on hA21
  replace t3 := t3.on hA21
  replace t4 := t4.on hA21
  replace r1 := r1.on hA21
  replace r2 := r2.on hA21
  replace r3 := r3.on hA21
  have hw22 : Below w.heap.size w (w7.alloc (.cells #[.bool f0, .slice A4 l0.length c4] 24)) := hw20.trans (hA21.mono hw20.size)
  clear hw20
  clear hA21
  obtain ⟨cr10_17, cr11_17⟩ := r1.two
  obtain ⟨cr20_18, cr21_18⟩ := r2.two
  obtain ⟨cr30_19, cr31_19⟩ := r3.two
  have r4 : RowAt (w7.alloc (.cells #[.bool f0, .slice A4 l0.length c4] 24)) (w7.heap.size) 24 [.bool f0, .slice A4 l0.length c4] := r4_
  clear r4_
  obtain ⟨cr40_20, cr41_20⟩ := r4.two
  have hn0 := HN.out
  go_wp2_with fail
  with_reducible refine (Same_eq _ _ fa fa a a _ true HSA.out t3 t1 la la).mono ?_
  rintro e w9 ⟨rfl, hB23⟩
  clear cr10_14 cr11_14 cr20_15 cr21_15 cr30_16 cr31_16 cr10_17 cr11_17 cr20_18 cr21_18 cr30_19 cr31_19 cr40_20 cr41_20
  replace t1 := t1.on hB23
  replace t2 := t2.on hB23
  replace t3 := t3.on hB23
  replace t4 := t4.on hB23
  replace r1 := r1.on hB23
  replace r2 := r2.on hB23
  replace r3 := r3.on hB23
  replace r4 := r4.on hB23
  have hw24 : Below w.heap.size w (w9) := hw22.trans (hB23.mono hw22.size)
  clear hw22
  clear hB23
  obtain ⟨cr10_21, cr11_21⟩ := r1.two
  obtain ⟨cr20_22, cr21_22⟩ := r2.two
  obtain ⟨cr30_23, cr31_23⟩ := r3.two
  obtain ⟨cr40_24, cr41_24⟩ := r4.two
  go_wp2_with fail
  with_reducible refine (Same_eq _ _ fa fb a b _ R HR.out t1 t2 la lb).mono ?_
  rintro e w10 ⟨rfl, hB25⟩
  clear cr10_21 cr11_21 cr20_22 cr21_22 cr30_23 cr31_23 cr40_24 cr41_24
  replace t1 := t1.on hB25
  replace t2 := t2.on hB25
  replace t3 := t3.on hB25
  replace t4 := t4.on hB25
  replace r1 := r1.on hB25
  replace r2 := r2.on hB25
  replace r3 := r3.on hB25
  replace r4 := r4.on hB25
  have hw26 : Below w.heap.size w (w10) := hw24.trans (hB25.mono hw24.size)
  clear hw24
  clear hB25
  obtain ⟨cr10_25, cr11_25⟩ := r1.two
  obtain ⟨cr20_26, cr21_26⟩ := r2.two
  obtain ⟨cr30_27, cr31_27⟩ := r3.two
  obtain ⟨cr40_28, cr41_28⟩ := r4.two
  have hst := HST.out
  have hlen := HLEN.out
  go_wp2_with fail
  go_ret
  exact ⟨rfl, hw26⟩

set_option maxHeartbeats 4000000 in
set_option maxRecDepth 100000 in
theorem tback_2y (one two : List Int) (fa fb : Bool) (t : ByteArray) (v u : Value) (w : World) (hv : Ints w w.heap.size v one) (hu : Ints w w.heap.size u two) (hI1 : ∀ r ∈ one, I64 r) (hI2 : ∀ r ∈ two, I64 r) (l91 : one.length ≤ maxLen) (l92 : two.length ≤ maxLen) (ht : t.size ≤ 100) (n0 : Int) (f0 : Bool) (l0 : List Pr) (hd : decB t.data.toList = (n0, f0, l0)) (hn : n0 = 0) (hl0 : l0.length ≤ 100) :
    Calls Try.prog 4 #[v, u, .bool fa, .bool fb, .string t] w fun e w' => e = .returned (.bool true) ∧ Below w.heap.size w w' := by
  obtain ⟨Av, cv, rfl, -⟩ := hv.form
  obtain ⟨Au, cu, rfl, -⟩ := hu.form
  have hmin : min (t.size : Int) 100 = (t.size : Int) := by omega
  have hx := ext_all t
  have lt : t.size ≤ 1000000 := by omega
  have ll0 : l0.length ≤ 1000000 := by omega
  have la := tokL_length one
  have lb := tokL_length two
  have fita := tokL_fit one
  have fitb := tokL_fit two
  have hea := enc_right fa one
  have heb := enc_right fb two
  have sa := tokL_srt one
  generalize hA : tokL one = a at *
  generalize hB : tokL two = b at *
  obtain ⟨X, hX⟩ : ∃ X : ByteArray, X = ⟨(encB fa a).toArray⟩ := ⟨_, rfl⟩
  obtain ⟨Y, hY⟩ : ∃ Y : ByteArray, Y = ⟨(encB fb b).toArray⟩ := ⟨_, rfl⟩
  have hXd : X.data.toList = encB fa a := by rw [hX]
  have hYd : Y.data.toList = encB fb b := by rw [hY]
  have hXs : X.size = 1 + 16 * a.length := by rw [← list_len, hXd, encB_length]
  have HA := Lib.hid hA
  have HB := Lib.hid hB
  have HX := Lib.hid (show encT fa a = (X.data.toList, 0) by rw [hXd]; exact hea)
  have HY := Lib.hid (show encT fb b = (Y.data.toList, 0) by rw [hYd]; exact heb)
  have HDX := Lib.hid (show decB X.data.toList = (0, fa, a) by rw [hXd]; exact dec_enc fa a fita sa (by omega))
  have HST0 := same_bytes fita fitb hXd hYd
  have lX : X.size ≤ 1000000 := by omega
  have HLEN := Lib.hid (show ((X.size : Int) == 1 + 16 * (a.length : Int)) = true by rw [hXs]; simp)
  have la' := la
  have lb' := lb
  clear la lb
  have la : a.length ≤ 1000000 := by omega
  have lb : b.length ≤ 1000000 := by omega
  have HSA := Lib.hid (sameT_refl fa a)
  obtain ⟨R, hR⟩ : ∃ R, sameT fa fb a b = R := ⟨_, rfl⟩
  rw [hR] at HST0
  have HST := Lib.hid HST0
  have HR := Lib.hid hR
  subst hn
  have HD := Lib.hid hd
  have HE := Lib.hid (enc_of_dec hd)
  clear hd
  clear hA hB hX hY hXd hYd hXs hR HST0 hea heb sa fita fitb
  go_enter Try.func4, Try.ntmps4
  go_wp2_with fail
  with_reducible refine (awake_any _).mono ?_
  rintro e w1 ⟨rfl, hB1⟩
  replace hv := hv.on hB1
  replace hu := hu.on hB1
  have hw2 : Below w.heap.size w (w1) := hB1
  clear hB1
  go_wp2_with fail
  with_reducible refine (Token_eq _ one fa a _ HA.out hv hI1 l91).mono ?_
  rintro e w2 ⟨A1, c1, rfl, t1, hB3⟩
  replace hv := hv.on hB3
  replace hu := hu.on hB3
  have hw4 : Below w.heap.size w (w2) := hw2.trans (hB3.mono hw2.size)
  clear hw2
  clear hB3
  have hA5 : Below (w2).heap.size (w2) (w2.alloc (.cells #[.bool fa, .slice A1 a.length c1] 24)) := (Below.refl _ _).alloc (Nat.le_refl _) _
  have r1_ := RowAt.new (w2) 24 #[.bool fa, .slice A1 a.length c1]
  replace hu := hu.on hA5
  replace t1 := t1.on hA5
  have hw6 : Below w.heap.size w (w2.alloc (.cells #[.bool fa, .slice A1 a.length c1] 24)) := hw4.trans (hA5.mono hw4.size)
  clear hw4
  clear hA5
  have r1 : RowAt (w2.alloc (.cells #[.bool fa, .slice A1 a.length c1] 24)) (w2.heap.size) 24 [.bool fa, .slice A1 a.length c1] := r1_
  clear r1_
  obtain ⟨cr10_1, cr11_1⟩ := r1.two
  go_wp2_with fail
  with_reducible refine (Token_eq _ two fb b _ HB.out hu hI2 l92).mono ?_
  rintro e w3 ⟨A2, c2, rfl, t2, hB7⟩
  clear cr10_1 cr11_1
  replace hu := hu.on hB7
  replace t1 := t1.on hB7
  replace r1 := r1.on hB7
  have hw8 : Below w.heap.size w (w3) := hw6.trans (hB7.mono hw6.size)
  clear hw6
  clear hB7
  obtain ⟨cr10_2, cr11_2⟩ := r1.two
  have hA9 : Below (w3).heap.size (w3) (w3.alloc (.cells #[.bool fb, .slice A2 b.length c2] 24)) := (Below.refl _ _).alloc (Nat.le_refl _) _
  have r2_ := RowAt.new (w3) 24 #[.bool fb, .slice A2 b.length c2]
  replace t1 := t1.on hA9
  replace t2 := t2.on hA9
  replace r1 := r1.on hA9
  have hw10 : Below w.heap.size w (w3.alloc (.cells #[.bool fb, .slice A2 b.length c2] 24)) := hw8.trans (hA9.mono hw8.size)
  clear hw8
  clear hA9
  obtain ⟨cr10_3, cr11_3⟩ := r1.two
  have r2 : RowAt (w3.alloc (.cells #[.bool fb, .slice A2 b.length c2] 24)) (w3.heap.size) 24 [.bool fb, .slice A2 b.length c2] := r2_
  clear r2_
  obtain ⟨cr20_4, cr21_4⟩ := r2.two
  go_wp2_with fail
  with_reducible refine (Encode_eq _ fa a _ X 0 HX.out t1 la).mono ?_
  rintro e w4 ⟨rfl, hB11⟩
  clear cr10_2 cr11_2 cr10_3 cr11_3 cr20_4 cr21_4
  replace t1 := t1.on hB11
  replace t2 := t2.on hB11
  replace r1 := r1.on hB11
  replace r2 := r2.on hB11
  have hw12 : Below w.heap.size w (w4) := hw10.trans (hB11.mono hw10.size)
  clear hw10
  clear hB11
  obtain ⟨cr10_5, cr11_5⟩ := r1.two
  obtain ⟨cr20_6, cr21_6⟩ := r2.two
  go_wp2_with fail
  with_reducible refine (Encode_eq _ fb b _ Y 0 HY.out t2 lb).mono ?_
  rintro e w5 ⟨rfl, hB13⟩
  clear cr10_5 cr11_5 cr20_6 cr21_6
  replace t1 := t1.on hB13
  replace t2 := t2.on hB13
  replace r1 := r1.on hB13
  replace r2 := r2.on hB13
  have hw14 : Below w.heap.size w (w5) := hw12.trans (hB13.mono hw12.size)
  clear hw12
  clear hB13
  obtain ⟨cr10_7, cr11_7⟩ := r1.two
  obtain ⟨cr20_8, cr21_8⟩ := r2.two
  go_wp2_with fail
  with_reducible refine (Decode_eq X _ 0 fa a HDX.out lX).mono ?_
  rintro e w6 ⟨A3, c3, rfl, t3, hB15⟩
  clear cr10_7 cr11_7 cr20_8 cr21_8
  replace t1 := t1.on hB15
  replace t2 := t2.on hB15
  replace r1 := r1.on hB15
  replace r2 := r2.on hB15
  have hw16 : Below w.heap.size w (w6) := hw14.trans (hB15.mono hw14.size)
  clear hw14
  clear hB15
  obtain ⟨cr10_9, cr11_9⟩ := r1.two
  obtain ⟨cr20_10, cr21_10⟩ := r2.two
  have hA17 : Below (w6).heap.size (w6) (w6.alloc (.cells #[.bool fa, .slice A3 a.length c3] 24)) := (Below.refl _ _).alloc (Nat.le_refl _) _
  have r3_ := RowAt.new (w6) 24 #[.bool fa, .slice A3 a.length c3]
  replace t1 := t1.on hA17
  replace t2 := t2.on hA17
  replace t3 := t3.on hA17
  replace r1 := r1.on hA17
  replace r2 := r2.on hA17
  have hw18 : Below w.heap.size w (w6.alloc (.cells #[.bool fa, .slice A3 a.length c3] 24)) := hw16.trans (hA17.mono hw16.size)
  clear hw16
  clear hA17
  obtain ⟨cr10_11, cr11_11⟩ := r1.two
  obtain ⟨cr20_12, cr21_12⟩ := r2.two
  have r3 : RowAt (w6.alloc (.cells #[.bool fa, .slice A3 a.length c3] 24)) (w6.heap.size) 24 [.bool fa, .slice A3 a.length c3] := r3_
  clear r3_
  obtain ⟨cr30_13, cr31_13⟩ := r3.two
  go_wp2_with fail
  with_reducible refine (Decode_eq t _ 0 f0 l0 HD.out lt).mono ?_
  rintro e w7 ⟨A4, c4, rfl, t4, hB19⟩
  clear cr10_9 cr11_9 cr20_10 cr21_10 cr10_11 cr11_11 cr20_12 cr21_12 cr30_13 cr31_13
  replace t1 := t1.on hB19
  replace t2 := t2.on hB19
  replace t3 := t3.on hB19
  replace r1 := r1.on hB19
  replace r2 := r2.on hB19
  replace r3 := r3.on hB19
  have hw20 : Below w.heap.size w (w7) := hw18.trans (hB19.mono hw18.size)
  clear hw18
  clear hB19
  obtain ⟨cr10_14, cr11_14⟩ := r1.two
  obtain ⟨cr20_15, cr21_15⟩ := r2.two
  obtain ⟨cr30_16, cr31_16⟩ := r3.two
  have hA21 : Below (w7).heap.size (w7) (w7.alloc (.cells #[.bool f0, .slice A4 l0.length c4] 24)) := (Below.refl _ _).alloc (Nat.le_refl _) _
  have r4_ := RowAt.new (w7) 24 #[.bool f0, .slice A4 l0.length c4]
  replace t1 := t1.on hA21
  replace t2 := t2.on hA21
  replace t3 := t3.on hA21
  replace t4 := t4.on hA21
  replace r1 := r1.on hA21
  replace r2 := r2.on hA21
  replace r3 := r3.on hA21
  have hw22 : Below w.heap.size w (w7.alloc (.cells #[.bool f0, .slice A4 l0.length c4] 24)) := hw20.trans (hA21.mono hw20.size)
  clear hw20
  clear hA21
  obtain ⟨cr10_17, cr11_17⟩ := r1.two
  obtain ⟨cr20_18, cr21_18⟩ := r2.two
  obtain ⟨cr30_19, cr31_19⟩ := r3.two
  have r4 : RowAt (w7.alloc (.cells #[.bool f0, .slice A4 l0.length c4] 24)) (w7.heap.size) 24 [.bool f0, .slice A4 l0.length c4] := r4_
  clear r4_
  obtain ⟨cr40_20, cr41_20⟩ := r4.two
  go_wp2_with fail
  with_reducible refine (Encode_eq _ f0 l0 _ t 0 HE.out t4 ll0).mono ?_
  rintro e w8 ⟨rfl, hB23⟩
  clear cr10_14 cr11_14 cr20_15 cr21_15 cr30_16 cr31_16 cr10_17 cr11_17 cr20_18 cr21_18 cr30_19 cr31_19 cr40_20 cr41_20
  replace t1 := t1.on hB23
  replace t2 := t2.on hB23
  replace t3 := t3.on hB23
  replace t4 := t4.on hB23
  replace r1 := r1.on hB23
  replace r2 := r2.on hB23
  replace r3 := r3.on hB23
  replace r4 := r4.on hB23
  have hw24 : Below w.heap.size w (w8) := hw22.trans (hB23.mono hw22.size)
  clear hw22
  clear hB23
  obtain ⟨cr10_21, cr11_21⟩ := r1.two
  obtain ⟨cr20_22, cr21_22⟩ := r2.two
  obtain ⟨cr30_23, cr31_23⟩ := r3.two
  obtain ⟨cr40_24, cr41_24⟩ := r4.two
  go_wp2_with fail
  with_reducible refine (Same_eq _ _ fa fa a a _ true HSA.out t3 t1 la la).mono ?_
  rintro e w9 ⟨rfl, hB25⟩
  clear cr10_21 cr11_21 cr20_22 cr21_22 cr30_23 cr31_23 cr40_24 cr41_24
  replace t1 := t1.on hB25
  replace t2 := t2.on hB25
  replace t3 := t3.on hB25
  replace t4 := t4.on hB25
  replace r1 := r1.on hB25
  replace r2 := r2.on hB25
  replace r3 := r3.on hB25
  replace r4 := r4.on hB25
  have hw26 : Below w.heap.size w (w9) := hw24.trans (hB25.mono hw24.size)
  clear hw24
  clear hB25
  obtain ⟨cr10_25, cr11_25⟩ := r1.two
  obtain ⟨cr20_26, cr21_26⟩ := r2.two
  obtain ⟨cr30_27, cr31_27⟩ := r3.two
  obtain ⟨cr40_28, cr41_28⟩ := r4.two
  go_wp2_with fail
  with_reducible refine (Same_eq _ _ fa fb a b _ R HR.out t1 t2 la lb).mono ?_
  rintro e w10 ⟨rfl, hB27⟩
  clear cr10_25 cr11_25 cr20_26 cr21_26 cr30_27 cr31_27 cr40_28 cr41_28
  replace t1 := t1.on hB27
  replace t2 := t2.on hB27
  replace t3 := t3.on hB27
  replace t4 := t4.on hB27
  replace r1 := r1.on hB27
  replace r2 := r2.on hB27
  replace r3 := r3.on hB27
  replace r4 := r4.on hB27
  have hw28 : Below w.heap.size w (w10) := hw26.trans (hB27.mono hw26.size)
  clear hw26
  clear hB27
  obtain ⟨cr10_29, cr11_29⟩ := r1.two
  obtain ⟨cr20_30, cr21_30⟩ := r2.two
  obtain ⟨cr30_31, cr31_31⟩ := r3.two
  obtain ⟨cr40_32, cr41_32⟩ := r4.two
  have hst := HST.out
  have hlen := HLEN.out
  go_wp2_with fail
  go_ret
  exact ⟨rfl, hw28⟩

set_option maxHeartbeats 4000000 in
set_option maxRecDepth 100000 in
theorem tback_2n (one two : List Int) (fa fb : Bool) (t : ByteArray) (v u : Value) (w : World) (hv : Ints w w.heap.size v one) (hu : Ints w w.heap.size u two) (hI1 : ∀ r ∈ one, I64 r) (hI2 : ∀ r ∈ two, I64 r) (l91 : one.length ≤ maxLen) (l92 : two.length ≤ maxLen) (ht : t.size ≤ 100) (n0 : Int) (f0 : Bool) (l0 : List Pr) (hd : decB t.data.toList = (n0, f0, l0)) (hn : (n0 == 0) = false) (hl0 : l0.length ≤ 100) :
    Calls Try.prog 4 #[v, u, .bool fa, .bool fb, .string t] w fun e w' => e = .returned (.bool true) ∧ Below w.heap.size w w' := by
  obtain ⟨Av, cv, rfl, -⟩ := hv.form
  obtain ⟨Au, cu, rfl, -⟩ := hu.form
  have hmin : min (t.size : Int) 100 = (t.size : Int) := by omega
  have hx := ext_all t
  have lt : t.size ≤ 1000000 := by omega
  have ll0 : l0.length ≤ 1000000 := by omega
  have la := tokL_length one
  have lb := tokL_length two
  have fita := tokL_fit one
  have fitb := tokL_fit two
  have hea := enc_right fa one
  have heb := enc_right fb two
  have sa := tokL_srt one
  generalize hA : tokL one = a at *
  generalize hB : tokL two = b at *
  obtain ⟨X, hX⟩ : ∃ X : ByteArray, X = ⟨(encB fa a).toArray⟩ := ⟨_, rfl⟩
  obtain ⟨Y, hY⟩ : ∃ Y : ByteArray, Y = ⟨(encB fb b).toArray⟩ := ⟨_, rfl⟩
  have hXd : X.data.toList = encB fa a := by rw [hX]
  have hYd : Y.data.toList = encB fb b := by rw [hY]
  have hXs : X.size = 1 + 16 * a.length := by rw [← list_len, hXd, encB_length]
  have HA := Lib.hid hA
  have HB := Lib.hid hB
  have HX := Lib.hid (show encT fa a = (X.data.toList, 0) by rw [hXd]; exact hea)
  have HY := Lib.hid (show encT fb b = (Y.data.toList, 0) by rw [hYd]; exact heb)
  have HDX := Lib.hid (show decB X.data.toList = (0, fa, a) by rw [hXd]; exact dec_enc fa a fita sa (by omega))
  have HST0 := same_bytes fita fitb hXd hYd
  have lX : X.size ≤ 1000000 := by omega
  have HLEN := Lib.hid (show ((X.size : Int) == 1 + 16 * (a.length : Int)) = true by rw [hXs]; simp)
  have la' := la
  have lb' := lb
  clear la lb
  have la : a.length ≤ 1000000 := by omega
  have lb : b.length ≤ 1000000 := by omega
  have HSA := Lib.hid (sameT_refl fa a)
  obtain ⟨R, hR⟩ : ∃ R, sameT fa fb a b = R := ⟨_, rfl⟩
  rw [hR] at HST0
  have HST := Lib.hid HST0
  have HR := Lib.hid hR
  have HN := Lib.hid hn
  have HD := Lib.hid hd
  clear hn hd
  clear hA hB hX hY hXd hYd hXs hR HST0 hea heb sa fita fitb
  go_enter Try.func4, Try.ntmps4
  go_wp2_with fail
  with_reducible refine (awake_any _).mono ?_
  rintro e w1 ⟨rfl, hB1⟩
  replace hv := hv.on hB1
  replace hu := hu.on hB1
  have hw2 : Below w.heap.size w (w1) := hB1
  clear hB1
  go_wp2_with fail
  with_reducible refine (Token_eq _ one fa a _ HA.out hv hI1 l91).mono ?_
  rintro e w2 ⟨A1, c1, rfl, t1, hB3⟩
  replace hv := hv.on hB3
  replace hu := hu.on hB3
  have hw4 : Below w.heap.size w (w2) := hw2.trans (hB3.mono hw2.size)
  clear hw2
  clear hB3
  have hA5 : Below (w2).heap.size (w2) (w2.alloc (.cells #[.bool fa, .slice A1 a.length c1] 24)) := (Below.refl _ _).alloc (Nat.le_refl _) _
  have r1_ := RowAt.new (w2) 24 #[.bool fa, .slice A1 a.length c1]
  replace hu := hu.on hA5
  replace t1 := t1.on hA5
  have hw6 : Below w.heap.size w (w2.alloc (.cells #[.bool fa, .slice A1 a.length c1] 24)) := hw4.trans (hA5.mono hw4.size)
  clear hw4
  clear hA5
  have r1 : RowAt (w2.alloc (.cells #[.bool fa, .slice A1 a.length c1] 24)) (w2.heap.size) 24 [.bool fa, .slice A1 a.length c1] := r1_
  clear r1_
  obtain ⟨cr10_1, cr11_1⟩ := r1.two
  go_wp2_with fail
  with_reducible refine (Token_eq _ two fb b _ HB.out hu hI2 l92).mono ?_
  rintro e w3 ⟨A2, c2, rfl, t2, hB7⟩
  clear cr10_1 cr11_1
  replace hu := hu.on hB7
  replace t1 := t1.on hB7
  replace r1 := r1.on hB7
  have hw8 : Below w.heap.size w (w3) := hw6.trans (hB7.mono hw6.size)
  clear hw6
  clear hB7
  obtain ⟨cr10_2, cr11_2⟩ := r1.two
  have hA9 : Below (w3).heap.size (w3) (w3.alloc (.cells #[.bool fb, .slice A2 b.length c2] 24)) := (Below.refl _ _).alloc (Nat.le_refl _) _
  have r2_ := RowAt.new (w3) 24 #[.bool fb, .slice A2 b.length c2]
  replace t1 := t1.on hA9
  replace t2 := t2.on hA9
  replace r1 := r1.on hA9
  have hw10 : Below w.heap.size w (w3.alloc (.cells #[.bool fb, .slice A2 b.length c2] 24)) := hw8.trans (hA9.mono hw8.size)
  clear hw8
  clear hA9
  obtain ⟨cr10_3, cr11_3⟩ := r1.two
  have r2 : RowAt (w3.alloc (.cells #[.bool fb, .slice A2 b.length c2] 24)) (w3.heap.size) 24 [.bool fb, .slice A2 b.length c2] := r2_
  clear r2_
  obtain ⟨cr20_4, cr21_4⟩ := r2.two
  go_wp2_with fail
  with_reducible refine (Encode_eq _ fa a _ X 0 HX.out t1 la).mono ?_
  rintro e w4 ⟨rfl, hB11⟩
  clear cr10_2 cr11_2 cr10_3 cr11_3 cr20_4 cr21_4
  replace t1 := t1.on hB11
  replace t2 := t2.on hB11
  replace r1 := r1.on hB11
  replace r2 := r2.on hB11
  have hw12 : Below w.heap.size w (w4) := hw10.trans (hB11.mono hw10.size)
  clear hw10
  clear hB11
  obtain ⟨cr10_5, cr11_5⟩ := r1.two
  obtain ⟨cr20_6, cr21_6⟩ := r2.two
  go_wp2_with fail
  with_reducible refine (Encode_eq _ fb b _ Y 0 HY.out t2 lb).mono ?_
  rintro e w5 ⟨rfl, hB13⟩
  clear cr10_5 cr11_5 cr20_6 cr21_6
  replace t1 := t1.on hB13
  replace t2 := t2.on hB13
  replace r1 := r1.on hB13
  replace r2 := r2.on hB13
  have hw14 : Below w.heap.size w (w5) := hw12.trans (hB13.mono hw12.size)
  clear hw12
  clear hB13
  obtain ⟨cr10_7, cr11_7⟩ := r1.two
  obtain ⟨cr20_8, cr21_8⟩ := r2.two
  go_wp2_with fail
  with_reducible refine (Decode_eq X _ 0 fa a HDX.out lX).mono ?_
  rintro e w6 ⟨A3, c3, rfl, t3, hB15⟩
  clear cr10_7 cr11_7 cr20_8 cr21_8
  replace t1 := t1.on hB15
  replace t2 := t2.on hB15
  replace r1 := r1.on hB15
  replace r2 := r2.on hB15
  have hw16 : Below w.heap.size w (w6) := hw14.trans (hB15.mono hw14.size)
  clear hw14
  clear hB15
  obtain ⟨cr10_9, cr11_9⟩ := r1.two
  obtain ⟨cr20_10, cr21_10⟩ := r2.two
  have hA17 : Below (w6).heap.size (w6) (w6.alloc (.cells #[.bool fa, .slice A3 a.length c3] 24)) := (Below.refl _ _).alloc (Nat.le_refl _) _
  have r3_ := RowAt.new (w6) 24 #[.bool fa, .slice A3 a.length c3]
  replace t1 := t1.on hA17
  replace t2 := t2.on hA17
  replace t3 := t3.on hA17
  replace r1 := r1.on hA17
  replace r2 := r2.on hA17
  have hw18 : Below w.heap.size w (w6.alloc (.cells #[.bool fa, .slice A3 a.length c3] 24)) := hw16.trans (hA17.mono hw16.size)
  clear hw16
  clear hA17
  obtain ⟨cr10_11, cr11_11⟩ := r1.two
  obtain ⟨cr20_12, cr21_12⟩ := r2.two
  have r3 : RowAt (w6.alloc (.cells #[.bool fa, .slice A3 a.length c3] 24)) (w6.heap.size) 24 [.bool fa, .slice A3 a.length c3] := r3_
  clear r3_
  obtain ⟨cr30_13, cr31_13⟩ := r3.two
  go_wp2_with fail
  with_reducible refine (Decode_eq t _ n0 f0 l0 HD.out lt).mono ?_
  rintro e w7 ⟨A4, c4, rfl, t4, hB19⟩
  clear cr10_9 cr11_9 cr20_10 cr21_10 cr10_11 cr11_11 cr20_12 cr21_12 cr30_13 cr31_13
  replace t1 := t1.on hB19
  replace t2 := t2.on hB19
  replace t3 := t3.on hB19
  replace r1 := r1.on hB19
  replace r2 := r2.on hB19
  replace r3 := r3.on hB19
  have hw20 : Below w.heap.size w (w7) := hw18.trans (hB19.mono hw18.size)
  clear hw18
  clear hB19
  obtain ⟨cr10_14, cr11_14⟩ := r1.two
  obtain ⟨cr20_15, cr21_15⟩ := r2.two
  obtain ⟨cr30_16, cr31_16⟩ := r3.two
  have hA21 : Below (w7).heap.size (w7) (w7.alloc (.cells #[.bool f0, .slice A4 l0.length c4] 24)) := (Below.refl _ _).alloc (Nat.le_refl _) _
  have r4_ := RowAt.new (w7) 24 #[.bool f0, .slice A4 l0.length c4]
  replace t1 := t1.on hA21
  replace t2 := t2.on hA21
  replace t3 := t3.on hA21
  replace t4 := t4.on hA21
  replace r1 := r1.on hA21
  replace r2 := r2.on hA21
  replace r3 := r3.on hA21
  have hw22 : Below w.heap.size w (w7.alloc (.cells #[.bool f0, .slice A4 l0.length c4] 24)) := hw20.trans (hA21.mono hw20.size)
  clear hw20
  clear hA21
  obtain ⟨cr10_17, cr11_17⟩ := r1.two
  obtain ⟨cr20_18, cr21_18⟩ := r2.two
  obtain ⟨cr30_19, cr31_19⟩ := r3.two
  have r4 : RowAt (w7.alloc (.cells #[.bool f0, .slice A4 l0.length c4] 24)) (w7.heap.size) 24 [.bool f0, .slice A4 l0.length c4] := r4_
  clear r4_
  obtain ⟨cr40_20, cr41_20⟩ := r4.two
  have hn0 := HN.out
  go_wp2_with fail
  with_reducible refine (Same_eq _ _ fa fa a a _ true HSA.out t3 t1 la la).mono ?_
  rintro e w9 ⟨rfl, hB23⟩
  clear cr10_14 cr11_14 cr20_15 cr21_15 cr30_16 cr31_16 cr10_17 cr11_17 cr20_18 cr21_18 cr30_19 cr31_19 cr40_20 cr41_20
  replace t1 := t1.on hB23
  replace t2 := t2.on hB23
  replace t3 := t3.on hB23
  replace t4 := t4.on hB23
  replace r1 := r1.on hB23
  replace r2 := r2.on hB23
  replace r3 := r3.on hB23
  replace r4 := r4.on hB23
  have hw24 : Below w.heap.size w (w9) := hw22.trans (hB23.mono hw22.size)
  clear hw22
  clear hB23
  obtain ⟨cr10_21, cr11_21⟩ := r1.two
  obtain ⟨cr20_22, cr21_22⟩ := r2.two
  obtain ⟨cr30_23, cr31_23⟩ := r3.two
  obtain ⟨cr40_24, cr41_24⟩ := r4.two
  go_wp2_with fail
  with_reducible refine (Same_eq _ _ fa fb a b _ R HR.out t1 t2 la lb).mono ?_
  rintro e w10 ⟨rfl, hB25⟩
  clear cr10_21 cr11_21 cr20_22 cr21_22 cr30_23 cr31_23 cr40_24 cr41_24
  replace t1 := t1.on hB25
  replace t2 := t2.on hB25
  replace t3 := t3.on hB25
  replace t4 := t4.on hB25
  replace r1 := r1.on hB25
  replace r2 := r2.on hB25
  replace r3 := r3.on hB25
  replace r4 := r4.on hB25
  have hw26 : Below w.heap.size w (w10) := hw24.trans (hB25.mono hw24.size)
  clear hw24
  clear hB25
  obtain ⟨cr10_25, cr11_25⟩ := r1.two
  obtain ⟨cr20_26, cr21_26⟩ := r2.two
  obtain ⟨cr30_27, cr31_27⟩ := r3.two
  obtain ⟨cr40_28, cr41_28⟩ := r4.two
  have hst := HST.out
  have hlen := HLEN.out
  go_wp2_with fail
  go_ret
  exact ⟨rfl, hw26⟩

theorem tback_calls (xs0 : List Int) (v0 : Value) {w : World} (s0 : Ints w w.heap.size v0 xs0) (b0 : ∀ x ∈ xs0, -9223372036854775808 ≤ x ∧ x ≤ 9223372036854775807) (l0 : xs0.length ≤ maxLen) (xs1 : List Int) (v1 : Value) (s1 : Ints w w.heap.size v1 xs1) (b1 : ∀ x ∈ xs1, -9223372036854775808 ≤ x ∧ x ≤ 9223372036854775807) (l1 : xs1.length ≤ maxLen) (a2 a3 : Bool) (a4 : ByteArray) (w4 : a4.size ≤ maxLen) :
    Calls Try.prog 4 #[v0, v1, .bool a2, .bool a3, .string a4] w fun e w' => e = .returned (.bool true) ∧ Below w.heap.size w w' := by
  obtain ⟨t, ht, way⟩ := cut_ways a4 100
  obtain ⟨n0, f0, l, hd, hn, hl⟩ := dec_cases t.data.toList
  rw [list_len] at hl
  rcases way with ⟨h1, hx⟩ | rfl
  · rcases hn with hn | hn
    · exact tback_1y xs0 xs1 a2 a3 a4 t v0 v1 w s0 s1 b0 b1 l0 l1 w4 h1 hx ht n0 f0 l hd hn (by omega)
    · exact tback_1n xs0 xs1 a2 a3 a4 t v0 v1 w s0 s1 b0 b1 l0 l1 w4 h1 hx ht n0 f0 l hd hn (by omega)
  · rcases hn with hn | hn
    · exact tback_2y xs0 xs1 a2 a3 a4 v0 v1 w s0 s1 b0 b1 l0 l1 ht n0 f0 l hd hn (by omega)
    · exact tback_2n xs0 xs1 a2 a3 a4 v0 v1 w s0 s1 b0 b1 l0 l1 ht n0 f0 l hd hn (by omega)
end Go.Proofs.Ytgkihgcclkkbeaa
