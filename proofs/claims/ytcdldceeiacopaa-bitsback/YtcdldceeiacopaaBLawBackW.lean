/- The walk of BitsBack. -/
import Derived.Test.YtcdldceeiacopaaBitQ
import Derived.OpenShut
namespace Go.Proofs.Ytcdldceeiacopaa
open Go.RowKit Go.Shelf

set_option maxHeartbeats 4000000 in
set_option maxRecDepth 100000 in
theorem bback_walk (n m : Int) (raw other : List Int) (v u : Value) (w : World) (hv : Ints w w.heap.size v raw) (hu : Ints w w.heap.size u other) (hn : I64 n) (hm : I64 m) (hr : ∀ r ∈ raw, I64 r) (ho : ∀ r ∈ other, I64 r) :
    Calls Try.prog 4 #[.int .i64 n, v, .int .i64 m, u] w fun e w' => e = .returned (.bool true) ∧ Below w.heap.size w w' := by
  obtain ⟨Av, cv, rfl, -⟩ := hv.form
  obtain ⟨Au, cu, rfl, -⟩ := hu.form
  obtain ⟨P, hP, hP2⟩ := pick_nat n 200 (by omega)
  obtain ⟨Q, hQ, hQ2⟩ := pick_nat m 200 (by omega)
  have ra := pickSet_right P raw (by omega)
  have rb := pickSet_right Q other (by omega)
  have la := pickSet_length P raw (by omega)
  have lb := pickSet_length Q other (by omega)
  have BA := fun W (h : Ints W W.heap.size (.slice Av raw.length cv) raw) => Bits_eq n 200 raw _ W P hP h hn hr (by omega) (by omega)
  have BB := fun W (h : Ints W W.heap.size (.slice Au other.length cu) other) => Bits_eq m 200 other _ W Q hQ h hm ho (by omega) (by omega)
  clear hP hQ
  generalize pickSet P raw = a at *
  generalize pickSet Q other = b at *
  have la9 := small_len (l := a) (by omega)
  have lb9 := small_len (l := b) (by omega)
  obtain ⟨S, hS⟩ : ∃ S : ByteArray, (⟨(lstOf P a).toArray⟩ : ByteArray) = S := ⟨_, rfl⟩
  obtain ⟨T, hT⟩ : ∃ T : ByteArray, (⟨(lstOf Q b).toArray⟩ : ByteArray) = T := ⟨_, rfl⟩
  obtain ⟨V, hV⟩ : ∃ V : ByteArray, (⟨(vctOf P a).toArray⟩ : ByteArray) = V := ⟨_, rfl⟩
  obtain ⟨U, hU⟩ : ∃ U : ByteArray, (⟨(vctOf Q b).toArray⟩ : ByteArray) = U := ⟨_, rfl⟩
  have lS : S.data.toList = listOf P a := by rw [← hS]; simp [lstOf, ra]
  have lT : T.data.toList = listOf Q b := by rw [← hT]; simp [lstOf, rb]
  have lV : V.data.toList = vecOf P a := by rw [← hV]; simp [vctOf, ra]
  have lU : U.data.toList = vecOf Q b := by rw [← hU]; simp [vctOf, rb]
  have sS : (S.size : Int) = (P : Int) / 8 + 1 := by rw [← bytes_length, lS, listOf_length]; omega
  have sV : (V.size : Int) = ((P : Int) + 7) / 8 := by rw [← bytes_length, lV, vecOf_length]; omega
  have sS9 : S.size ≤ 1000 := by omega
  have sV9 : V.size ≤ 1000 := by omega
  have hu1 : unlistOf S.data.toList P = ((P : Int), a, 0) := by rw [lS, unlist_list ra, if_neg (by omega)]
  have hu2 : unlistOf S.data.toList ((P : Int) - 1) = (0, [], 4) := by rw [lS, unlist_list ra, if_pos (by omega)]
  have hu3 : unvecOf V.data.toList P = ((P : Int), a, 0) := by rw [lV, unvec_vec ra]
  have heS : argErr (rightB P a) = 0 := by simp [argErr, ra]
  have heT : argErr (rightB Q b) = 0 := by simp [argErr, rb]
  have hst : ((S.toList == T.toList) == sameB P a Q b) = true := by
    rw [ByteArray.toList_eq, ByteArray.toList_eq, lS, lT]
    by_cases h : (P : Int) = (Q : Int) ∧ a = b
    · obtain ⟨h1, rfl⟩ := h
      rw [h1]; simp [sameB]
    · have h2 : sameB P a Q b = false := by
        cases e : sameB P a Q b
        · rfl
        · simp only [sameB, Bool.and_eq_true, decide_eq_true_eq] at e
          exact absurd e h
      have h3 : (listOf P a == listOf Q b) = false := by
        simp only [beq_eq_false_iff_ne, ne_eq]
        intro e
        exact h (listOf_inj ra rb e)
      rw [h2, h3]; rfl
  have hvw : ((P : Int) != (Q : Int)) = false → ((V.toList == U.toList) == sameB P a Q b) = true := by
    intro h
    have h1 : (P : Int) = (Q : Int) := by simpa using h
    rw [ByteArray.toList_eq, ByteArray.toList_eq, lV, lU]
    rw [← h1] at rb ⊢
    by_cases h : a = b
    · subst h; simp [sameB]
    · have h2 : sameB P a P b = false := by simp [sameB, h]
      have h3 : (vecOf P a == vecOf P b) = false := by
        simp only [beq_eq_false_iff_ne, ne_eq]
        intro e
        exact h (vecOf_inj ra rb e)
      rw [h2, h3]; rfl
  have hsA : sameB P a P a = true := by simp [sameB]
  obtain ⟨R, hR⟩ : ∃ R, sameB P a Q b = R := ⟨_, rfl⟩
  rw [hR] at hst hvw
  have HV := Lib.hid hvw
  have HS := Lib.hid sS
  have HVV := Lib.hid sV
  have HU1 := Lib.hid hu1
  have HU2 := Lib.hid hu2
  have HU3 := Lib.hid hu3
  have HSA := Lib.hid hsA
  have HR := Lib.hid hR
  clear hvw sS sV hu1 hu2 hu3 hsA hR lS lT lV lU ra rb
  have HeS := Lib.hid heS
  have HeT := Lib.hid heT
  clear heS heT
  have HhS := Lib.hid hS
  have HhT := Lib.hid hT
  have HhV := Lib.hid hV
  have HhU := Lib.hid hU
  clear hS hT hV hU
  go_enter Try.func4, Try.ntmps4
  go_wp2_with fail
  with_reducible refine (awake_any _).mono ?_
  rintro e w1 ⟨rfl, hB1⟩
  replace hv := hv.on hB1
  replace hu := hu.on hB1
  have hw2 : Below w.heap.size w (w1) := hB1
  clear hB1
  go_wp2_with fail
  with_reducible refine (BA _ hv).mono ?_
  rintro e w2 ⟨Aa, ca, rfl, ha, hB3⟩
  replace hv := hv.on hB3
  replace hu := hu.on hB3
  have hw4 : Below w.heap.size w (w2) := hw2.trans (hB3.mono hw2.size)
  clear hw2
  clear hB3
  have hA5 : Below (w2).heap.size (w2) (w2.alloc (.cells #[.int .i64 (P : Int), .slice Aa a.length ca] 24)) := (Below.refl _ _).alloc (Nat.le_refl _) _
  have ra_ := RowAt.new (w2) 24 #[.int .i64 (P : Int), .slice Aa a.length ca]
  replace hv := hv.on hA5
  replace hu := hu.on hA5
  replace ha := ha.on hA5
  have hw6 : Below w.heap.size w (w2.alloc (.cells #[.int .i64 (P : Int), .slice Aa a.length ca] 24)) := hw4.trans (hA5.mono hw4.size)
  clear hw4
  clear hA5
  have ra : RowAt (w2.alloc (.cells #[.int .i64 (P : Int), .slice Aa a.length ca] 24)) (w2.heap.size) 24 [.int .i64 (P : Int), .slice Aa a.length ca] := ra_
  clear ra_
  obtain ⟨cra0_1, cra1_1⟩ := ra.two
  go_wp2_with fail
  with_reducible refine (BB _ hu).mono ?_
  rintro e w3 ⟨Ab, cb, rfl, hb, hB7⟩
  clear cra0_1 cra1_1
  replace hv := hv.on hB7
  replace hu := hu.on hB7
  replace ha := ha.on hB7
  replace ra := ra.on hB7
  have hw8 : Below w.heap.size w (w3) := hw6.trans (hB7.mono hw6.size)
  clear hw6
  clear hB7
  obtain ⟨cra0_2, cra1_2⟩ := ra.two
  have hA9 : Below (w3).heap.size (w3) (w3.alloc (.cells #[.int .i64 (Q : Int), .slice Ab b.length cb] 24)) := (Below.refl _ _).alloc (Nat.le_refl _) _
  have rb_ := RowAt.new (w3) 24 #[.int .i64 (Q : Int), .slice Ab b.length cb]
  replace hv := hv.on hA9
  replace hu := hu.on hA9
  replace ha := ha.on hA9
  replace hb := hb.on hA9
  replace ra := ra.on hA9
  have hw10 : Below w.heap.size w (w3.alloc (.cells #[.int .i64 (Q : Int), .slice Ab b.length cb] 24)) := hw8.trans (hA9.mono hw8.size)
  clear hw8
  clear hA9
  obtain ⟨cra0_3, cra1_3⟩ := ra.two
  have rb : RowAt (w3.alloc (.cells #[.int .i64 (Q : Int), .slice Ab b.length cb] 24)) (w3.heap.size) 24 [.int .i64 (Q : Int), .slice Ab b.length cb] := rb_
  clear rb_
  obtain ⟨crb0_4, crb1_4⟩ := rb.two
  go_wp2_with fail
  with_reducible refine (List_eq _ P a _ S 0 HhS.out HeS.out ha la9).mono ?_
  rintro e w4 ⟨rfl, hB11⟩
  clear cra0_2 cra1_2 cra0_3 cra1_3 crb0_4 crb1_4
  replace hv := hv.on hB11
  replace hu := hu.on hB11
  replace ha := ha.on hB11
  replace hb := hb.on hB11
  replace ra := ra.on hB11
  replace rb := rb.on hB11
  have hw12 : Below w.heap.size w (w4) := hw10.trans (hB11.mono hw10.size)
  clear hw10
  clear hB11
  obtain ⟨cra0_5, cra1_5⟩ := ra.two
  obtain ⟨crb0_6, crb1_6⟩ := rb.two
  go_wp2_with fail
  with_reducible refine (List_eq _ Q b _ T 0 HhT.out HeT.out hb lb9).mono ?_
  rintro e w5 ⟨rfl, hB13⟩
  clear cra0_5 cra1_5 crb0_6 crb1_6
  replace hv := hv.on hB13
  replace hu := hu.on hB13
  replace ha := ha.on hB13
  replace hb := hb.on hB13
  replace ra := ra.on hB13
  replace rb := rb.on hB13
  have hw14 : Below w.heap.size w (w5) := hw12.trans (hB13.mono hw12.size)
  clear hw12
  clear hB13
  obtain ⟨cra0_7, cra1_7⟩ := ra.two
  obtain ⟨crb0_8, crb1_8⟩ := rb.two
  go_wp2_with fail
  with_reducible refine (Vector_eq _ P a _ V 0 HhV.out HeS.out ha la9).mono ?_
  rintro e w6 ⟨rfl, hB15⟩
  clear cra0_7 cra1_7 crb0_8 crb1_8
  replace hv := hv.on hB15
  replace hu := hu.on hB15
  replace ha := ha.on hB15
  replace hb := hb.on hB15
  replace ra := ra.on hB15
  replace rb := rb.on hB15
  have hw16 : Below w.heap.size w (w6) := hw14.trans (hB15.mono hw14.size)
  clear hw14
  clear hB15
  obtain ⟨cra0_9, cra1_9⟩ := ra.two
  obtain ⟨crb0_10, crb1_10⟩ := rb.two
  go_wp2_with fail
  with_reducible refine (Vector_eq _ Q b _ U 0 HhU.out HeT.out hb lb9).mono ?_
  rintro e w7 ⟨rfl, hB17⟩
  clear cra0_9 cra1_9 crb0_10 crb1_10
  replace hv := hv.on hB17
  replace hu := hu.on hB17
  replace ha := ha.on hB17
  replace hb := hb.on hB17
  replace ra := ra.on hB17
  replace rb := rb.on hB17
  have hw18 : Below w.heap.size w (w7) := hw16.trans (hB17.mono hw16.size)
  clear hw16
  clear hB17
  obtain ⟨cra0_11, cra1_11⟩ := ra.two
  obtain ⟨crb0_12, crb1_12⟩ := rb.two
  go_wp2_with fail
  with_reducible refine (Unlist_eq S P P 0 a _ HU1.out (by omega)).mono ?_
  rintro e w8 ⟨Ax, cx, rfl, hx, hB19⟩
  clear cra0_11 cra1_11 crb0_12 crb1_12
  replace hv := hv.on hB19
  replace hu := hu.on hB19
  replace ha := ha.on hB19
  replace hb := hb.on hB19
  replace ra := ra.on hB19
  replace rb := rb.on hB19
  have hw20 : Below w.heap.size w (w8) := hw18.trans (hB19.mono hw18.size)
  clear hw18
  clear hB19
  obtain ⟨cra0_13, cra1_13⟩ := ra.two
  obtain ⟨crb0_14, crb1_14⟩ := rb.two
  have hA21 : Below (w8).heap.size (w8) (w8.alloc (.cells #[.int .i64 (P : Int), .slice Ax a.length cx] 24)) := (Below.refl _ _).alloc (Nat.le_refl _) _
  have rx_ := RowAt.new (w8) 24 #[.int .i64 (P : Int), .slice Ax a.length cx]
  replace hv := hv.on hA21
  replace hu := hu.on hA21
  replace ha := ha.on hA21
  replace hb := hb.on hA21
  replace hx := hx.on hA21
  replace ra := ra.on hA21
  replace rb := rb.on hA21
  have hw22 : Below w.heap.size w (w8.alloc (.cells #[.int .i64 (P : Int), .slice Ax a.length cx] 24)) := hw20.trans (hA21.mono hw20.size)
  clear hw20
  clear hA21
  obtain ⟨cra0_15, cra1_15⟩ := ra.two
  obtain ⟨crb0_16, crb1_16⟩ := rb.two
  have rx : RowAt (w8.alloc (.cells #[.int .i64 (P : Int), .slice Ax a.length cx] 24)) (w8.heap.size) 24 [.int .i64 (P : Int), .slice Ax a.length cx] := rx_
  clear rx_
  obtain ⟨crx0_17, crx1_17⟩ := rx.two
  go_wp2_with fail
  with_reducible refine (Unvector_eq V P P 0 a _ HU3.out).mono ?_
  rintro e w9 ⟨Ay, cy, rfl, hy, hB23⟩
  clear cra0_13 cra1_13 crb0_14 crb1_14 cra0_15 cra1_15 crb0_16 crb1_16 crx0_17 crx1_17
  replace hv := hv.on hB23
  replace hu := hu.on hB23
  replace ha := ha.on hB23
  replace hb := hb.on hB23
  replace hx := hx.on hB23
  replace ra := ra.on hB23
  replace rb := rb.on hB23
  replace rx := rx.on hB23
  have hw24 : Below w.heap.size w (w9) := hw22.trans (hB23.mono hw22.size)
  clear hw22
  clear hB23
  obtain ⟨cra0_18, cra1_18⟩ := ra.two
  obtain ⟨crb0_19, crb1_19⟩ := rb.two
  obtain ⟨crx0_20, crx1_20⟩ := rx.two
  have hA25 : Below (w9).heap.size (w9) (w9.alloc (.cells #[.int .i64 (P : Int), .slice Ay a.length cy] 24)) := (Below.refl _ _).alloc (Nat.le_refl _) _
  have ry_ := RowAt.new (w9) 24 #[.int .i64 (P : Int), .slice Ay a.length cy]
  replace hv := hv.on hA25
  replace hu := hu.on hA25
  replace ha := ha.on hA25
  replace hb := hb.on hA25
  replace hx := hx.on hA25
  replace hy := hy.on hA25
  replace ra := ra.on hA25
  replace rb := rb.on hA25
  replace rx := rx.on hA25
  have hw26 : Below w.heap.size w (w9.alloc (.cells #[.int .i64 (P : Int), .slice Ay a.length cy] 24)) := hw24.trans (hA25.mono hw24.size)
  clear hw24
  clear hA25
  obtain ⟨cra0_21, cra1_21⟩ := ra.two
  obtain ⟨crb0_22, crb1_22⟩ := rb.two
  obtain ⟨crx0_23, crx1_23⟩ := rx.two
  have ry : RowAt (w9.alloc (.cells #[.int .i64 (P : Int), .slice Ay a.length cy] 24)) (w9.heap.size) 24 [.int .i64 (P : Int), .slice Ay a.length cy] := ry_
  clear ry_
  obtain ⟨cry0_24, cry1_24⟩ := ry.two
  go_wp2_with fail
  with_reducible refine (Unlist_eq S ((P : Int) - 1) 0 4 [] _ HU2.out (by omega)).mono ?_
  rintro e w10 ⟨Az, cz, rfl, hz, hB27⟩
  clear cra0_18 cra1_18 crb0_19 crb1_19 crx0_20 crx1_20 cra0_21 cra1_21 crb0_22 crb1_22 crx0_23 crx1_23 cry0_24 cry1_24
  replace hv := hv.on hB27
  replace hu := hu.on hB27
  replace ha := ha.on hB27
  replace hb := hb.on hB27
  replace hx := hx.on hB27
  replace hy := hy.on hB27
  replace ra := ra.on hB27
  replace rb := rb.on hB27
  replace rx := rx.on hB27
  replace ry := ry.on hB27
  have hw28 : Below w.heap.size w (w10) := hw26.trans (hB27.mono hw26.size)
  clear hw26
  clear hB27
  obtain ⟨cra0_25, cra1_25⟩ := ra.two
  obtain ⟨crb0_26, crb1_26⟩ := rb.two
  obtain ⟨crx0_27, crx1_27⟩ := rx.two
  obtain ⟨cry0_28, cry1_28⟩ := ry.two
  simp only [List.length_nil] at hz ⊢
  clear hz
  have hA29 : Below (w10).heap.size (w10) (w10.alloc (.cells #[.int .i64 0, .slice Az 0 cz] 24)) := (Below.refl _ _).alloc (Nat.le_refl _) _
  replace hv := hv.on hA29
  replace hu := hu.on hA29
  replace ha := ha.on hA29
  replace hb := hb.on hA29
  replace hx := hx.on hA29
  replace hy := hy.on hA29
  replace ra := ra.on hA29
  replace rb := rb.on hA29
  replace rx := rx.on hA29
  replace ry := ry.on hA29
  have hw30 : Below w.heap.size w (w10.alloc (.cells #[.int .i64 0, .slice Az 0 cz] 24)) := hw28.trans (hA29.mono hw28.size)
  clear hw28
  clear hA29
  obtain ⟨cra0_29, cra1_29⟩ := ra.two
  obtain ⟨crb0_30, crb1_30⟩ := rb.two
  obtain ⟨crx0_31, crx1_31⟩ := rx.two
  obtain ⟨cry0_32, cry1_32⟩ := ry.two
  go_wp2_with fail
  with_reducible refine (Same_eq _ _ P P a a _ true HSA.out hx ha la9 la9).mono ?_
  rintro e w11 ⟨rfl, hB31⟩
  clear cra0_25 cra1_25 crb0_26 crb1_26 crx0_27 crx1_27 cry0_28 cry1_28 cra0_29 cra1_29 crb0_30 crb1_30 crx0_31 crx1_31 cry0_32 cry1_32
  replace hv := hv.on hB31
  replace hu := hu.on hB31
  replace ha := ha.on hB31
  replace hb := hb.on hB31
  replace hx := hx.on hB31
  replace hy := hy.on hB31
  replace ra := ra.on hB31
  replace rb := rb.on hB31
  replace rx := rx.on hB31
  replace ry := ry.on hB31
  have hw32 : Below w.heap.size w (w11) := hw30.trans (hB31.mono hw30.size)
  clear hw30
  clear hB31
  obtain ⟨cra0_33, cra1_33⟩ := ra.two
  obtain ⟨crb0_34, crb1_34⟩ := rb.two
  obtain ⟨crx0_35, crx1_35⟩ := rx.two
  obtain ⟨cry0_36, cry1_36⟩ := ry.two
  go_wp2_with fail
  with_reducible refine (Same_eq _ _ P P a a _ true HSA.out hy ha la9 la9).mono ?_
  rintro e w12 ⟨rfl, hB33⟩
  clear cra0_33 cra1_33 crb0_34 crb1_34 crx0_35 crx1_35 cry0_36 cry1_36
  replace hv := hv.on hB33
  replace hu := hu.on hB33
  replace ha := ha.on hB33
  replace hb := hb.on hB33
  replace hx := hx.on hB33
  replace hy := hy.on hB33
  replace ra := ra.on hB33
  replace rb := rb.on hB33
  replace rx := rx.on hB33
  replace ry := ry.on hB33
  have hw34 : Below w.heap.size w (w12) := hw32.trans (hB33.mono hw32.size)
  clear hw32
  clear hB33
  obtain ⟨cra0_37, cra1_37⟩ := ra.two
  obtain ⟨crb0_38, crb1_38⟩ := rb.two
  obtain ⟨crx0_39, crx1_39⟩ := rx.two
  obtain ⟨cry0_40, cry1_40⟩ := ry.two
  go_wp2_with fail
  with_reducible refine (Same_eq _ _ P Q a b _ R HR.out ha hb la9 lb9).mono ?_
  rintro e w13 ⟨rfl, hB35⟩
  clear cra0_37 cra1_37 crb0_38 crb1_38 crx0_39 crx1_39 cry0_40 cry1_40
  replace hv := hv.on hB35
  replace hu := hu.on hB35
  replace ha := ha.on hB35
  replace hb := hb.on hB35
  replace hx := hx.on hB35
  replace hy := hy.on hB35
  replace ra := ra.on hB35
  replace rb := rb.on hB35
  replace rx := rx.on hB35
  replace ry := ry.on hB35
  have hw36 : Below w.heap.size w (w13) := hw34.trans (hB35.mono hw34.size)
  clear hw34
  clear hB35
  obtain ⟨cra0_41, cra1_41⟩ := ra.two
  obtain ⟨crb0_42, crb1_42⟩ := rb.two
  obtain ⟨crx0_43, crx1_43⟩ := rx.two
  obtain ⟨cry0_44, cry1_44⟩ := ry.two
  have hlenS : ((S.size : Int) == (P : Int) / 8 + 1) = true := by rw [HS.out]; simp
  have hlenV : ((V.size : Int) == ((P : Int) + 7) / 8) = true := by rw [HVV.out]; simp
  cases hpq : ((P : Int) != (Q : Int))
  · have hvw := HV.out hpq
    go_wp2_with fail
    with_reducible refine (Same_eq _ _ P Q a b _ R HR.out ha hb la9 lb9).mono ?_
    rintro e w14 ⟨rfl, hB37⟩
    clear cra0_41 cra1_41 crb0_42 crb1_42 crx0_43 crx1_43 cry0_44 cry1_44
    replace hv := hv.on hB37
    replace hu := hu.on hB37
    replace ha := ha.on hB37
    replace hb := hb.on hB37
    replace hx := hx.on hB37
    replace hy := hy.on hB37
    replace ra := ra.on hB37
    replace rb := rb.on hB37
    replace rx := rx.on hB37
    replace ry := ry.on hB37
    have hw38 : Below w.heap.size w (w14) := hw36.trans (hB37.mono hw36.size)
    clear hw36
    clear hB37
    obtain ⟨cra0_45, cra1_45⟩ := ra.two
    obtain ⟨crb0_46, crb1_46⟩ := rb.two
    obtain ⟨crx0_47, crx1_47⟩ := rx.two
    obtain ⟨cry0_48, cry1_48⟩ := ry.two
    go_wp2_with fail
    go_ret
    exact ⟨rfl, hw38⟩
  · go_wp2_with fail
    go_ret
    exact ⟨rfl, hw36⟩

theorem bback_calls (a0 : Int) (w0 : (Lit.int .i64 a0).wf = true) (xs1 : List Int) (v1 : Value) {w : World} (s1 : Ints w w.heap.size v1 xs1) (b1 : ∀ x ∈ xs1, -9223372036854775808 ≤ x ∧ x ≤ 9223372036854775807) (_ : xs1.length ≤ maxLen) (a2 : Int) (w2 : (Lit.int .i64 a2).wf = true) (xs3 : List Int) (v3 : Value) (s3 : Ints w w.heap.size v3 xs3) (b3 : ∀ x ∈ xs3, -9223372036854775808 ≤ x ∧ x ≤ 9223372036854775807) (_ : xs3.length ≤ maxLen) :
    Calls Try.prog 4 #[.int .i64 a0, v1, .int .i64 a2, v3] w fun e w' => e = .returned (.bool true) ∧ Below w.heap.size w w' :=
  bback_walk a0 a2 xs1 xs3 v1 v3 w s1 s3 (bounds_i64 w0) (bounds_i64 w2) b1 b3
end Go.Proofs.Ytcdldceeiacopaa
