/- The walk of BitsUnion. -/
import Derived.Test.YtcdldceeiacopaaBitQ
import Derived.Test.YtcdldceeiacopaaBitU
import Derived.OpenShut
namespace Go.Proofs.Ytcdldceeiacopaa
open Go.RowKit Go.Shelf

set_option maxHeartbeats 4000000 in
set_option maxRecDepth 100000 in
theorem bunion_walk (n : Int) (l1 l2 l3 l4 : List Int) (v1 v2 v3 v4 : Value) (w : World) (hv1 : Ints w w.heap.size v1 l1) (hv2 : Ints w w.heap.size v2 l2) (hv3 : Ints w w.heap.size v3 l3) (hv4 : Ints w w.heap.size v4 l4) (hn : I64 n)
    (hr1 : ∀ r ∈ l1, I64 r) (hr2 : ∀ r ∈ l2, I64 r) (hr3 : ∀ r ∈ l3, I64 r) (hr4 : ∀ r ∈ l4, I64 r) :
    Calls Try.prog 6 #[.int .i64 n, v1, v2, v3, v4] w fun e w' => e = .returned (.bool true) ∧ Below w.heap.size w w' := by
  obtain ⟨A1, c1, rfl, -⟩ := hv1.form
  obtain ⟨A2, c2, rfl, -⟩ := hv2.form
  obtain ⟨A3, c3, rfl, -⟩ := hv3.form
  obtain ⟨A4, c4, rfl, -⟩ := hv4.form
  obtain ⟨P, hP, hP2⟩ := pick_nat n 60 (by omega)
  have ra := pickSet_right P l1 (by omega)
  have rb := pickSet_right P l2 (by omega)
  have rc := pickSet_right P l3 (by omega)
  have rd := pickSet_right P l4 (by omega)
  have la := pickSet_length P l1 (by omega)
  have lb := pickSet_length P l2 (by omega)
  have lc := pickSet_length P l3 (by omega)
  have ld := pickSet_length P l4 (by omega)
  have B1 := fun W (h : Ints W W.heap.size (.slice A1 l1.length c1) l1) => Bits_eq n 60 l1 _ W P hP h hn hr1 (by omega) (by omega)
  have B2 := fun W (h : Ints W W.heap.size (.slice A2 l2.length c2) l2) => Bits_eq n 60 l2 _ W P hP h hn hr2 (by omega) (by omega)
  have B3 := fun W (h : Ints W W.heap.size (.slice A3 l3.length c3) l3) => Bits_eq n 60 l3 _ W P hP h hn hr3 (by omega) (by omega)
  have B4 := fun W (h : Ints W W.heap.size (.slice A4 l4.length c4) l4) => Bits_eq n 60 l4 _ W P hP h hn hr4 (by omega) (by omega)
  clear hP
  generalize pickSet P l1 = a at *
  generalize pickSet P l2 = b at *
  generalize pickSet P l3 = c at *
  generalize pickSet P l4 = d at *
  obtain ⟨u, hu1, ru, hmu⟩ := union_of P a [(P, b), (P, c)] ra (by simp [likeB, rb, rc])
  obtain ⟨v, hu2, rv, hmv⟩ := union_of P c [(P, a), (P, b)] rc (by simp [likeB, ra, rb])
  obtain ⟨x0, hu3, rx0, hmx0⟩ := union_of P a [(P, b)] ra (by simp [likeB, rb])
  obtain ⟨x, hu4, rx, hmx⟩ := union_of P x0 [(P, c)] rx0 (by simp [likeB, rc])
  obtain ⟨y, hu5, ry, hmy⟩ := union_of P a [] ra (by simp)
  simp only [List.mem_cons, List.not_mem_nil, or_false, exists_eq_or_imp, exists_eq_left, false_and, exists_false] at hmu hmv hmx0 hmx hmy
  have euv : v = u := right_ext rv ru (fun z => by rw [hmv, hmu]; constructor <;> rintro (h | h | h) <;> simp [h])
  have eux : x = u := right_ext rx ru (fun z => by rw [hmx, hmx0, hmu, or_assoc])
  have eya : y = a := right_ext ry ra (fun z => by rw [hmy])
  rw [euv] at hu2
  rw [eux] at hu4 hmx
  rw [eya] at hu5
  clear euv eux eya rv rx ry hmv hmy
  have lu : u.length ≤ 2000 := right_len ru (by omega)
  have lx0 : x0.length ≤ 2000 := right_len rx0 (by omega)
  have lu9 := small_len (l := u) (by omega)
  have lx9 := small_len (l := x0) (by omega)
  have la9 := small_len (l := a) (by omega)
  have lb9 := small_len (l := b) (by omega)
  have lc9 := small_len (l := c) (by omega)
  have ld9 := small_len (l := d) (by omega)
  have hle : u.length ≤ a.length + b.length + c.length := by
    have h1 := union_le ((rightB_iff _ _).1 rx0).2.1 ((rightB_iff _ _).1 ra).2.1 ((rightB_iff _ _).1 rb).2.1 hmx0
    have h2 := union_le ((rightB_iff _ _).1 ru).2.1 ((rightB_iff _ _).1 rx0).2.1 ((rightB_iff _ _).1 rc).2.1 hmx
    omega
  have s1 : subOf P a P u = true := (sub_of ra ru).2 (fun z hz => (hmu z).2 (.inl hz))
  have s2 : subOf P b P u = true := (sub_of rb ru).2 (fun z hz => (hmu z).2 (.inr (.inl hz)))
  have s3 : subOf P c P u = true := (sub_of rc ru).2 (fun z hz => (hmu z).2 (.inr (.inr hz)))
  have sall : (subOf P a P d && subOf P b P d && subOf P c P d) = subOf P u P d := by
    apply Bool.eq_iff_iff.2
    simp only [Bool.and_eq_true, sub_of ra rd, sub_of rb rd, sub_of rc rd, sub_of ru rd]
    constructor
    · rintro ⟨⟨h1, h2⟩, h3⟩ z hz
      rcases (hmu z).1 hz with h | h | h
      · exact h1 z h
      · exact h2 z h
      · exact h3 z h
    · intro h
      exact ⟨⟨fun z hz => h z ((hmu z).2 (.inl hz)), fun z hz => h z ((hmu z).2 (.inr (.inl hz)))⟩, fun z hz => h z ((hmu z).2 (.inr (.inr hz)))⟩
  have sm : ∀ l : List Int, sameB P l P l = true := fun l => by simp [sameB]
  have HU1 := Lib.hid hu1
  have HU2 := Lib.hid hu2
  have HU3 := Lib.hid hu3
  have HU4 := Lib.hid hu4
  have HU5 := Lib.hid hu5
  have S1 := Lib.hid s1
  have S2 := Lib.hid s2
  have S3 := Lib.hid s3
  have SA := Lib.hid sall
  have SM := Lib.hid sm
  have H9 : ∀ p ∈ [((P : Int), b), ((P : Int), c)], p.2.length ≤ maxLen := by simp; exact ⟨lb9, lc9⟩
  have H9' : ∀ p ∈ [((P : Int), a), ((P : Int), b)], p.2.length ≤ maxLen := by simp; exact ⟨la9, lb9⟩
  have H9b : ∀ p ∈ [((P : Int), b)], p.2.length ≤ maxLen := by simp; exact lb9
  have H9c : ∀ p ∈ [((P : Int), c)], p.2.length ≤ maxLen := by simp; exact lc9
  clear hu1 hu2 hu3 hu4 hu5 s1 s2 s3 sall sm hmu hmx0 hmx ra rb rc rd ru rx0
  go_enter Try.func6, Try.ntmps6
  go_wp2_with fail
  with_reducible refine (awake_any _).mono ?_
  rintro e w1 ⟨rfl, hB1⟩
  replace hv1 := hv1.on hB1
  replace hv2 := hv2.on hB1
  replace hv3 := hv3.on hB1
  replace hv4 := hv4.on hB1
  have hw2 : Below w.heap.size w (w1) := hB1
  clear hB1
  go_wp2_with fail
  with_reducible refine (B1 _ hv1).mono ?_
  rintro e w2 ⟨Aa, cAa, rfl, hAa, hB3⟩
  replace hv1 := hv1.on hB3
  replace hv2 := hv2.on hB3
  replace hv3 := hv3.on hB3
  replace hv4 := hv4.on hB3
  have hw4 : Below w.heap.size w (w2) := hw2.trans (hB3.mono hw2.size)
  clear hw2
  clear hB3
  have hA5 : Below (w2).heap.size (w2) (w2.alloc (.cells #[.int .i64 (P : Int), .slice Aa a.length cAa] 24)) := (Below.refl _ _).alloc (Nat.le_refl _) _
  have ra_ := RowAt.new (w2) 24 #[.int .i64 (P : Int), .slice Aa a.length cAa]
  replace hv1 := hv1.on hA5
  replace hv2 := hv2.on hA5
  replace hv3 := hv3.on hA5
  replace hv4 := hv4.on hA5
  replace hAa := hAa.on hA5
  have hw6 : Below w.heap.size w (w2.alloc (.cells #[.int .i64 (P : Int), .slice Aa a.length cAa] 24)) := hw4.trans (hA5.mono hw4.size)
  clear hw4
  clear hA5
  have ra : RowAt (w2.alloc (.cells #[.int .i64 (P : Int), .slice Aa a.length cAa] 24)) (w2.heap.size) 24 [.int .i64 (P : Int), .slice Aa a.length cAa] := ra_
  clear ra_
  obtain ⟨cra0_1, cra1_1⟩ := ra.two
  go_wp2_with fail
  with_reducible refine (B2 _ hv2).mono ?_
  rintro e w3 ⟨Ab, cAb, rfl, hAb, hB7⟩
  clear cra0_1 cra1_1
  replace hv1 := hv1.on hB7
  replace hv2 := hv2.on hB7
  replace hv3 := hv3.on hB7
  replace hv4 := hv4.on hB7
  replace hAa := hAa.on hB7
  replace ra := ra.on hB7
  have hw8 : Below w.heap.size w (w3) := hw6.trans (hB7.mono hw6.size)
  clear hw6
  clear hB7
  obtain ⟨cra0_2, cra1_2⟩ := ra.two
  have hA9 : Below (w3).heap.size (w3) (w3.alloc (.cells #[.int .i64 (P : Int), .slice Ab b.length cAb] 24)) := (Below.refl _ _).alloc (Nat.le_refl _) _
  have rb_ := RowAt.new (w3) 24 #[.int .i64 (P : Int), .slice Ab b.length cAb]
  replace hv1 := hv1.on hA9
  replace hv2 := hv2.on hA9
  replace hv3 := hv3.on hA9
  replace hv4 := hv4.on hA9
  replace hAa := hAa.on hA9
  replace hAb := hAb.on hA9
  replace ra := ra.on hA9
  have hw10 : Below w.heap.size w (w3.alloc (.cells #[.int .i64 (P : Int), .slice Ab b.length cAb] 24)) := hw8.trans (hA9.mono hw8.size)
  clear hw8
  clear hA9
  obtain ⟨cra0_3, cra1_3⟩ := ra.two
  have rb : RowAt (w3.alloc (.cells #[.int .i64 (P : Int), .slice Ab b.length cAb] 24)) (w3.heap.size) 24 [.int .i64 (P : Int), .slice Ab b.length cAb] := rb_
  clear rb_
  obtain ⟨crb0_4, crb1_4⟩ := rb.two
  go_wp2_with fail
  with_reducible refine (B3 _ hv3).mono ?_
  rintro e w4 ⟨Ac, cAc, rfl, hAc, hB11⟩
  clear cra0_2 cra1_2 cra0_3 cra1_3 crb0_4 crb1_4
  replace hv1 := hv1.on hB11
  replace hv2 := hv2.on hB11
  replace hv3 := hv3.on hB11
  replace hv4 := hv4.on hB11
  replace hAa := hAa.on hB11
  replace hAb := hAb.on hB11
  replace ra := ra.on hB11
  replace rb := rb.on hB11
  have hw12 : Below w.heap.size w (w4) := hw10.trans (hB11.mono hw10.size)
  clear hw10
  clear hB11
  obtain ⟨cra0_5, cra1_5⟩ := ra.two
  obtain ⟨crb0_6, crb1_6⟩ := rb.two
  have hA13 : Below (w4).heap.size (w4) (w4.alloc (.cells #[.int .i64 (P : Int), .slice Ac c.length cAc] 24)) := (Below.refl _ _).alloc (Nat.le_refl _) _
  have rc_ := RowAt.new (w4) 24 #[.int .i64 (P : Int), .slice Ac c.length cAc]
  replace hv1 := hv1.on hA13
  replace hv2 := hv2.on hA13
  replace hv3 := hv3.on hA13
  replace hv4 := hv4.on hA13
  replace hAa := hAa.on hA13
  replace hAb := hAb.on hA13
  replace hAc := hAc.on hA13
  replace ra := ra.on hA13
  replace rb := rb.on hA13
  have hw14 : Below w.heap.size w (w4.alloc (.cells #[.int .i64 (P : Int), .slice Ac c.length cAc] 24)) := hw12.trans (hA13.mono hw12.size)
  clear hw12
  clear hA13
  obtain ⟨cra0_7, cra1_7⟩ := ra.two
  obtain ⟨crb0_8, crb1_8⟩ := rb.two
  have rc : RowAt (w4.alloc (.cells #[.int .i64 (P : Int), .slice Ac c.length cAc] 24)) (w4.heap.size) 24 [.int .i64 (P : Int), .slice Ac c.length cAc] := rc_
  clear rc_
  obtain ⟨crc0_9, crc1_9⟩ := rc.two
  go_wp2_with fail
  with_reducible refine (B4 _ hv4).mono ?_
  rintro e w5 ⟨Ad, cAd, rfl, hAd, hB15⟩
  clear cra0_5 cra1_5 crb0_6 crb1_6 cra0_7 cra1_7 crb0_8 crb1_8 crc0_9 crc1_9
  replace hv1 := hv1.on hB15
  replace hv2 := hv2.on hB15
  replace hv3 := hv3.on hB15
  replace hv4 := hv4.on hB15
  replace hAa := hAa.on hB15
  replace hAb := hAb.on hB15
  replace hAc := hAc.on hB15
  replace ra := ra.on hB15
  replace rb := rb.on hB15
  replace rc := rc.on hB15
  have hw16 : Below w.heap.size w (w5) := hw14.trans (hB15.mono hw14.size)
  clear hw14
  clear hB15
  obtain ⟨cra0_10, cra1_10⟩ := ra.two
  obtain ⟨crb0_11, crb1_11⟩ := rb.two
  obtain ⟨crc0_12, crc1_12⟩ := rc.two
  have hA17 : Below (w5).heap.size (w5) (w5.alloc (.cells #[.int .i64 (P : Int), .slice Ad d.length cAd] 24)) := (Below.refl _ _).alloc (Nat.le_refl _) _
  have rd_ := RowAt.new (w5) 24 #[.int .i64 (P : Int), .slice Ad d.length cAd]
  replace hv1 := hv1.on hA17
  replace hv2 := hv2.on hA17
  replace hv3 := hv3.on hA17
  replace hv4 := hv4.on hA17
  replace hAa := hAa.on hA17
  replace hAb := hAb.on hA17
  replace hAc := hAc.on hA17
  replace hAd := hAd.on hA17
  replace ra := ra.on hA17
  replace rb := rb.on hA17
  replace rc := rc.on hA17
  have hw18 : Below w.heap.size w (w5.alloc (.cells #[.int .i64 (P : Int), .slice Ad d.length cAd] 24)) := hw16.trans (hA17.mono hw16.size)
  clear hw16
  clear hA17
  obtain ⟨cra0_13, cra1_13⟩ := ra.two
  obtain ⟨crb0_14, crb1_14⟩ := rb.two
  obtain ⟨crc0_15, crc1_15⟩ := rc.two
  have rd : RowAt (w5.alloc (.cells #[.int .i64 (P : Int), .slice Ad d.length cAd] 24)) (w5.heap.size) 24 [.int .i64 (P : Int), .slice Ad d.length cAd] := rd_
  clear rd_
  obtain ⟨crd0_16, crd1_16⟩ := rd.two
  have hm_ := BtRow.two (n := (P : Int)) (m := (P : Int)) hAb.ints hAc.ints 24 (w5.heap.size + 1) (by simp)
  have hA19 : Below (w5.alloc (.cells #[.int .i64 (P : Int), .slice Ad d.length cAd] 24)).heap.size (w5.alloc (.cells #[.int .i64 (P : Int), .slice Ad d.length cAd] 24)) ((w5.alloc (.cells #[.int .i64 (P : Int), .slice Ad d.length cAd] 24)).alloc (.cells #[.int .i64 (P : Int), .slice Ab b.length cAb, .int .i64 (P : Int), .slice Ac c.length cAc] 24)) := (Below.refl _ _).alloc (Nat.le_refl _) _
  replace hv1 := hv1.on hA19
  replace hv2 := hv2.on hA19
  replace hv3 := hv3.on hA19
  replace hv4 := hv4.on hA19
  replace hAa := hAa.on hA19
  replace hAb := hAb.on hA19
  replace hAc := hAc.on hA19
  replace hAd := hAd.on hA19
  replace ra := ra.on hA19
  replace rb := rb.on hA19
  replace rc := rc.on hA19
  replace rd := rd.on hA19
  have hw20 : Below w.heap.size w ((w5.alloc (.cells #[.int .i64 (P : Int), .slice Ad d.length cAd] 24)).alloc (.cells #[.int .i64 (P : Int), .slice Ab b.length cAb, .int .i64 (P : Int), .slice Ac c.length cAc] 24)) := hw18.trans (hA19.mono hw18.size)
  clear hw18
  clear hA19
  obtain ⟨cra0_17, cra1_17⟩ := ra.two
  obtain ⟨crb0_18, crb1_18⟩ := rb.two
  obtain ⟨crc0_19, crc1_19⟩ := rc.two
  obtain ⟨crd0_20, crd1_20⟩ := rd.two
  go_wp2_with fail
  with_reducible refine (Union_eq _ (P : Int) a _ [((P : Int), b), ((P : Int), c)] (P : Int) 0 u _ HU1.out hAa hm_ la9 H9 (by simp [maxLen])).mono ?_
  rintro e w6 ⟨Au, cAu, rfl, hAu, hB21⟩
  clear cra0_10 cra1_10 crb0_11 crb1_11 crc0_12 crc1_12 cra0_13 cra1_13 crb0_14 crb1_14 crc0_15 crc1_15 crd0_16 crd1_16 cra0_17 cra1_17 crb0_18 crb1_18 crc0_19 crc1_19 crd0_20 crd1_20
  replace hv1 := hv1.on hB21
  replace hv2 := hv2.on hB21
  replace hv3 := hv3.on hB21
  replace hv4 := hv4.on hB21
  replace hAa := hAa.on hB21
  replace hAb := hAb.on hB21
  replace hAc := hAc.on hB21
  replace hAd := hAd.on hB21
  replace ra := ra.on hB21
  replace rb := rb.on hB21
  replace rc := rc.on hB21
  replace rd := rd.on hB21
  have hw22 : Below w.heap.size w (w6) := hw20.trans (hB21.mono hw20.size)
  clear hw20
  clear hB21
  obtain ⟨cra0_21, cra1_21⟩ := ra.two
  obtain ⟨crb0_22, crb1_22⟩ := rb.two
  obtain ⟨crc0_23, crc1_23⟩ := rc.two
  obtain ⟨crd0_24, crd1_24⟩ := rd.two
  clear hm_
  have hA23 : Below (w6).heap.size (w6) (w6.alloc (.cells #[.int .i64 (P : Int), .slice Au u.length cAu] 24)) := (Below.refl _ _).alloc (Nat.le_refl _) _
  have ru_ := RowAt.new (w6) 24 #[.int .i64 (P : Int), .slice Au u.length cAu]
  replace hv1 := hv1.on hA23
  replace hv2 := hv2.on hA23
  replace hv3 := hv3.on hA23
  replace hv4 := hv4.on hA23
  replace hAa := hAa.on hA23
  replace hAb := hAb.on hA23
  replace hAc := hAc.on hA23
  replace hAd := hAd.on hA23
  replace hAu := hAu.on hA23
  replace ra := ra.on hA23
  replace rb := rb.on hA23
  replace rc := rc.on hA23
  replace rd := rd.on hA23
  have hw24 : Below w.heap.size w (w6.alloc (.cells #[.int .i64 (P : Int), .slice Au u.length cAu] 24)) := hw22.trans (hA23.mono hw22.size)
  clear hw22
  clear hA23
  obtain ⟨cra0_25, cra1_25⟩ := ra.two
  obtain ⟨crb0_26, crb1_26⟩ := rb.two
  obtain ⟨crc0_27, crc1_27⟩ := rc.two
  obtain ⟨crd0_28, crd1_28⟩ := rd.two
  have ru : RowAt (w6.alloc (.cells #[.int .i64 (P : Int), .slice Au u.length cAu] 24)) (w6.heap.size) 24 [.int .i64 (P : Int), .slice Au u.length cAu] := ru_
  clear ru_
  obtain ⟨cru0_29, cru1_29⟩ := ru.two
  have hm_ := BtRow.two (n := (P : Int)) (m := (P : Int)) hAa.ints hAb.ints 24 (w6.heap.size + 1) (by simp)
  have hA25 : Below (w6.alloc (.cells #[.int .i64 (P : Int), .slice Au u.length cAu] 24)).heap.size (w6.alloc (.cells #[.int .i64 (P : Int), .slice Au u.length cAu] 24)) ((w6.alloc (.cells #[.int .i64 (P : Int), .slice Au u.length cAu] 24)).alloc (.cells #[.int .i64 (P : Int), .slice Aa a.length cAa, .int .i64 (P : Int), .slice Ab b.length cAb] 24)) := (Below.refl _ _).alloc (Nat.le_refl _) _
  replace hv1 := hv1.on hA25
  replace hv2 := hv2.on hA25
  replace hv3 := hv3.on hA25
  replace hv4 := hv4.on hA25
  replace hAa := hAa.on hA25
  replace hAb := hAb.on hA25
  replace hAc := hAc.on hA25
  replace hAd := hAd.on hA25
  replace hAu := hAu.on hA25
  replace ra := ra.on hA25
  replace rb := rb.on hA25
  replace rc := rc.on hA25
  replace rd := rd.on hA25
  replace ru := ru.on hA25
  have hw26 : Below w.heap.size w ((w6.alloc (.cells #[.int .i64 (P : Int), .slice Au u.length cAu] 24)).alloc (.cells #[.int .i64 (P : Int), .slice Aa a.length cAa, .int .i64 (P : Int), .slice Ab b.length cAb] 24)) := hw24.trans (hA25.mono hw24.size)
  clear hw24
  clear hA25
  obtain ⟨cra0_30, cra1_30⟩ := ra.two
  obtain ⟨crb0_31, crb1_31⟩ := rb.two
  obtain ⟨crc0_32, crc1_32⟩ := rc.two
  obtain ⟨crd0_33, crd1_33⟩ := rd.two
  obtain ⟨cru0_34, cru1_34⟩ := ru.two
  go_wp2_with fail
  with_reducible refine (Union_eq _ (P : Int) c _ [((P : Int), a), ((P : Int), b)] (P : Int) 0 u _ HU2.out hAc hm_ lc9 H9' (by simp [maxLen])).mono ?_
  rintro e w7 ⟨Av, cAv, rfl, hAv, hB27⟩
  clear cra0_21 cra1_21 crb0_22 crb1_22 crc0_23 crc1_23 crd0_24 crd1_24 cra0_25 cra1_25 crb0_26 crb1_26 crc0_27 crc1_27 crd0_28 crd1_28 cru0_29 cru1_29 cra0_30 cra1_30 crb0_31 crb1_31 crc0_32 crc1_32 crd0_33 crd1_33 cru0_34 cru1_34
  replace hv1 := hv1.on hB27
  replace hv2 := hv2.on hB27
  replace hv3 := hv3.on hB27
  replace hv4 := hv4.on hB27
  replace hAa := hAa.on hB27
  replace hAb := hAb.on hB27
  replace hAc := hAc.on hB27
  replace hAd := hAd.on hB27
  replace hAu := hAu.on hB27
  replace ra := ra.on hB27
  replace rb := rb.on hB27
  replace rc := rc.on hB27
  replace rd := rd.on hB27
  replace ru := ru.on hB27
  have hw28 : Below w.heap.size w (w7) := hw26.trans (hB27.mono hw26.size)
  clear hw26
  clear hB27
  obtain ⟨cra0_35, cra1_35⟩ := ra.two
  obtain ⟨crb0_36, crb1_36⟩ := rb.two
  obtain ⟨crc0_37, crc1_37⟩ := rc.two
  obtain ⟨crd0_38, crd1_38⟩ := rd.two
  obtain ⟨cru0_39, cru1_39⟩ := ru.two
  clear hm_
  have hA29 : Below (w7).heap.size (w7) (w7.alloc (.cells #[.int .i64 (P : Int), .slice Av u.length cAv] 24)) := (Below.refl _ _).alloc (Nat.le_refl _) _
  have rv_ := RowAt.new (w7) 24 #[.int .i64 (P : Int), .slice Av u.length cAv]
  replace hv1 := hv1.on hA29
  replace hv2 := hv2.on hA29
  replace hv3 := hv3.on hA29
  replace hv4 := hv4.on hA29
  replace hAa := hAa.on hA29
  replace hAb := hAb.on hA29
  replace hAc := hAc.on hA29
  replace hAd := hAd.on hA29
  replace hAu := hAu.on hA29
  replace hAv := hAv.on hA29
  replace ra := ra.on hA29
  replace rb := rb.on hA29
  replace rc := rc.on hA29
  replace rd := rd.on hA29
  replace ru := ru.on hA29
  have hw30 : Below w.heap.size w (w7.alloc (.cells #[.int .i64 (P : Int), .slice Av u.length cAv] 24)) := hw28.trans (hA29.mono hw28.size)
  clear hw28
  clear hA29
  obtain ⟨cra0_40, cra1_40⟩ := ra.two
  obtain ⟨crb0_41, crb1_41⟩ := rb.two
  obtain ⟨crc0_42, crc1_42⟩ := rc.two
  obtain ⟨crd0_43, crd1_43⟩ := rd.two
  obtain ⟨cru0_44, cru1_44⟩ := ru.two
  have rv : RowAt (w7.alloc (.cells #[.int .i64 (P : Int), .slice Av u.length cAv] 24)) (w7.heap.size) 24 [.int .i64 (P : Int), .slice Av u.length cAv] := rv_
  clear rv_
  obtain ⟨crv0_45, crv1_45⟩ := rv.two
  have hm_ := BtRow.one (n := (P : Int)) hAb.ints 24 (w7.heap.size + 1) (by simp)
  have hA31 : Below (w7.alloc (.cells #[.int .i64 (P : Int), .slice Av u.length cAv] 24)).heap.size (w7.alloc (.cells #[.int .i64 (P : Int), .slice Av u.length cAv] 24)) ((w7.alloc (.cells #[.int .i64 (P : Int), .slice Av u.length cAv] 24)).alloc (.cells #[.int .i64 (P : Int), .slice Ab b.length cAb] 24)) := (Below.refl _ _).alloc (Nat.le_refl _) _
  replace hv1 := hv1.on hA31
  replace hv2 := hv2.on hA31
  replace hv3 := hv3.on hA31
  replace hv4 := hv4.on hA31
  replace hAa := hAa.on hA31
  replace hAb := hAb.on hA31
  replace hAc := hAc.on hA31
  replace hAd := hAd.on hA31
  replace hAu := hAu.on hA31
  replace hAv := hAv.on hA31
  replace ra := ra.on hA31
  replace rb := rb.on hA31
  replace rc := rc.on hA31
  replace rd := rd.on hA31
  replace ru := ru.on hA31
  replace rv := rv.on hA31
  have hw32 : Below w.heap.size w ((w7.alloc (.cells #[.int .i64 (P : Int), .slice Av u.length cAv] 24)).alloc (.cells #[.int .i64 (P : Int), .slice Ab b.length cAb] 24)) := hw30.trans (hA31.mono hw30.size)
  clear hw30
  clear hA31
  obtain ⟨cra0_46, cra1_46⟩ := ra.two
  obtain ⟨crb0_47, crb1_47⟩ := rb.two
  obtain ⟨crc0_48, crc1_48⟩ := rc.two
  obtain ⟨crd0_49, crd1_49⟩ := rd.two
  obtain ⟨cru0_50, cru1_50⟩ := ru.two
  obtain ⟨crv0_51, crv1_51⟩ := rv.two
  go_wp2_with fail
  with_reducible refine (Union_eq _ (P : Int) a _ [((P : Int), b)] (P : Int) 0 x0 _ HU3.out hAa hm_ la9 H9b (by simp [maxLen])).mono ?_
  rintro e w8 ⟨Aw, cAw, rfl, hAw, hB33⟩
  clear cra0_35 cra1_35 crb0_36 crb1_36 crc0_37 crc1_37 crd0_38 crd1_38 cru0_39 cru1_39 cra0_40 cra1_40 crb0_41 crb1_41 crc0_42 crc1_42 crd0_43 crd1_43 cru0_44 cru1_44 crv0_45 crv1_45 cra0_46 cra1_46 crb0_47 crb1_47 crc0_48 crc1_48 crd0_49 crd1_49 cru0_50 cru1_50 crv0_51 crv1_51
  replace hv1 := hv1.on hB33
  replace hv2 := hv2.on hB33
  replace hv3 := hv3.on hB33
  replace hv4 := hv4.on hB33
  replace hAa := hAa.on hB33
  replace hAb := hAb.on hB33
  replace hAc := hAc.on hB33
  replace hAd := hAd.on hB33
  replace hAu := hAu.on hB33
  replace hAv := hAv.on hB33
  replace ra := ra.on hB33
  replace rb := rb.on hB33
  replace rc := rc.on hB33
  replace rd := rd.on hB33
  replace ru := ru.on hB33
  replace rv := rv.on hB33
  have hw34 : Below w.heap.size w (w8) := hw32.trans (hB33.mono hw32.size)
  clear hw32
  clear hB33
  obtain ⟨cra0_52, cra1_52⟩ := ra.two
  obtain ⟨crb0_53, crb1_53⟩ := rb.two
  obtain ⟨crc0_54, crc1_54⟩ := rc.two
  obtain ⟨crd0_55, crd1_55⟩ := rd.two
  obtain ⟨cru0_56, cru1_56⟩ := ru.two
  obtain ⟨crv0_57, crv1_57⟩ := rv.two
  clear hm_
  have hA35 : Below (w8).heap.size (w8) (w8.alloc (.cells #[.int .i64 (P : Int), .slice Aw x0.length cAw] 24)) := (Below.refl _ _).alloc (Nat.le_refl _) _
  have rw_ := RowAt.new (w8) 24 #[.int .i64 (P : Int), .slice Aw x0.length cAw]
  replace hv1 := hv1.on hA35
  replace hv2 := hv2.on hA35
  replace hv3 := hv3.on hA35
  replace hv4 := hv4.on hA35
  replace hAa := hAa.on hA35
  replace hAb := hAb.on hA35
  replace hAc := hAc.on hA35
  replace hAd := hAd.on hA35
  replace hAu := hAu.on hA35
  replace hAv := hAv.on hA35
  replace hAw := hAw.on hA35
  replace ra := ra.on hA35
  replace rb := rb.on hA35
  replace rc := rc.on hA35
  replace rd := rd.on hA35
  replace ru := ru.on hA35
  replace rv := rv.on hA35
  have hw36 : Below w.heap.size w (w8.alloc (.cells #[.int .i64 (P : Int), .slice Aw x0.length cAw] 24)) := hw34.trans (hA35.mono hw34.size)
  clear hw34
  clear hA35
  obtain ⟨cra0_58, cra1_58⟩ := ra.two
  obtain ⟨crb0_59, crb1_59⟩ := rb.two
  obtain ⟨crc0_60, crc1_60⟩ := rc.two
  obtain ⟨crd0_61, crd1_61⟩ := rd.two
  obtain ⟨cru0_62, cru1_62⟩ := ru.two
  obtain ⟨crv0_63, crv1_63⟩ := rv.two
  have rw : RowAt (w8.alloc (.cells #[.int .i64 (P : Int), .slice Aw x0.length cAw] 24)) (w8.heap.size) 24 [.int .i64 (P : Int), .slice Aw x0.length cAw] := rw_
  clear rw_
  obtain ⟨crw0_64, crw1_64⟩ := rw.two
  have hm_ := BtRow.one (n := (P : Int)) hAc.ints 24 (w8.heap.size + 1) (by simp)
  have hA37 : Below (w8.alloc (.cells #[.int .i64 (P : Int), .slice Aw x0.length cAw] 24)).heap.size (w8.alloc (.cells #[.int .i64 (P : Int), .slice Aw x0.length cAw] 24)) ((w8.alloc (.cells #[.int .i64 (P : Int), .slice Aw x0.length cAw] 24)).alloc (.cells #[.int .i64 (P : Int), .slice Ac c.length cAc] 24)) := (Below.refl _ _).alloc (Nat.le_refl _) _
  replace hv1 := hv1.on hA37
  replace hv2 := hv2.on hA37
  replace hv3 := hv3.on hA37
  replace hv4 := hv4.on hA37
  replace hAa := hAa.on hA37
  replace hAb := hAb.on hA37
  replace hAc := hAc.on hA37
  replace hAd := hAd.on hA37
  replace hAu := hAu.on hA37
  replace hAv := hAv.on hA37
  replace hAw := hAw.on hA37
  replace ra := ra.on hA37
  replace rb := rb.on hA37
  replace rc := rc.on hA37
  replace rd := rd.on hA37
  replace ru := ru.on hA37
  replace rv := rv.on hA37
  replace rw := rw.on hA37
  have hw38 : Below w.heap.size w ((w8.alloc (.cells #[.int .i64 (P : Int), .slice Aw x0.length cAw] 24)).alloc (.cells #[.int .i64 (P : Int), .slice Ac c.length cAc] 24)) := hw36.trans (hA37.mono hw36.size)
  clear hw36
  clear hA37
  obtain ⟨cra0_65, cra1_65⟩ := ra.two
  obtain ⟨crb0_66, crb1_66⟩ := rb.two
  obtain ⟨crc0_67, crc1_67⟩ := rc.two
  obtain ⟨crd0_68, crd1_68⟩ := rd.two
  obtain ⟨cru0_69, cru1_69⟩ := ru.two
  obtain ⟨crv0_70, crv1_70⟩ := rv.two
  obtain ⟨crw0_71, crw1_71⟩ := rw.two
  go_wp2_with fail
  with_reducible refine (Union_eq _ (P : Int) x0 _ [((P : Int), c)] (P : Int) 0 u _ HU4.out hAw hm_ lx9 H9c (by simp [maxLen])).mono ?_
  rintro e w9 ⟨Ax, cAx, rfl, hAx, hB39⟩
  clear cra0_52 cra1_52 crb0_53 crb1_53 crc0_54 crc1_54 crd0_55 crd1_55 cru0_56 cru1_56 crv0_57 crv1_57 cra0_58 cra1_58 crb0_59 crb1_59 crc0_60 crc1_60 crd0_61 crd1_61 cru0_62 cru1_62 crv0_63 crv1_63 crw0_64 crw1_64 cra0_65 cra1_65 crb0_66 crb1_66 crc0_67 crc1_67 crd0_68 crd1_68 cru0_69 cru1_69 crv0_70 crv1_70 crw0_71 crw1_71
  replace hv1 := hv1.on hB39
  replace hv2 := hv2.on hB39
  replace hv3 := hv3.on hB39
  replace hv4 := hv4.on hB39
  replace hAa := hAa.on hB39
  replace hAb := hAb.on hB39
  replace hAc := hAc.on hB39
  replace hAd := hAd.on hB39
  replace hAu := hAu.on hB39
  replace hAv := hAv.on hB39
  replace hAw := hAw.on hB39
  replace ra := ra.on hB39
  replace rb := rb.on hB39
  replace rc := rc.on hB39
  replace rd := rd.on hB39
  replace ru := ru.on hB39
  replace rv := rv.on hB39
  replace rw := rw.on hB39
  have hw40 : Below w.heap.size w (w9) := hw38.trans (hB39.mono hw38.size)
  clear hw38
  clear hB39
  obtain ⟨cra0_72, cra1_72⟩ := ra.two
  obtain ⟨crb0_73, crb1_73⟩ := rb.two
  obtain ⟨crc0_74, crc1_74⟩ := rc.two
  obtain ⟨crd0_75, crd1_75⟩ := rd.two
  obtain ⟨cru0_76, cru1_76⟩ := ru.two
  obtain ⟨crv0_77, crv1_77⟩ := rv.two
  obtain ⟨crw0_78, crw1_78⟩ := rw.two
  clear hm_
  have hA41 : Below (w9).heap.size (w9) (w9.alloc (.cells #[.int .i64 (P : Int), .slice Ax u.length cAx] 24)) := (Below.refl _ _).alloc (Nat.le_refl _) _
  have rx_ := RowAt.new (w9) 24 #[.int .i64 (P : Int), .slice Ax u.length cAx]
  replace hv1 := hv1.on hA41
  replace hv2 := hv2.on hA41
  replace hv3 := hv3.on hA41
  replace hv4 := hv4.on hA41
  replace hAa := hAa.on hA41
  replace hAb := hAb.on hA41
  replace hAc := hAc.on hA41
  replace hAd := hAd.on hA41
  replace hAu := hAu.on hA41
  replace hAv := hAv.on hA41
  replace hAw := hAw.on hA41
  replace hAx := hAx.on hA41
  replace ra := ra.on hA41
  replace rb := rb.on hA41
  replace rc := rc.on hA41
  replace rd := rd.on hA41
  replace ru := ru.on hA41
  replace rv := rv.on hA41
  replace rw := rw.on hA41
  have hw42 : Below w.heap.size w (w9.alloc (.cells #[.int .i64 (P : Int), .slice Ax u.length cAx] 24)) := hw40.trans (hA41.mono hw40.size)
  clear hw40
  clear hA41
  obtain ⟨cra0_79, cra1_79⟩ := ra.two
  obtain ⟨crb0_80, crb1_80⟩ := rb.two
  obtain ⟨crc0_81, crc1_81⟩ := rc.two
  obtain ⟨crd0_82, crd1_82⟩ := rd.two
  obtain ⟨cru0_83, cru1_83⟩ := ru.two
  obtain ⟨crv0_84, crv1_84⟩ := rv.two
  obtain ⟨crw0_85, crw1_85⟩ := rw.two
  have rx : RowAt (w9.alloc (.cells #[.int .i64 (P : Int), .slice Ax u.length cAx] 24)) (w9.heap.size) 24 [.int .i64 (P : Int), .slice Ax u.length cAx] := rx_
  clear rx_
  obtain ⟨crx0_86, crx1_86⟩ := rx.two
  go_wp2_with fail
  with_reducible refine (Union_eq _ (P : Int) a _ [] (P : Int) 0 a _ HU5.out hAa (BtRow.nil _) la9 (by simp) (by simp [maxLen])).mono ?_
  rintro e w10 ⟨Ay, cAy, rfl, hAy, hB43⟩
  clear cra0_72 cra1_72 crb0_73 crb1_73 crc0_74 crc1_74 crd0_75 crd1_75 cru0_76 cru1_76 crv0_77 crv1_77 crw0_78 crw1_78 cra0_79 cra1_79 crb0_80 crb1_80 crc0_81 crc1_81 crd0_82 crd1_82 cru0_83 cru1_83 crv0_84 crv1_84 crw0_85 crw1_85 crx0_86 crx1_86
  replace hv1 := hv1.on hB43
  replace hv2 := hv2.on hB43
  replace hv3 := hv3.on hB43
  replace hv4 := hv4.on hB43
  replace hAa := hAa.on hB43
  replace hAb := hAb.on hB43
  replace hAc := hAc.on hB43
  replace hAd := hAd.on hB43
  replace hAu := hAu.on hB43
  replace hAv := hAv.on hB43
  replace hAw := hAw.on hB43
  replace hAx := hAx.on hB43
  replace ra := ra.on hB43
  replace rb := rb.on hB43
  replace rc := rc.on hB43
  replace rd := rd.on hB43
  replace ru := ru.on hB43
  replace rv := rv.on hB43
  replace rw := rw.on hB43
  replace rx := rx.on hB43
  have hw44 : Below w.heap.size w (w10) := hw42.trans (hB43.mono hw42.size)
  clear hw42
  clear hB43
  obtain ⟨cra0_87, cra1_87⟩ := ra.two
  obtain ⟨crb0_88, crb1_88⟩ := rb.two
  obtain ⟨crc0_89, crc1_89⟩ := rc.two
  obtain ⟨crd0_90, crd1_90⟩ := rd.two
  obtain ⟨cru0_91, cru1_91⟩ := ru.two
  obtain ⟨crv0_92, crv1_92⟩ := rv.two
  obtain ⟨crw0_93, crw1_93⟩ := rw.two
  obtain ⟨crx0_94, crx1_94⟩ := rx.two
  have hA45 : Below (w10).heap.size (w10) (w10.alloc (.cells #[.int .i64 (P : Int), .slice Ay a.length cAy] 24)) := (Below.refl _ _).alloc (Nat.le_refl _) _
  have ry_ := RowAt.new (w10) 24 #[.int .i64 (P : Int), .slice Ay a.length cAy]
  replace hv1 := hv1.on hA45
  replace hv2 := hv2.on hA45
  replace hv3 := hv3.on hA45
  replace hv4 := hv4.on hA45
  replace hAa := hAa.on hA45
  replace hAb := hAb.on hA45
  replace hAc := hAc.on hA45
  replace hAd := hAd.on hA45
  replace hAu := hAu.on hA45
  replace hAv := hAv.on hA45
  replace hAw := hAw.on hA45
  replace hAx := hAx.on hA45
  replace hAy := hAy.on hA45
  replace ra := ra.on hA45
  replace rb := rb.on hA45
  replace rc := rc.on hA45
  replace rd := rd.on hA45
  replace ru := ru.on hA45
  replace rv := rv.on hA45
  replace rw := rw.on hA45
  replace rx := rx.on hA45
  have hw46 : Below w.heap.size w (w10.alloc (.cells #[.int .i64 (P : Int), .slice Ay a.length cAy] 24)) := hw44.trans (hA45.mono hw44.size)
  clear hw44
  clear hA45
  obtain ⟨cra0_95, cra1_95⟩ := ra.two
  obtain ⟨crb0_96, crb1_96⟩ := rb.two
  obtain ⟨crc0_97, crc1_97⟩ := rc.two
  obtain ⟨crd0_98, crd1_98⟩ := rd.two
  obtain ⟨cru0_99, cru1_99⟩ := ru.two
  obtain ⟨crv0_100, crv1_100⟩ := rv.two
  obtain ⟨crw0_101, crw1_101⟩ := rw.two
  obtain ⟨crx0_102, crx1_102⟩ := rx.two
  have ry : RowAt (w10.alloc (.cells #[.int .i64 (P : Int), .slice Ay a.length cAy] 24)) (w10.heap.size) 24 [.int .i64 (P : Int), .slice Ay a.length cAy] := ry_
  clear ry_
  obtain ⟨cry0_103, cry1_103⟩ := ry.two
  cases t1 : subOf P a P d
  · have T1 := Lib.hid t1
    have TA : Hid (subOf P u P d = false) := by rw [← SA.out, t1]; rfl
    clear t1
    go_wp2_with fail
    with_reducible refine (Subset_eq _ _ P P a d _ false T1.out hAa hAd la9 ld9).mono ?_
    rintro e w11 ⟨rfl, hB47⟩
    clear cra0_87 cra1_87 crb0_88 crb1_88 crc0_89 crc1_89 crd0_90 crd1_90 cru0_91 cru1_91 crv0_92 crv1_92 crw0_93 crw1_93 crx0_94 crx1_94 cra0_95 cra1_95 crb0_96 crb1_96 crc0_97 crc1_97 crd0_98 crd1_98 cru0_99 cru1_99 crv0_100 crv1_100 crw0_101 crw1_101 crx0_102 crx1_102 cry0_103 cry1_103
    replace hv1 := hv1.on hB47
    replace hv2 := hv2.on hB47
    replace hv3 := hv3.on hB47
    replace hv4 := hv4.on hB47
    replace hAa := hAa.on hB47
    replace hAb := hAb.on hB47
    replace hAc := hAc.on hB47
    replace hAd := hAd.on hB47
    replace hAu := hAu.on hB47
    replace hAv := hAv.on hB47
    replace hAw := hAw.on hB47
    replace hAx := hAx.on hB47
    replace hAy := hAy.on hB47
    replace ra := ra.on hB47
    replace rb := rb.on hB47
    replace rc := rc.on hB47
    replace rd := rd.on hB47
    replace ru := ru.on hB47
    replace rv := rv.on hB47
    replace rw := rw.on hB47
    replace rx := rx.on hB47
    replace ry := ry.on hB47
    have hw48 : Below w.heap.size w (w11) := hw46.trans (hB47.mono hw46.size)
    clear hw46
    clear hB47
    obtain ⟨cra0_104, cra1_104⟩ := ra.two
    obtain ⟨crb0_105, crb1_105⟩ := rb.two
    obtain ⟨crc0_106, crc1_106⟩ := rc.two
    obtain ⟨crd0_107, crd1_107⟩ := rd.two
    obtain ⟨cru0_108, cru1_108⟩ := ru.two
    obtain ⟨crv0_109, crv1_109⟩ := rv.two
    obtain ⟨crw0_110, crw1_110⟩ := rw.two
    obtain ⟨crx0_111, crx1_111⟩ := rx.two
    obtain ⟨cry0_112, cry1_112⟩ := ry.two
    go_wp2_with fail
    with_reducible refine (Same_eq _ _ P P u u _ true (SM.out u) hAu hAv lu9 lu9).mono ?_
    rintro e v1 ⟨rfl, hB49⟩
    clear cra0_104 cra1_104 crb0_105 crb1_105 crc0_106 crc1_106 crd0_107 crd1_107 cru0_108 cru1_108 crv0_109 crv1_109 crw0_110 crw1_110 crx0_111 crx1_111 cry0_112 cry1_112
    replace hv1 := hv1.on hB49
    replace hv2 := hv2.on hB49
    replace hv3 := hv3.on hB49
    replace hv4 := hv4.on hB49
    replace hAa := hAa.on hB49
    replace hAb := hAb.on hB49
    replace hAc := hAc.on hB49
    replace hAd := hAd.on hB49
    replace hAu := hAu.on hB49
    replace hAv := hAv.on hB49
    replace hAw := hAw.on hB49
    replace hAx := hAx.on hB49
    replace hAy := hAy.on hB49
    replace ra := ra.on hB49
    replace rb := rb.on hB49
    replace rc := rc.on hB49
    replace rd := rd.on hB49
    replace ru := ru.on hB49
    replace rv := rv.on hB49
    replace rw := rw.on hB49
    replace rx := rx.on hB49
    replace ry := ry.on hB49
    have hw50 : Below w.heap.size w (v1) := hw48.trans (hB49.mono hw48.size)
    clear hw48
    clear hB49
    obtain ⟨cra0_113, cra1_113⟩ := ra.two
    obtain ⟨crb0_114, crb1_114⟩ := rb.two
    obtain ⟨crc0_115, crc1_115⟩ := rc.two
    obtain ⟨crd0_116, crd1_116⟩ := rd.two
    obtain ⟨cru0_117, cru1_117⟩ := ru.two
    obtain ⟨crv0_118, crv1_118⟩ := rv.two
    obtain ⟨crw0_119, crw1_119⟩ := rw.two
    obtain ⟨crx0_120, crx1_120⟩ := rx.two
    obtain ⟨cry0_121, cry1_121⟩ := ry.two
    go_wp2_with fail
    with_reducible refine (Same_eq _ _ P P u u _ true (SM.out u) hAu hAx lu9 lu9).mono ?_
    rintro e v2 ⟨rfl, hB51⟩
    clear cra0_113 cra1_113 crb0_114 crb1_114 crc0_115 crc1_115 crd0_116 crd1_116 cru0_117 cru1_117 crv0_118 crv1_118 crw0_119 crw1_119 crx0_120 crx1_120 cry0_121 cry1_121
    replace hv1 := hv1.on hB51
    replace hv2 := hv2.on hB51
    replace hv3 := hv3.on hB51
    replace hv4 := hv4.on hB51
    replace hAa := hAa.on hB51
    replace hAb := hAb.on hB51
    replace hAc := hAc.on hB51
    replace hAd := hAd.on hB51
    replace hAu := hAu.on hB51
    replace hAv := hAv.on hB51
    replace hAw := hAw.on hB51
    replace hAx := hAx.on hB51
    replace hAy := hAy.on hB51
    replace ra := ra.on hB51
    replace rb := rb.on hB51
    replace rc := rc.on hB51
    replace rd := rd.on hB51
    replace ru := ru.on hB51
    replace rv := rv.on hB51
    replace rw := rw.on hB51
    replace rx := rx.on hB51
    replace ry := ry.on hB51
    have hw52 : Below w.heap.size w (v2) := hw50.trans (hB51.mono hw50.size)
    clear hw50
    clear hB51
    obtain ⟨cra0_122, cra1_122⟩ := ra.two
    obtain ⟨crb0_123, crb1_123⟩ := rb.two
    obtain ⟨crc0_124, crc1_124⟩ := rc.two
    obtain ⟨crd0_125, crd1_125⟩ := rd.two
    obtain ⟨cru0_126, cru1_126⟩ := ru.two
    obtain ⟨crv0_127, crv1_127⟩ := rv.two
    obtain ⟨crw0_128, crw1_128⟩ := rw.two
    obtain ⟨crx0_129, crx1_129⟩ := rx.two
    obtain ⟨cry0_130, cry1_130⟩ := ry.two
    go_wp2_with fail
    with_reducible refine (Same_eq _ _ P P a a _ true (SM.out a) hAy hAa la9 la9).mono ?_
    rintro e v3 ⟨rfl, hB53⟩
    clear cra0_122 cra1_122 crb0_123 crb1_123 crc0_124 crc1_124 crd0_125 crd1_125 cru0_126 cru1_126 crv0_127 crv1_127 crw0_128 crw1_128 crx0_129 crx1_129 cry0_130 cry1_130
    replace hv1 := hv1.on hB53
    replace hv2 := hv2.on hB53
    replace hv3 := hv3.on hB53
    replace hv4 := hv4.on hB53
    replace hAa := hAa.on hB53
    replace hAb := hAb.on hB53
    replace hAc := hAc.on hB53
    replace hAd := hAd.on hB53
    replace hAu := hAu.on hB53
    replace hAv := hAv.on hB53
    replace hAw := hAw.on hB53
    replace hAx := hAx.on hB53
    replace hAy := hAy.on hB53
    replace ra := ra.on hB53
    replace rb := rb.on hB53
    replace rc := rc.on hB53
    replace rd := rd.on hB53
    replace ru := ru.on hB53
    replace rv := rv.on hB53
    replace rw := rw.on hB53
    replace rx := rx.on hB53
    replace ry := ry.on hB53
    have hw54 : Below w.heap.size w (v3) := hw52.trans (hB53.mono hw52.size)
    clear hw52
    clear hB53
    obtain ⟨cra0_131, cra1_131⟩ := ra.two
    obtain ⟨crb0_132, crb1_132⟩ := rb.two
    obtain ⟨crc0_133, crc1_133⟩ := rc.two
    obtain ⟨crd0_134, crd1_134⟩ := rd.two
    obtain ⟨cru0_135, cru1_135⟩ := ru.two
    obtain ⟨crv0_136, crv1_136⟩ := rv.two
    obtain ⟨crw0_137, crw1_137⟩ := rw.two
    obtain ⟨crx0_138, crx1_138⟩ := rx.two
    obtain ⟨cry0_139, cry1_139⟩ := ry.two
    go_wp2_with fail
    with_reducible refine (Subset_eq _ _ P P a u _ true S1.out hAa hAu la9 lu9).mono ?_
    rintro e v4 ⟨rfl, hB55⟩
    clear cra0_131 cra1_131 crb0_132 crb1_132 crc0_133 crc1_133 crd0_134 crd1_134 cru0_135 cru1_135 crv0_136 crv1_136 crw0_137 crw1_137 crx0_138 crx1_138 cry0_139 cry1_139
    replace hv1 := hv1.on hB55
    replace hv2 := hv2.on hB55
    replace hv3 := hv3.on hB55
    replace hv4 := hv4.on hB55
    replace hAa := hAa.on hB55
    replace hAb := hAb.on hB55
    replace hAc := hAc.on hB55
    replace hAd := hAd.on hB55
    replace hAu := hAu.on hB55
    replace hAv := hAv.on hB55
    replace hAw := hAw.on hB55
    replace hAx := hAx.on hB55
    replace hAy := hAy.on hB55
    replace ra := ra.on hB55
    replace rb := rb.on hB55
    replace rc := rc.on hB55
    replace rd := rd.on hB55
    replace ru := ru.on hB55
    replace rv := rv.on hB55
    replace rw := rw.on hB55
    replace rx := rx.on hB55
    replace ry := ry.on hB55
    have hw56 : Below w.heap.size w (v4) := hw54.trans (hB55.mono hw54.size)
    clear hw54
    clear hB55
    obtain ⟨cra0_140, cra1_140⟩ := ra.two
    obtain ⟨crb0_141, crb1_141⟩ := rb.two
    obtain ⟨crc0_142, crc1_142⟩ := rc.two
    obtain ⟨crd0_143, crd1_143⟩ := rd.two
    obtain ⟨cru0_144, cru1_144⟩ := ru.two
    obtain ⟨crv0_145, crv1_145⟩ := rv.two
    obtain ⟨crw0_146, crw1_146⟩ := rw.two
    obtain ⟨crx0_147, crx1_147⟩ := rx.two
    obtain ⟨cry0_148, cry1_148⟩ := ry.two
    go_wp2_with fail
    with_reducible refine (Subset_eq _ _ P P b u _ true S2.out hAb hAu lb9 lu9).mono ?_
    rintro e v5 ⟨rfl, hB57⟩
    clear cra0_140 cra1_140 crb0_141 crb1_141 crc0_142 crc1_142 crd0_143 crd1_143 cru0_144 cru1_144 crv0_145 crv1_145 crw0_146 crw1_146 crx0_147 crx1_147 cry0_148 cry1_148
    replace hv1 := hv1.on hB57
    replace hv2 := hv2.on hB57
    replace hv3 := hv3.on hB57
    replace hv4 := hv4.on hB57
    replace hAa := hAa.on hB57
    replace hAb := hAb.on hB57
    replace hAc := hAc.on hB57
    replace hAd := hAd.on hB57
    replace hAu := hAu.on hB57
    replace hAv := hAv.on hB57
    replace hAw := hAw.on hB57
    replace hAx := hAx.on hB57
    replace hAy := hAy.on hB57
    replace ra := ra.on hB57
    replace rb := rb.on hB57
    replace rc := rc.on hB57
    replace rd := rd.on hB57
    replace ru := ru.on hB57
    replace rv := rv.on hB57
    replace rw := rw.on hB57
    replace rx := rx.on hB57
    replace ry := ry.on hB57
    have hw58 : Below w.heap.size w (v5) := hw56.trans (hB57.mono hw56.size)
    clear hw56
    clear hB57
    obtain ⟨cra0_149, cra1_149⟩ := ra.two
    obtain ⟨crb0_150, crb1_150⟩ := rb.two
    obtain ⟨crc0_151, crc1_151⟩ := rc.two
    obtain ⟨crd0_152, crd1_152⟩ := rd.two
    obtain ⟨cru0_153, cru1_153⟩ := ru.two
    obtain ⟨crv0_154, crv1_154⟩ := rv.two
    obtain ⟨crw0_155, crw1_155⟩ := rw.two
    obtain ⟨crx0_156, crx1_156⟩ := rx.two
    obtain ⟨cry0_157, cry1_157⟩ := ry.two
    go_wp2_with fail
    with_reducible refine (Subset_eq _ _ P P c u _ true S3.out hAc hAu lc9 lu9).mono ?_
    rintro e v6 ⟨rfl, hB59⟩
    clear cra0_149 cra1_149 crb0_150 crb1_150 crc0_151 crc1_151 crd0_152 crd1_152 cru0_153 cru1_153 crv0_154 crv1_154 crw0_155 crw1_155 crx0_156 crx1_156 cry0_157 cry1_157
    replace hv1 := hv1.on hB59
    replace hv2 := hv2.on hB59
    replace hv3 := hv3.on hB59
    replace hv4 := hv4.on hB59
    replace hAa := hAa.on hB59
    replace hAb := hAb.on hB59
    replace hAc := hAc.on hB59
    replace hAd := hAd.on hB59
    replace hAu := hAu.on hB59
    replace hAv := hAv.on hB59
    replace hAw := hAw.on hB59
    replace hAx := hAx.on hB59
    replace hAy := hAy.on hB59
    replace ra := ra.on hB59
    replace rb := rb.on hB59
    replace rc := rc.on hB59
    replace rd := rd.on hB59
    replace ru := ru.on hB59
    replace rv := rv.on hB59
    replace rw := rw.on hB59
    replace rx := rx.on hB59
    replace ry := ry.on hB59
    have hw60 : Below w.heap.size w (v6) := hw58.trans (hB59.mono hw58.size)
    clear hw58
    clear hB59
    obtain ⟨cra0_158, cra1_158⟩ := ra.two
    obtain ⟨crb0_159, crb1_159⟩ := rb.two
    obtain ⟨crc0_160, crc1_160⟩ := rc.two
    obtain ⟨crd0_161, crd1_161⟩ := rd.two
    obtain ⟨cru0_162, cru1_162⟩ := ru.two
    obtain ⟨crv0_163, crv1_163⟩ := rv.two
    obtain ⟨crw0_164, crw1_164⟩ := rw.two
    obtain ⟨crx0_165, crx1_165⟩ := rx.two
    obtain ⟨cry0_166, cry1_166⟩ := ry.two
    go_wp2_with fail
    with_reducible refine (Subset_eq _ _ P P u d _ false TA.out hAu hAd lu9 ld9).mono ?_
    rintro e v7 ⟨rfl, hB61⟩
    clear cra0_158 cra1_158 crb0_159 crb1_159 crc0_160 crc1_160 crd0_161 crd1_161 cru0_162 cru1_162 crv0_163 crv1_163 crw0_164 crw1_164 crx0_165 crx1_165 cry0_166 cry1_166
    replace hv1 := hv1.on hB61
    replace hv2 := hv2.on hB61
    replace hv3 := hv3.on hB61
    replace hv4 := hv4.on hB61
    replace hAa := hAa.on hB61
    replace hAb := hAb.on hB61
    replace hAc := hAc.on hB61
    replace hAd := hAd.on hB61
    replace hAu := hAu.on hB61
    replace hAv := hAv.on hB61
    replace hAw := hAw.on hB61
    replace hAx := hAx.on hB61
    replace hAy := hAy.on hB61
    replace ra := ra.on hB61
    replace rb := rb.on hB61
    replace rc := rc.on hB61
    replace rd := rd.on hB61
    replace ru := ru.on hB61
    replace rv := rv.on hB61
    replace rw := rw.on hB61
    replace rx := rx.on hB61
    replace ry := ry.on hB61
    have hw62 : Below w.heap.size w (v7) := hw60.trans (hB61.mono hw60.size)
    clear hw60
    clear hB61
    obtain ⟨cra0_167, cra1_167⟩ := ra.two
    obtain ⟨crb0_168, crb1_168⟩ := rb.two
    obtain ⟨crc0_169, crc1_169⟩ := rc.two
    obtain ⟨crd0_170, crd1_170⟩ := rd.two
    obtain ⟨cru0_171, cru1_171⟩ := ru.two
    obtain ⟨crv0_172, crv1_172⟩ := rv.two
    obtain ⟨crw0_173, crw1_173⟩ := rw.two
    obtain ⟨crx0_174, crx1_174⟩ := rx.two
    obtain ⟨cry0_175, cry1_175⟩ := ry.two
    go_wp2_with fail
    go_ret
    refine ⟨?_, hw62⟩
    first | rfl | (congr 2; simp; omega)

  · cases t2 : subOf P b P d
    · have T1 := Lib.hid t1
      have T2 := Lib.hid t2
      have TA : Hid (subOf P u P d = false) := by rw [← SA.out, t1, t2]; rfl
      clear t1 t2
      go_wp2_with fail
      with_reducible refine (Subset_eq _ _ P P a d _ true T1.out hAa hAd la9 ld9).mono ?_
      rintro e w11 ⟨rfl, hB47⟩
      clear cra0_87 cra1_87 crb0_88 crb1_88 crc0_89 crc1_89 crd0_90 crd1_90 cru0_91 cru1_91 crv0_92 crv1_92 crw0_93 crw1_93 crx0_94 crx1_94 cra0_95 cra1_95 crb0_96 crb1_96 crc0_97 crc1_97 crd0_98 crd1_98 cru0_99 cru1_99 crv0_100 crv1_100 crw0_101 crw1_101 crx0_102 crx1_102 cry0_103 cry1_103
      replace hv1 := hv1.on hB47
      replace hv2 := hv2.on hB47
      replace hv3 := hv3.on hB47
      replace hv4 := hv4.on hB47
      replace hAa := hAa.on hB47
      replace hAb := hAb.on hB47
      replace hAc := hAc.on hB47
      replace hAd := hAd.on hB47
      replace hAu := hAu.on hB47
      replace hAv := hAv.on hB47
      replace hAw := hAw.on hB47
      replace hAx := hAx.on hB47
      replace hAy := hAy.on hB47
      replace ra := ra.on hB47
      replace rb := rb.on hB47
      replace rc := rc.on hB47
      replace rd := rd.on hB47
      replace ru := ru.on hB47
      replace rv := rv.on hB47
      replace rw := rw.on hB47
      replace rx := rx.on hB47
      replace ry := ry.on hB47
      have hw48 : Below w.heap.size w (w11) := hw46.trans (hB47.mono hw46.size)
      clear hw46
      clear hB47
      obtain ⟨cra0_104, cra1_104⟩ := ra.two
      obtain ⟨crb0_105, crb1_105⟩ := rb.two
      obtain ⟨crc0_106, crc1_106⟩ := rc.two
      obtain ⟨crd0_107, crd1_107⟩ := rd.two
      obtain ⟨cru0_108, cru1_108⟩ := ru.two
      obtain ⟨crv0_109, crv1_109⟩ := rv.two
      obtain ⟨crw0_110, crw1_110⟩ := rw.two
      obtain ⟨crx0_111, crx1_111⟩ := rx.two
      obtain ⟨cry0_112, cry1_112⟩ := ry.two
      go_wp2_with fail
      with_reducible refine (Subset_eq _ _ P P b d _ false T2.out hAb hAd lb9 ld9).mono ?_
      rintro e w12 ⟨rfl, hB49⟩
      clear cra0_104 cra1_104 crb0_105 crb1_105 crc0_106 crc1_106 crd0_107 crd1_107 cru0_108 cru1_108 crv0_109 crv1_109 crw0_110 crw1_110 crx0_111 crx1_111 cry0_112 cry1_112
      replace hv1 := hv1.on hB49
      replace hv2 := hv2.on hB49
      replace hv3 := hv3.on hB49
      replace hv4 := hv4.on hB49
      replace hAa := hAa.on hB49
      replace hAb := hAb.on hB49
      replace hAc := hAc.on hB49
      replace hAd := hAd.on hB49
      replace hAu := hAu.on hB49
      replace hAv := hAv.on hB49
      replace hAw := hAw.on hB49
      replace hAx := hAx.on hB49
      replace hAy := hAy.on hB49
      replace ra := ra.on hB49
      replace rb := rb.on hB49
      replace rc := rc.on hB49
      replace rd := rd.on hB49
      replace ru := ru.on hB49
      replace rv := rv.on hB49
      replace rw := rw.on hB49
      replace rx := rx.on hB49
      replace ry := ry.on hB49
      have hw50 : Below w.heap.size w (w12) := hw48.trans (hB49.mono hw48.size)
      clear hw48
      clear hB49
      obtain ⟨cra0_113, cra1_113⟩ := ra.two
      obtain ⟨crb0_114, crb1_114⟩ := rb.two
      obtain ⟨crc0_115, crc1_115⟩ := rc.two
      obtain ⟨crd0_116, crd1_116⟩ := rd.two
      obtain ⟨cru0_117, cru1_117⟩ := ru.two
      obtain ⟨crv0_118, crv1_118⟩ := rv.two
      obtain ⟨crw0_119, crw1_119⟩ := rw.two
      obtain ⟨crx0_120, crx1_120⟩ := rx.two
      obtain ⟨cry0_121, cry1_121⟩ := ry.two
      go_wp2_with fail
      with_reducible refine (Same_eq _ _ P P u u _ true (SM.out u) hAu hAv lu9 lu9).mono ?_
      rintro e v1 ⟨rfl, hB51⟩
      clear cra0_113 cra1_113 crb0_114 crb1_114 crc0_115 crc1_115 crd0_116 crd1_116 cru0_117 cru1_117 crv0_118 crv1_118 crw0_119 crw1_119 crx0_120 crx1_120 cry0_121 cry1_121
      replace hv1 := hv1.on hB51
      replace hv2 := hv2.on hB51
      replace hv3 := hv3.on hB51
      replace hv4 := hv4.on hB51
      replace hAa := hAa.on hB51
      replace hAb := hAb.on hB51
      replace hAc := hAc.on hB51
      replace hAd := hAd.on hB51
      replace hAu := hAu.on hB51
      replace hAv := hAv.on hB51
      replace hAw := hAw.on hB51
      replace hAx := hAx.on hB51
      replace hAy := hAy.on hB51
      replace ra := ra.on hB51
      replace rb := rb.on hB51
      replace rc := rc.on hB51
      replace rd := rd.on hB51
      replace ru := ru.on hB51
      replace rv := rv.on hB51
      replace rw := rw.on hB51
      replace rx := rx.on hB51
      replace ry := ry.on hB51
      have hw52 : Below w.heap.size w (v1) := hw50.trans (hB51.mono hw50.size)
      clear hw50
      clear hB51
      obtain ⟨cra0_122, cra1_122⟩ := ra.two
      obtain ⟨crb0_123, crb1_123⟩ := rb.two
      obtain ⟨crc0_124, crc1_124⟩ := rc.two
      obtain ⟨crd0_125, crd1_125⟩ := rd.two
      obtain ⟨cru0_126, cru1_126⟩ := ru.two
      obtain ⟨crv0_127, crv1_127⟩ := rv.two
      obtain ⟨crw0_128, crw1_128⟩ := rw.two
      obtain ⟨crx0_129, crx1_129⟩ := rx.two
      obtain ⟨cry0_130, cry1_130⟩ := ry.two
      go_wp2_with fail
      with_reducible refine (Same_eq _ _ P P u u _ true (SM.out u) hAu hAx lu9 lu9).mono ?_
      rintro e v2 ⟨rfl, hB53⟩
      clear cra0_122 cra1_122 crb0_123 crb1_123 crc0_124 crc1_124 crd0_125 crd1_125 cru0_126 cru1_126 crv0_127 crv1_127 crw0_128 crw1_128 crx0_129 crx1_129 cry0_130 cry1_130
      replace hv1 := hv1.on hB53
      replace hv2 := hv2.on hB53
      replace hv3 := hv3.on hB53
      replace hv4 := hv4.on hB53
      replace hAa := hAa.on hB53
      replace hAb := hAb.on hB53
      replace hAc := hAc.on hB53
      replace hAd := hAd.on hB53
      replace hAu := hAu.on hB53
      replace hAv := hAv.on hB53
      replace hAw := hAw.on hB53
      replace hAx := hAx.on hB53
      replace hAy := hAy.on hB53
      replace ra := ra.on hB53
      replace rb := rb.on hB53
      replace rc := rc.on hB53
      replace rd := rd.on hB53
      replace ru := ru.on hB53
      replace rv := rv.on hB53
      replace rw := rw.on hB53
      replace rx := rx.on hB53
      replace ry := ry.on hB53
      have hw54 : Below w.heap.size w (v2) := hw52.trans (hB53.mono hw52.size)
      clear hw52
      clear hB53
      obtain ⟨cra0_131, cra1_131⟩ := ra.two
      obtain ⟨crb0_132, crb1_132⟩ := rb.two
      obtain ⟨crc0_133, crc1_133⟩ := rc.two
      obtain ⟨crd0_134, crd1_134⟩ := rd.two
      obtain ⟨cru0_135, cru1_135⟩ := ru.two
      obtain ⟨crv0_136, crv1_136⟩ := rv.two
      obtain ⟨crw0_137, crw1_137⟩ := rw.two
      obtain ⟨crx0_138, crx1_138⟩ := rx.two
      obtain ⟨cry0_139, cry1_139⟩ := ry.two
      go_wp2_with fail
      with_reducible refine (Same_eq _ _ P P a a _ true (SM.out a) hAy hAa la9 la9).mono ?_
      rintro e v3 ⟨rfl, hB55⟩
      clear cra0_131 cra1_131 crb0_132 crb1_132 crc0_133 crc1_133 crd0_134 crd1_134 cru0_135 cru1_135 crv0_136 crv1_136 crw0_137 crw1_137 crx0_138 crx1_138 cry0_139 cry1_139
      replace hv1 := hv1.on hB55
      replace hv2 := hv2.on hB55
      replace hv3 := hv3.on hB55
      replace hv4 := hv4.on hB55
      replace hAa := hAa.on hB55
      replace hAb := hAb.on hB55
      replace hAc := hAc.on hB55
      replace hAd := hAd.on hB55
      replace hAu := hAu.on hB55
      replace hAv := hAv.on hB55
      replace hAw := hAw.on hB55
      replace hAx := hAx.on hB55
      replace hAy := hAy.on hB55
      replace ra := ra.on hB55
      replace rb := rb.on hB55
      replace rc := rc.on hB55
      replace rd := rd.on hB55
      replace ru := ru.on hB55
      replace rv := rv.on hB55
      replace rw := rw.on hB55
      replace rx := rx.on hB55
      replace ry := ry.on hB55
      have hw56 : Below w.heap.size w (v3) := hw54.trans (hB55.mono hw54.size)
      clear hw54
      clear hB55
      obtain ⟨cra0_140, cra1_140⟩ := ra.two
      obtain ⟨crb0_141, crb1_141⟩ := rb.two
      obtain ⟨crc0_142, crc1_142⟩ := rc.two
      obtain ⟨crd0_143, crd1_143⟩ := rd.two
      obtain ⟨cru0_144, cru1_144⟩ := ru.two
      obtain ⟨crv0_145, crv1_145⟩ := rv.two
      obtain ⟨crw0_146, crw1_146⟩ := rw.two
      obtain ⟨crx0_147, crx1_147⟩ := rx.two
      obtain ⟨cry0_148, cry1_148⟩ := ry.two
      go_wp2_with fail
      with_reducible refine (Subset_eq _ _ P P a u _ true S1.out hAa hAu la9 lu9).mono ?_
      rintro e v4 ⟨rfl, hB57⟩
      clear cra0_140 cra1_140 crb0_141 crb1_141 crc0_142 crc1_142 crd0_143 crd1_143 cru0_144 cru1_144 crv0_145 crv1_145 crw0_146 crw1_146 crx0_147 crx1_147 cry0_148 cry1_148
      replace hv1 := hv1.on hB57
      replace hv2 := hv2.on hB57
      replace hv3 := hv3.on hB57
      replace hv4 := hv4.on hB57
      replace hAa := hAa.on hB57
      replace hAb := hAb.on hB57
      replace hAc := hAc.on hB57
      replace hAd := hAd.on hB57
      replace hAu := hAu.on hB57
      replace hAv := hAv.on hB57
      replace hAw := hAw.on hB57
      replace hAx := hAx.on hB57
      replace hAy := hAy.on hB57
      replace ra := ra.on hB57
      replace rb := rb.on hB57
      replace rc := rc.on hB57
      replace rd := rd.on hB57
      replace ru := ru.on hB57
      replace rv := rv.on hB57
      replace rw := rw.on hB57
      replace rx := rx.on hB57
      replace ry := ry.on hB57
      have hw58 : Below w.heap.size w (v4) := hw56.trans (hB57.mono hw56.size)
      clear hw56
      clear hB57
      obtain ⟨cra0_149, cra1_149⟩ := ra.two
      obtain ⟨crb0_150, crb1_150⟩ := rb.two
      obtain ⟨crc0_151, crc1_151⟩ := rc.two
      obtain ⟨crd0_152, crd1_152⟩ := rd.two
      obtain ⟨cru0_153, cru1_153⟩ := ru.two
      obtain ⟨crv0_154, crv1_154⟩ := rv.two
      obtain ⟨crw0_155, crw1_155⟩ := rw.two
      obtain ⟨crx0_156, crx1_156⟩ := rx.two
      obtain ⟨cry0_157, cry1_157⟩ := ry.two
      go_wp2_with fail
      with_reducible refine (Subset_eq _ _ P P b u _ true S2.out hAb hAu lb9 lu9).mono ?_
      rintro e v5 ⟨rfl, hB59⟩
      clear cra0_149 cra1_149 crb0_150 crb1_150 crc0_151 crc1_151 crd0_152 crd1_152 cru0_153 cru1_153 crv0_154 crv1_154 crw0_155 crw1_155 crx0_156 crx1_156 cry0_157 cry1_157
      replace hv1 := hv1.on hB59
      replace hv2 := hv2.on hB59
      replace hv3 := hv3.on hB59
      replace hv4 := hv4.on hB59
      replace hAa := hAa.on hB59
      replace hAb := hAb.on hB59
      replace hAc := hAc.on hB59
      replace hAd := hAd.on hB59
      replace hAu := hAu.on hB59
      replace hAv := hAv.on hB59
      replace hAw := hAw.on hB59
      replace hAx := hAx.on hB59
      replace hAy := hAy.on hB59
      replace ra := ra.on hB59
      replace rb := rb.on hB59
      replace rc := rc.on hB59
      replace rd := rd.on hB59
      replace ru := ru.on hB59
      replace rv := rv.on hB59
      replace rw := rw.on hB59
      replace rx := rx.on hB59
      replace ry := ry.on hB59
      have hw60 : Below w.heap.size w (v5) := hw58.trans (hB59.mono hw58.size)
      clear hw58
      clear hB59
      obtain ⟨cra0_158, cra1_158⟩ := ra.two
      obtain ⟨crb0_159, crb1_159⟩ := rb.two
      obtain ⟨crc0_160, crc1_160⟩ := rc.two
      obtain ⟨crd0_161, crd1_161⟩ := rd.two
      obtain ⟨cru0_162, cru1_162⟩ := ru.two
      obtain ⟨crv0_163, crv1_163⟩ := rv.two
      obtain ⟨crw0_164, crw1_164⟩ := rw.two
      obtain ⟨crx0_165, crx1_165⟩ := rx.two
      obtain ⟨cry0_166, cry1_166⟩ := ry.two
      go_wp2_with fail
      with_reducible refine (Subset_eq _ _ P P c u _ true S3.out hAc hAu lc9 lu9).mono ?_
      rintro e v6 ⟨rfl, hB61⟩
      clear cra0_158 cra1_158 crb0_159 crb1_159 crc0_160 crc1_160 crd0_161 crd1_161 cru0_162 cru1_162 crv0_163 crv1_163 crw0_164 crw1_164 crx0_165 crx1_165 cry0_166 cry1_166
      replace hv1 := hv1.on hB61
      replace hv2 := hv2.on hB61
      replace hv3 := hv3.on hB61
      replace hv4 := hv4.on hB61
      replace hAa := hAa.on hB61
      replace hAb := hAb.on hB61
      replace hAc := hAc.on hB61
      replace hAd := hAd.on hB61
      replace hAu := hAu.on hB61
      replace hAv := hAv.on hB61
      replace hAw := hAw.on hB61
      replace hAx := hAx.on hB61
      replace hAy := hAy.on hB61
      replace ra := ra.on hB61
      replace rb := rb.on hB61
      replace rc := rc.on hB61
      replace rd := rd.on hB61
      replace ru := ru.on hB61
      replace rv := rv.on hB61
      replace rw := rw.on hB61
      replace rx := rx.on hB61
      replace ry := ry.on hB61
      have hw62 : Below w.heap.size w (v6) := hw60.trans (hB61.mono hw60.size)
      clear hw60
      clear hB61
      obtain ⟨cra0_167, cra1_167⟩ := ra.two
      obtain ⟨crb0_168, crb1_168⟩ := rb.two
      obtain ⟨crc0_169, crc1_169⟩ := rc.two
      obtain ⟨crd0_170, crd1_170⟩ := rd.two
      obtain ⟨cru0_171, cru1_171⟩ := ru.two
      obtain ⟨crv0_172, crv1_172⟩ := rv.two
      obtain ⟨crw0_173, crw1_173⟩ := rw.two
      obtain ⟨crx0_174, crx1_174⟩ := rx.two
      obtain ⟨cry0_175, cry1_175⟩ := ry.two
      go_wp2_with fail
      with_reducible refine (Subset_eq _ _ P P u d _ false TA.out hAu hAd lu9 ld9).mono ?_
      rintro e v7 ⟨rfl, hB63⟩
      clear cra0_167 cra1_167 crb0_168 crb1_168 crc0_169 crc1_169 crd0_170 crd1_170 cru0_171 cru1_171 crv0_172 crv1_172 crw0_173 crw1_173 crx0_174 crx1_174 cry0_175 cry1_175
      replace hv1 := hv1.on hB63
      replace hv2 := hv2.on hB63
      replace hv3 := hv3.on hB63
      replace hv4 := hv4.on hB63
      replace hAa := hAa.on hB63
      replace hAb := hAb.on hB63
      replace hAc := hAc.on hB63
      replace hAd := hAd.on hB63
      replace hAu := hAu.on hB63
      replace hAv := hAv.on hB63
      replace hAw := hAw.on hB63
      replace hAx := hAx.on hB63
      replace hAy := hAy.on hB63
      replace ra := ra.on hB63
      replace rb := rb.on hB63
      replace rc := rc.on hB63
      replace rd := rd.on hB63
      replace ru := ru.on hB63
      replace rv := rv.on hB63
      replace rw := rw.on hB63
      replace rx := rx.on hB63
      replace ry := ry.on hB63
      have hw64 : Below w.heap.size w (v7) := hw62.trans (hB63.mono hw62.size)
      clear hw62
      clear hB63
      obtain ⟨cra0_176, cra1_176⟩ := ra.two
      obtain ⟨crb0_177, crb1_177⟩ := rb.two
      obtain ⟨crc0_178, crc1_178⟩ := rc.two
      obtain ⟨crd0_179, crd1_179⟩ := rd.two
      obtain ⟨cru0_180, cru1_180⟩ := ru.two
      obtain ⟨crv0_181, crv1_181⟩ := rv.two
      obtain ⟨crw0_182, crw1_182⟩ := rw.two
      obtain ⟨crx0_183, crx1_183⟩ := rx.two
      obtain ⟨cry0_184, cry1_184⟩ := ry.two
      go_wp2_with fail
      go_ret
      refine ⟨?_, hw64⟩
      first | rfl | (congr 2; simp; omega)

    · obtain ⟨t3, ht3⟩ : ∃ t3, subOf P c P d = t3 := ⟨_, rfl⟩
      have T1 := Lib.hid t1
      have T2 := Lib.hid t2
      have T3 := Lib.hid ht3
      have TA : Hid (subOf P u P d = t3) := by rw [← SA.out, t1, t2, ht3]; rfl
      clear t1 t2 ht3
      cases t3
      all_goals
        go_wp2_with fail
        with_reducible refine (Subset_eq _ _ P P a d _ true T1.out hAa hAd la9 ld9).mono ?_
        rintro e w11 ⟨rfl, hB47⟩
        clear cra0_87 cra1_87 crb0_88 crb1_88 crc0_89 crc1_89 crd0_90 crd1_90 cru0_91 cru1_91 crv0_92 crv1_92 crw0_93 crw1_93 crx0_94 crx1_94 cra0_95 cra1_95 crb0_96 crb1_96 crc0_97 crc1_97 crd0_98 crd1_98 cru0_99 cru1_99 crv0_100 crv1_100 crw0_101 crw1_101 crx0_102 crx1_102 cry0_103 cry1_103
        replace hv1 := hv1.on hB47
        replace hv2 := hv2.on hB47
        replace hv3 := hv3.on hB47
        replace hv4 := hv4.on hB47
        replace hAa := hAa.on hB47
        replace hAb := hAb.on hB47
        replace hAc := hAc.on hB47
        replace hAd := hAd.on hB47
        replace hAu := hAu.on hB47
        replace hAv := hAv.on hB47
        replace hAw := hAw.on hB47
        replace hAx := hAx.on hB47
        replace hAy := hAy.on hB47
        replace ra := ra.on hB47
        replace rb := rb.on hB47
        replace rc := rc.on hB47
        replace rd := rd.on hB47
        replace ru := ru.on hB47
        replace rv := rv.on hB47
        replace rw := rw.on hB47
        replace rx := rx.on hB47
        replace ry := ry.on hB47
        have hw48 : Below w.heap.size w (w11) := hw46.trans (hB47.mono hw46.size)
        clear hw46
        clear hB47
        obtain ⟨cra0_104, cra1_104⟩ := ra.two
        obtain ⟨crb0_105, crb1_105⟩ := rb.two
        obtain ⟨crc0_106, crc1_106⟩ := rc.two
        obtain ⟨crd0_107, crd1_107⟩ := rd.two
        obtain ⟨cru0_108, cru1_108⟩ := ru.two
        obtain ⟨crv0_109, crv1_109⟩ := rv.two
        obtain ⟨crw0_110, crw1_110⟩ := rw.two
        obtain ⟨crx0_111, crx1_111⟩ := rx.two
        obtain ⟨cry0_112, cry1_112⟩ := ry.two
        go_wp2_with fail
        with_reducible refine (Subset_eq _ _ P P b d _ true T2.out hAb hAd lb9 ld9).mono ?_
        rintro e w12 ⟨rfl, hB49⟩
        clear cra0_104 cra1_104 crb0_105 crb1_105 crc0_106 crc1_106 crd0_107 crd1_107 cru0_108 cru1_108 crv0_109 crv1_109 crw0_110 crw1_110 crx0_111 crx1_111 cry0_112 cry1_112
        replace hv1 := hv1.on hB49
        replace hv2 := hv2.on hB49
        replace hv3 := hv3.on hB49
        replace hv4 := hv4.on hB49
        replace hAa := hAa.on hB49
        replace hAb := hAb.on hB49
        replace hAc := hAc.on hB49
        replace hAd := hAd.on hB49
        replace hAu := hAu.on hB49
        replace hAv := hAv.on hB49
        replace hAw := hAw.on hB49
        replace hAx := hAx.on hB49
        replace hAy := hAy.on hB49
        replace ra := ra.on hB49
        replace rb := rb.on hB49
        replace rc := rc.on hB49
        replace rd := rd.on hB49
        replace ru := ru.on hB49
        replace rv := rv.on hB49
        replace rw := rw.on hB49
        replace rx := rx.on hB49
        replace ry := ry.on hB49
        have hw50 : Below w.heap.size w (w12) := hw48.trans (hB49.mono hw48.size)
        clear hw48
        clear hB49
        obtain ⟨cra0_113, cra1_113⟩ := ra.two
        obtain ⟨crb0_114, crb1_114⟩ := rb.two
        obtain ⟨crc0_115, crc1_115⟩ := rc.two
        obtain ⟨crd0_116, crd1_116⟩ := rd.two
        obtain ⟨cru0_117, cru1_117⟩ := ru.two
        obtain ⟨crv0_118, crv1_118⟩ := rv.two
        obtain ⟨crw0_119, crw1_119⟩ := rw.two
        obtain ⟨crx0_120, crx1_120⟩ := rx.two
        obtain ⟨cry0_121, cry1_121⟩ := ry.two
        go_wp2_with fail
        with_reducible refine (Subset_eq _ _ P P c d _ _ T3.out hAc hAd lc9 ld9).mono ?_
        rintro e w13 ⟨rfl, hB51⟩
        clear cra0_113 cra1_113 crb0_114 crb1_114 crc0_115 crc1_115 crd0_116 crd1_116 cru0_117 cru1_117 crv0_118 crv1_118 crw0_119 crw1_119 crx0_120 crx1_120 cry0_121 cry1_121
        replace hv1 := hv1.on hB51
        replace hv2 := hv2.on hB51
        replace hv3 := hv3.on hB51
        replace hv4 := hv4.on hB51
        replace hAa := hAa.on hB51
        replace hAb := hAb.on hB51
        replace hAc := hAc.on hB51
        replace hAd := hAd.on hB51
        replace hAu := hAu.on hB51
        replace hAv := hAv.on hB51
        replace hAw := hAw.on hB51
        replace hAx := hAx.on hB51
        replace hAy := hAy.on hB51
        replace ra := ra.on hB51
        replace rb := rb.on hB51
        replace rc := rc.on hB51
        replace rd := rd.on hB51
        replace ru := ru.on hB51
        replace rv := rv.on hB51
        replace rw := rw.on hB51
        replace rx := rx.on hB51
        replace ry := ry.on hB51
        have hw52 : Below w.heap.size w (w13) := hw50.trans (hB51.mono hw50.size)
        clear hw50
        clear hB51
        obtain ⟨cra0_122, cra1_122⟩ := ra.two
        obtain ⟨crb0_123, crb1_123⟩ := rb.two
        obtain ⟨crc0_124, crc1_124⟩ := rc.two
        obtain ⟨crd0_125, crd1_125⟩ := rd.two
        obtain ⟨cru0_126, cru1_126⟩ := ru.two
        obtain ⟨crv0_127, crv1_127⟩ := rv.two
        obtain ⟨crw0_128, crw1_128⟩ := rw.two
        obtain ⟨crx0_129, crx1_129⟩ := rx.two
        obtain ⟨cry0_130, cry1_130⟩ := ry.two
        go_wp2_with fail
        with_reducible refine (Same_eq _ _ P P u u _ true (SM.out u) hAu hAv lu9 lu9).mono ?_
        rintro e v1 ⟨rfl, hB53⟩
        clear cra0_122 cra1_122 crb0_123 crb1_123 crc0_124 crc1_124 crd0_125 crd1_125 cru0_126 cru1_126 crv0_127 crv1_127 crw0_128 crw1_128 crx0_129 crx1_129 cry0_130 cry1_130
        replace hv1 := hv1.on hB53
        replace hv2 := hv2.on hB53
        replace hv3 := hv3.on hB53
        replace hv4 := hv4.on hB53
        replace hAa := hAa.on hB53
        replace hAb := hAb.on hB53
        replace hAc := hAc.on hB53
        replace hAd := hAd.on hB53
        replace hAu := hAu.on hB53
        replace hAv := hAv.on hB53
        replace hAw := hAw.on hB53
        replace hAx := hAx.on hB53
        replace hAy := hAy.on hB53
        replace ra := ra.on hB53
        replace rb := rb.on hB53
        replace rc := rc.on hB53
        replace rd := rd.on hB53
        replace ru := ru.on hB53
        replace rv := rv.on hB53
        replace rw := rw.on hB53
        replace rx := rx.on hB53
        replace ry := ry.on hB53
        have hw54 : Below w.heap.size w (v1) := hw52.trans (hB53.mono hw52.size)
        clear hw52
        clear hB53
        obtain ⟨cra0_131, cra1_131⟩ := ra.two
        obtain ⟨crb0_132, crb1_132⟩ := rb.two
        obtain ⟨crc0_133, crc1_133⟩ := rc.two
        obtain ⟨crd0_134, crd1_134⟩ := rd.two
        obtain ⟨cru0_135, cru1_135⟩ := ru.two
        obtain ⟨crv0_136, crv1_136⟩ := rv.two
        obtain ⟨crw0_137, crw1_137⟩ := rw.two
        obtain ⟨crx0_138, crx1_138⟩ := rx.two
        obtain ⟨cry0_139, cry1_139⟩ := ry.two
        go_wp2_with fail
        with_reducible refine (Same_eq _ _ P P u u _ true (SM.out u) hAu hAx lu9 lu9).mono ?_
        rintro e v2 ⟨rfl, hB55⟩
        clear cra0_131 cra1_131 crb0_132 crb1_132 crc0_133 crc1_133 crd0_134 crd1_134 cru0_135 cru1_135 crv0_136 crv1_136 crw0_137 crw1_137 crx0_138 crx1_138 cry0_139 cry1_139
        replace hv1 := hv1.on hB55
        replace hv2 := hv2.on hB55
        replace hv3 := hv3.on hB55
        replace hv4 := hv4.on hB55
        replace hAa := hAa.on hB55
        replace hAb := hAb.on hB55
        replace hAc := hAc.on hB55
        replace hAd := hAd.on hB55
        replace hAu := hAu.on hB55
        replace hAv := hAv.on hB55
        replace hAw := hAw.on hB55
        replace hAx := hAx.on hB55
        replace hAy := hAy.on hB55
        replace ra := ra.on hB55
        replace rb := rb.on hB55
        replace rc := rc.on hB55
        replace rd := rd.on hB55
        replace ru := ru.on hB55
        replace rv := rv.on hB55
        replace rw := rw.on hB55
        replace rx := rx.on hB55
        replace ry := ry.on hB55
        have hw56 : Below w.heap.size w (v2) := hw54.trans (hB55.mono hw54.size)
        clear hw54
        clear hB55
        obtain ⟨cra0_140, cra1_140⟩ := ra.two
        obtain ⟨crb0_141, crb1_141⟩ := rb.two
        obtain ⟨crc0_142, crc1_142⟩ := rc.two
        obtain ⟨crd0_143, crd1_143⟩ := rd.two
        obtain ⟨cru0_144, cru1_144⟩ := ru.two
        obtain ⟨crv0_145, crv1_145⟩ := rv.two
        obtain ⟨crw0_146, crw1_146⟩ := rw.two
        obtain ⟨crx0_147, crx1_147⟩ := rx.two
        obtain ⟨cry0_148, cry1_148⟩ := ry.two
        go_wp2_with fail
        with_reducible refine (Same_eq _ _ P P a a _ true (SM.out a) hAy hAa la9 la9).mono ?_
        rintro e v3 ⟨rfl, hB57⟩
        clear cra0_140 cra1_140 crb0_141 crb1_141 crc0_142 crc1_142 crd0_143 crd1_143 cru0_144 cru1_144 crv0_145 crv1_145 crw0_146 crw1_146 crx0_147 crx1_147 cry0_148 cry1_148
        replace hv1 := hv1.on hB57
        replace hv2 := hv2.on hB57
        replace hv3 := hv3.on hB57
        replace hv4 := hv4.on hB57
        replace hAa := hAa.on hB57
        replace hAb := hAb.on hB57
        replace hAc := hAc.on hB57
        replace hAd := hAd.on hB57
        replace hAu := hAu.on hB57
        replace hAv := hAv.on hB57
        replace hAw := hAw.on hB57
        replace hAx := hAx.on hB57
        replace hAy := hAy.on hB57
        replace ra := ra.on hB57
        replace rb := rb.on hB57
        replace rc := rc.on hB57
        replace rd := rd.on hB57
        replace ru := ru.on hB57
        replace rv := rv.on hB57
        replace rw := rw.on hB57
        replace rx := rx.on hB57
        replace ry := ry.on hB57
        have hw58 : Below w.heap.size w (v3) := hw56.trans (hB57.mono hw56.size)
        clear hw56
        clear hB57
        obtain ⟨cra0_149, cra1_149⟩ := ra.two
        obtain ⟨crb0_150, crb1_150⟩ := rb.two
        obtain ⟨crc0_151, crc1_151⟩ := rc.two
        obtain ⟨crd0_152, crd1_152⟩ := rd.two
        obtain ⟨cru0_153, cru1_153⟩ := ru.two
        obtain ⟨crv0_154, crv1_154⟩ := rv.two
        obtain ⟨crw0_155, crw1_155⟩ := rw.two
        obtain ⟨crx0_156, crx1_156⟩ := rx.two
        obtain ⟨cry0_157, cry1_157⟩ := ry.two
        go_wp2_with fail
        with_reducible refine (Subset_eq _ _ P P a u _ true S1.out hAa hAu la9 lu9).mono ?_
        rintro e v4 ⟨rfl, hB59⟩
        clear cra0_149 cra1_149 crb0_150 crb1_150 crc0_151 crc1_151 crd0_152 crd1_152 cru0_153 cru1_153 crv0_154 crv1_154 crw0_155 crw1_155 crx0_156 crx1_156 cry0_157 cry1_157
        replace hv1 := hv1.on hB59
        replace hv2 := hv2.on hB59
        replace hv3 := hv3.on hB59
        replace hv4 := hv4.on hB59
        replace hAa := hAa.on hB59
        replace hAb := hAb.on hB59
        replace hAc := hAc.on hB59
        replace hAd := hAd.on hB59
        replace hAu := hAu.on hB59
        replace hAv := hAv.on hB59
        replace hAw := hAw.on hB59
        replace hAx := hAx.on hB59
        replace hAy := hAy.on hB59
        replace ra := ra.on hB59
        replace rb := rb.on hB59
        replace rc := rc.on hB59
        replace rd := rd.on hB59
        replace ru := ru.on hB59
        replace rv := rv.on hB59
        replace rw := rw.on hB59
        replace rx := rx.on hB59
        replace ry := ry.on hB59
        have hw60 : Below w.heap.size w (v4) := hw58.trans (hB59.mono hw58.size)
        clear hw58
        clear hB59
        obtain ⟨cra0_158, cra1_158⟩ := ra.two
        obtain ⟨crb0_159, crb1_159⟩ := rb.two
        obtain ⟨crc0_160, crc1_160⟩ := rc.two
        obtain ⟨crd0_161, crd1_161⟩ := rd.two
        obtain ⟨cru0_162, cru1_162⟩ := ru.two
        obtain ⟨crv0_163, crv1_163⟩ := rv.two
        obtain ⟨crw0_164, crw1_164⟩ := rw.two
        obtain ⟨crx0_165, crx1_165⟩ := rx.two
        obtain ⟨cry0_166, cry1_166⟩ := ry.two
        go_wp2_with fail
        with_reducible refine (Subset_eq _ _ P P b u _ true S2.out hAb hAu lb9 lu9).mono ?_
        rintro e v5 ⟨rfl, hB61⟩
        clear cra0_158 cra1_158 crb0_159 crb1_159 crc0_160 crc1_160 crd0_161 crd1_161 cru0_162 cru1_162 crv0_163 crv1_163 crw0_164 crw1_164 crx0_165 crx1_165 cry0_166 cry1_166
        replace hv1 := hv1.on hB61
        replace hv2 := hv2.on hB61
        replace hv3 := hv3.on hB61
        replace hv4 := hv4.on hB61
        replace hAa := hAa.on hB61
        replace hAb := hAb.on hB61
        replace hAc := hAc.on hB61
        replace hAd := hAd.on hB61
        replace hAu := hAu.on hB61
        replace hAv := hAv.on hB61
        replace hAw := hAw.on hB61
        replace hAx := hAx.on hB61
        replace hAy := hAy.on hB61
        replace ra := ra.on hB61
        replace rb := rb.on hB61
        replace rc := rc.on hB61
        replace rd := rd.on hB61
        replace ru := ru.on hB61
        replace rv := rv.on hB61
        replace rw := rw.on hB61
        replace rx := rx.on hB61
        replace ry := ry.on hB61
        have hw62 : Below w.heap.size w (v5) := hw60.trans (hB61.mono hw60.size)
        clear hw60
        clear hB61
        obtain ⟨cra0_167, cra1_167⟩ := ra.two
        obtain ⟨crb0_168, crb1_168⟩ := rb.two
        obtain ⟨crc0_169, crc1_169⟩ := rc.two
        obtain ⟨crd0_170, crd1_170⟩ := rd.two
        obtain ⟨cru0_171, cru1_171⟩ := ru.two
        obtain ⟨crv0_172, crv1_172⟩ := rv.two
        obtain ⟨crw0_173, crw1_173⟩ := rw.two
        obtain ⟨crx0_174, crx1_174⟩ := rx.two
        obtain ⟨cry0_175, cry1_175⟩ := ry.two
        go_wp2_with fail
        with_reducible refine (Subset_eq _ _ P P c u _ true S3.out hAc hAu lc9 lu9).mono ?_
        rintro e v6 ⟨rfl, hB63⟩
        clear cra0_167 cra1_167 crb0_168 crb1_168 crc0_169 crc1_169 crd0_170 crd1_170 cru0_171 cru1_171 crv0_172 crv1_172 crw0_173 crw1_173 crx0_174 crx1_174 cry0_175 cry1_175
        replace hv1 := hv1.on hB63
        replace hv2 := hv2.on hB63
        replace hv3 := hv3.on hB63
        replace hv4 := hv4.on hB63
        replace hAa := hAa.on hB63
        replace hAb := hAb.on hB63
        replace hAc := hAc.on hB63
        replace hAd := hAd.on hB63
        replace hAu := hAu.on hB63
        replace hAv := hAv.on hB63
        replace hAw := hAw.on hB63
        replace hAx := hAx.on hB63
        replace hAy := hAy.on hB63
        replace ra := ra.on hB63
        replace rb := rb.on hB63
        replace rc := rc.on hB63
        replace rd := rd.on hB63
        replace ru := ru.on hB63
        replace rv := rv.on hB63
        replace rw := rw.on hB63
        replace rx := rx.on hB63
        replace ry := ry.on hB63
        have hw64 : Below w.heap.size w (v6) := hw62.trans (hB63.mono hw62.size)
        clear hw62
        clear hB63
        obtain ⟨cra0_176, cra1_176⟩ := ra.two
        obtain ⟨crb0_177, crb1_177⟩ := rb.two
        obtain ⟨crc0_178, crc1_178⟩ := rc.two
        obtain ⟨crd0_179, crd1_179⟩ := rd.two
        obtain ⟨cru0_180, cru1_180⟩ := ru.two
        obtain ⟨crv0_181, crv1_181⟩ := rv.two
        obtain ⟨crw0_182, crw1_182⟩ := rw.two
        obtain ⟨crx0_183, crx1_183⟩ := rx.two
        obtain ⟨cry0_184, cry1_184⟩ := ry.two
        go_wp2_with fail
        with_reducible refine (Subset_eq _ _ P P u d _ _ TA.out hAu hAd lu9 ld9).mono ?_
        rintro e v7 ⟨rfl, hB65⟩
        clear cra0_176 cra1_176 crb0_177 crb1_177 crc0_178 crc1_178 crd0_179 crd1_179 cru0_180 cru1_180 crv0_181 crv1_181 crw0_182 crw1_182 crx0_183 crx1_183 cry0_184 cry1_184
        replace hv1 := hv1.on hB65
        replace hv2 := hv2.on hB65
        replace hv3 := hv3.on hB65
        replace hv4 := hv4.on hB65
        replace hAa := hAa.on hB65
        replace hAb := hAb.on hB65
        replace hAc := hAc.on hB65
        replace hAd := hAd.on hB65
        replace hAu := hAu.on hB65
        replace hAv := hAv.on hB65
        replace hAw := hAw.on hB65
        replace hAx := hAx.on hB65
        replace hAy := hAy.on hB65
        replace ra := ra.on hB65
        replace rb := rb.on hB65
        replace rc := rc.on hB65
        replace rd := rd.on hB65
        replace ru := ru.on hB65
        replace rv := rv.on hB65
        replace rw := rw.on hB65
        replace rx := rx.on hB65
        replace ry := ry.on hB65
        have hw66 : Below w.heap.size w (v7) := hw64.trans (hB65.mono hw64.size)
        clear hw64
        clear hB65
        obtain ⟨cra0_185, cra1_185⟩ := ra.two
        obtain ⟨crb0_186, crb1_186⟩ := rb.two
        obtain ⟨crc0_187, crc1_187⟩ := rc.two
        obtain ⟨crd0_188, crd1_188⟩ := rd.two
        obtain ⟨cru0_189, cru1_189⟩ := ru.two
        obtain ⟨crv0_190, crv1_190⟩ := rv.two
        obtain ⟨crw0_191, crw1_191⟩ := rw.two
        obtain ⟨crx0_192, crx1_192⟩ := rx.two
        obtain ⟨cry0_193, cry1_193⟩ := ry.two
        go_wp2_with fail
        go_ret
        refine ⟨?_, hw66⟩
        first | rfl | (congr 2; simp; omega)

theorem bunion_calls (a0 : Int) (w0 : (Lit.int .i64 a0).wf = true) (xs1 : List Int) (v1 : Value) {w : World} (s1 : Ints w w.heap.size v1 xs1) (b1 : ∀ x ∈ xs1, -9223372036854775808 ≤ x ∧ x ≤ 9223372036854775807) (_ : xs1.length ≤ maxLen) (xs2 : List Int) (v2 : Value) (s2 : Ints w w.heap.size v2 xs2) (b2 : ∀ x ∈ xs2, -9223372036854775808 ≤ x ∧ x ≤ 9223372036854775807) (_ : xs2.length ≤ maxLen) (xs3 : List Int) (v3 : Value) (s3 : Ints w w.heap.size v3 xs3) (b3 : ∀ x ∈ xs3, -9223372036854775808 ≤ x ∧ x ≤ 9223372036854775807) (_ : xs3.length ≤ maxLen) (xs4 : List Int) (v4 : Value) (s4 : Ints w w.heap.size v4 xs4) (b4 : ∀ x ∈ xs4, -9223372036854775808 ≤ x ∧ x ≤ 9223372036854775807) (_ : xs4.length ≤ maxLen) :
    Calls Try.prog 6 #[.int .i64 a0, v1, v2, v3, v4] w fun e w' => e = .returned (.bool true) ∧ Below w.heap.size w w' :=
  bunion_walk a0 xs1 xs2 xs3 xs4 v1 v2 v3 v4 w s1 s2 s3 s4 (bounds_i64 w0) b1 b2 b3 b4
end Go.Proofs.Ytcdldceeiacopaa
