/- The walk of BitsForms. -/
import Derived.Test.YtcdldceeiacopaaBitR
import Derived.OpenShut
namespace Go.Proofs.Ytcdldceeiacopaa
open Go.RowKit Go.Shelf

theorem unlist_case (T : ByteArray) (k : Int) : ∃ (N : Int) (on : List Int) (e : Int), unlistOf T.data.toList k = (N, on, e) ∧ ((e = 0 ∧ rightB N on = true ∧ N ≤ k ∧ (⟨(lstOf N on).toArray⟩ : ByteArray) = T) ∨ (e ≠ 0 ∧ N = 0 ∧ on = [])) := by
  rcases h : unlistOf T.data.toList k with ⟨N, on, e⟩
  refine ⟨N, on, e, rfl, ?_⟩
  by_cases he : e = 0
  · subst he
    obtain ⟨h1, h2, h3⟩ := unlist_right h
    refine .inl ⟨rfl, h1, h2, ?_⟩
    rw [lstOf, if_pos h1, h3]
  · obtain ⟨h1, h2⟩ := unlist_err h he
    exact .inr ⟨he, h1, h2⟩
theorem unvec_case (T : ByteArray) (k : Int) : ∃ (N : Int) (on : List Int) (e : Int), unvecOf T.data.toList k = (N, on, e) ∧ ((e = 0 ∧ rightB N on = true ∧ N = k ∧ (⟨(vctOf N on).toArray⟩ : ByteArray) = T) ∨ (e ≠ 0 ∧ N = 0 ∧ on = [])) := by
  rcases h : unvecOf T.data.toList k with ⟨N, on, e⟩
  refine ⟨N, on, e, rfl, ?_⟩
  by_cases he : e = 0
  · subst he
    obtain ⟨h1, h2, h3⟩ := unvec_right h
    refine .inl ⟨rfl, h1, h2, ?_⟩
    rw [vctOf, if_pos h1, h3]
  · obtain ⟨h1, h2⟩ := unvec_err h he
    exact .inr ⟨he, h1, h2⟩
theorem min_nat (s : ByteArray) (b : Nat) : ∃ m : Nat, min (s.size : Int) (b : Int) = (m : Int) ∧ m ≤ b ∧ m ≤ s.size ∧ (s.extract 0 m).size = m := by
  refine ⟨min s.size b, by omega, by omega, by omega, ?_⟩
  rw [ByteArray.size_extract]; omega
theorem right_len' {N : Int} {a : List Int} (ha : rightB N a = true) : a.length ≤ 3000 := by
  obtain ⟨h1, h2, h3⟩ := (rightB_iff _ _).1 ha
  have := rise_len a 0 N h2 h3
  omega

set_option maxHeartbeats 4000000 in
set_option maxRecDepth 100000 in
theorem bforms_walk (s : ByteArray) (n : Int) (w : World) (hs : s.size ≤ 9223372036854775807) (hn : I64 n) :
    Calls Try.prog 5 #[.string s, .int .i64 n] w fun e w' => e = .returned (.bool true) ∧ Below w.heap.size w w' := by
  have hn' : -9223372036854775808 ≤ n ∧ n ≤ 9223372036854775807 := hn
  by_cases h300 : s.size ≤ 300
  case' pos =>
    go_enter Try.func5, Try.ntmps5
    go_wp2_with fail
    with_reducible refine (awake_any _).mono ?_
    rintro e w1 ⟨rfl, hw1⟩
    go_wp2_with fail
    with_reducible refine (pick_any _ _ _ hn' (by omega) (by omega)).mono ?_
    rintro e w1' ⟨rfl, rfl⟩
    generalize pickOf n (8 * (s.size : Int) + 9) = K3
    generalize hT : s = T at *
    clear hT
    have hT9 : T.size ≤ 300 := h300
    go_wp2_with fail
    generalize 8 * (T.size : Int) = K2
  case' neg =>
    have hT0 : (s.extract 0 300).size ≤ 300 := by rw [ByteArray.size_extract]; omega
    go_enter Try.func5, Try.ntmps5
    go_wp2_with fail
    with_reducible refine (awake_any _).mono ?_
    rintro e w1 ⟨rfl, hw1⟩
    go_wp2_with fail
    with_reducible refine (pick_any _ _ _ hn' (by omega) (by omega)).mono ?_
    rintro e w1' ⟨rfl, rfl⟩
    generalize pickOf n (8 * ((min 300 s.size : Nat) : Int) + 9) = K3
    generalize hT : s.extract 0 300 = T at *
    have hT9 : T.size ≤ 300 := hT0
    clear hT hT0
    go_wp2_with fail
    generalize 8 * ((min 300 s.size : Nat) : Int) = K2
  all_goals
    have hks : Ints (w1.alloc (.cells #[.int .i64 n, .int .i64 K2, .int .i64 K3] 3)) (w1.alloc (.cells #[.int .i64 n, .int .i64 K2, .int .i64 K3] 3)).heap.size (.slice (some ⟨w1.heap.size, 0, none⟩) 3 3) [n, K2, K3] := ints_new w1 [n, K2, K3] 3 rfl _
    have hwA : Below w.heap.size w (w1.alloc (.cells #[.int .i64 n, .int .i64 K2, .int .i64 K3] 3)) := hw1.alloc hw1.size _
    go_loopw [35] (fun i wr => ∃ j : Nat, j ≤ 3 ∧ i = .int .i64 j ∧ Ints wr wr.heap.size (.slice (some ⟨w1.heap.size, 0, none⟩) 3 3) [n, K2, K3] ∧ Below w.heap.size w wr) (fun i _ => 3 - (intOf i).toNat)
    case atStart => exact ⟨0, by omega, rfl, hks, hwA⟩
    case round =>
      clear hks hwA
      obtain ⟨j, hj, rfl, hks, hbw⟩ := hrel
      by_cases hlt : j < 3
      · obtain ⟨ad, had, -, hcell⟩ := hks.at_ (k := j) (by simpa using hlt)
        injection had with had
        subst had
        rw [addr0] at hcell
        generalize [n, K2, K3][j] = k at *
        obtain ⟨N1, on1, e1, hu1, hc1⟩ := unlist_case T k
        obtain ⟨N2, on2, e2, hu2, hc2⟩ := unvec_case T k
        have HU1 := Lib.hid hu1
        have HU2 := Lib.hid hu2
        clear hu1 hu2
        rcases hc1 with ⟨he1, r1, hle1, hl1⟩ | ⟨he1, hN1, hon1⟩
        · subst he1
          have HL1 := Lib.hid hl1
          have HR1 := Lib.hid r1
          have HE1 : Hid (argErr (rightB N1 on1) = 0) := by simp [argErr, r1, Hid]
          have l19 := small_len (l := on1) (by have := right_len' r1; omega)
          clear hl1 r1
          rcases hc2 with ⟨he2, r2, hk2, hl2⟩ | ⟨he2, hN2, hon2⟩
          · subst he2
            have HL2 := Lib.hid hl2
            have HR2 := Lib.hid r2
            have HE2 : Hid (argErr (rightB N2 on2) = 0) := by simp [argErr, r2, Hid]
            have l29 := small_len (l := on2) (by have := right_len' r2; omega)
            subst hk2
            clear hl2 r2
            go_wp2_with fail
            with_reducible refine (Unlist_eq T N2 N1 0 on1 _ HU1.out (by omega)).mono ?_
            rintro e v1 ⟨Aa, cAa, rfl, hAa, hB1⟩
            replace hks := hks.on hB1
            have hw2 : Below w.heap.size w (v1) := hbw.trans (hB1.mono hbw.size)
            clear hbw
            clear hB1
            have hA3 : Below (v1).heap.size (v1) (v1.alloc (.cells #[.int .i64 N1, .slice Aa on1.length cAa] 24)) := (Below.refl _ _).alloc (Nat.le_refl _) _
            have ra_ := RowAt.new (v1) 24 #[.int .i64 N1, .slice Aa on1.length cAa]
            replace hks := hks.on hA3
            replace hAa := hAa.on hA3
            have hw4 : Below w.heap.size w (v1.alloc (.cells #[.int .i64 N1, .slice Aa on1.length cAa] 24)) := hw2.trans (hA3.mono hw2.size)
            clear hw2
            clear hA3
            have ra : RowAt (v1.alloc (.cells #[.int .i64 N1, .slice Aa on1.length cAa] 24)) (v1.heap.size) 24 [.int .i64 N1, .slice Aa on1.length cAa] := ra_
            clear ra_
            obtain ⟨cra0_1, cra1_1⟩ := ra.two
            go_wp2_with fail
            with_reducible refine (List_eq _ N1 on1 _ T 0 HL1.out HE1.out hAa l19).mono ?_
            rintro e v2 ⟨rfl, hB5⟩
            clear cra0_1 cra1_1
            replace hks := hks.on hB5
            replace hAa := hAa.on hB5
            replace ra := ra.on hB5
            have hw6 : Below w.heap.size w (v2) := hw4.trans (hB5.mono hw4.size)
            clear hw4
            clear hB5
            obtain ⟨cra0_2, cra1_2⟩ := ra.two
            go_wp2_with fail
            with_reducible refine (Right_eq _ N1 on1 _ true HR1.out hAa l19).mono ?_
            rintro e v3 ⟨rfl, hB7⟩
            clear cra0_2 cra1_2
            replace hks := hks.on hB7
            replace hAa := hAa.on hB7
            replace ra := ra.on hB7
            have hw8 : Below w.heap.size w (v3) := hw6.trans (hB7.mono hw6.size)
            clear hw6
            clear hB7
            obtain ⟨cra0_3, cra1_3⟩ := ra.two
            go_wp2_with fail
            with_reducible refine (Unvector_eq T N2 N2 0 on2 _ HU2.out).mono ?_
            rintro e v4 ⟨Ab, cAb, rfl, hAb, hB9⟩
            clear cra0_3 cra1_3
            replace hks := hks.on hB9
            replace hAa := hAa.on hB9
            replace ra := ra.on hB9
            have hw10 : Below w.heap.size w (v4) := hw8.trans (hB9.mono hw8.size)
            clear hw8
            clear hB9
            obtain ⟨cra0_4, cra1_4⟩ := ra.two
            have hA11 : Below (v4).heap.size (v4) (v4.alloc (.cells #[.int .i64 N2, .slice Ab on2.length cAb] 24)) := (Below.refl _ _).alloc (Nat.le_refl _) _
            have rb_ := RowAt.new (v4) 24 #[.int .i64 N2, .slice Ab on2.length cAb]
            replace hks := hks.on hA11
            replace hAa := hAa.on hA11
            replace hAb := hAb.on hA11
            replace ra := ra.on hA11
            have hw12 : Below w.heap.size w (v4.alloc (.cells #[.int .i64 N2, .slice Ab on2.length cAb] 24)) := hw10.trans (hA11.mono hw10.size)
            clear hw10
            clear hA11
            obtain ⟨cra0_5, cra1_5⟩ := ra.two
            have rb : RowAt (v4.alloc (.cells #[.int .i64 N2, .slice Ab on2.length cAb] 24)) (v4.heap.size) 24 [.int .i64 N2, .slice Ab on2.length cAb] := rb_
            clear rb_
            obtain ⟨crb0_6, crb1_6⟩ := rb.two
            go_wp2_with fail
            with_reducible refine (Vector_eq _ N2 on2 _ T 0 HL2.out HE2.out hAb l29).mono ?_
            rintro e v5 ⟨rfl, hB13⟩
            clear cra0_4 cra1_4 cra0_5 cra1_5 crb0_6 crb1_6
            replace hks := hks.on hB13
            replace hAa := hAa.on hB13
            replace hAb := hAb.on hB13
            replace ra := ra.on hB13
            replace rb := rb.on hB13
            have hw14 : Below w.heap.size w (v5) := hw12.trans (hB13.mono hw12.size)
            clear hw12
            clear hB13
            obtain ⟨cra0_7, cra1_7⟩ := ra.two
            obtain ⟨crb0_8, crb1_8⟩ := rb.two
            go_wp2_with fail
            with_reducible refine (Right_eq _ N2 on2 _ true HR2.out hAb l29).mono ?_
            rintro e v6 ⟨rfl, hB15⟩
            clear cra0_7 cra1_7 crb0_8 crb1_8
            replace hks := hks.on hB15
            replace hAa := hAa.on hB15
            replace hAb := hAb.on hB15
            replace ra := ra.on hB15
            replace rb := rb.on hB15
            have hw16 : Below w.heap.size w (v6) := hw14.trans (hB15.mono hw14.size)
            clear hw14
            clear hB15
            obtain ⟨cra0_9, cra1_9⟩ := ra.two
            obtain ⟨crb0_10, crb1_10⟩ := rb.two
            go_wp2_with fail
            go_roundw
            case rel => exact ⟨j + 1, by omega, by go_num, hks, hw16⟩
            case measure => simp [intOf]; omega
          · have hee2 : (e2 == 0) = false := by simpa using he2
            have hne2 : (e2 != 0) = true := by simpa using he2
            subst hN2
            subst hon2
            go_wp2_with fail
            with_reducible refine (Unlist_eq T k N1 0 on1 _ HU1.out (by omega)).mono ?_
            rintro e v1 ⟨Aa, cAa, rfl, hAa, hB1⟩
            replace hks := hks.on hB1
            have hw2 : Below w.heap.size w (v1) := hbw.trans (hB1.mono hbw.size)
            clear hbw
            clear hB1
            have hA3 : Below (v1).heap.size (v1) (v1.alloc (.cells #[.int .i64 N1, .slice Aa on1.length cAa] 24)) := (Below.refl _ _).alloc (Nat.le_refl _) _
            have ra_ := RowAt.new (v1) 24 #[.int .i64 N1, .slice Aa on1.length cAa]
            replace hks := hks.on hA3
            replace hAa := hAa.on hA3
            have hw4 : Below w.heap.size w (v1.alloc (.cells #[.int .i64 N1, .slice Aa on1.length cAa] 24)) := hw2.trans (hA3.mono hw2.size)
            clear hw2
            clear hA3
            have ra : RowAt (v1.alloc (.cells #[.int .i64 N1, .slice Aa on1.length cAa] 24)) (v1.heap.size) 24 [.int .i64 N1, .slice Aa on1.length cAa] := ra_
            clear ra_
            obtain ⟨cra0_1, cra1_1⟩ := ra.two
            go_wp2_with fail
            with_reducible refine (List_eq _ N1 on1 _ T 0 HL1.out HE1.out hAa l19).mono ?_
            rintro e v2 ⟨rfl, hB5⟩
            clear cra0_1 cra1_1
            replace hks := hks.on hB5
            replace hAa := hAa.on hB5
            replace ra := ra.on hB5
            have hw6 : Below w.heap.size w (v2) := hw4.trans (hB5.mono hw4.size)
            clear hw4
            clear hB5
            obtain ⟨cra0_2, cra1_2⟩ := ra.two
            go_wp2_with fail
            with_reducible refine (Right_eq _ N1 on1 _ true HR1.out hAa l19).mono ?_
            rintro e v3 ⟨rfl, hB7⟩
            clear cra0_2 cra1_2
            replace hks := hks.on hB7
            replace hAa := hAa.on hB7
            replace ra := ra.on hB7
            have hw8 : Below w.heap.size w (v3) := hw6.trans (hB7.mono hw6.size)
            clear hw6
            clear hB7
            obtain ⟨cra0_3, cra1_3⟩ := ra.two
            go_wp2_with fail
            with_reducible refine (Unvector_eq T k 0 e2 [] _ HU2.out).mono ?_
            rintro e v4 ⟨Ab, cAb, rfl, hAb, hB9⟩
            clear cra0_3 cra1_3
            replace hks := hks.on hB9
            replace hAa := hAa.on hB9
            replace ra := ra.on hB9
            have hw10 : Below w.heap.size w (v4) := hw8.trans (hB9.mono hw8.size)
            clear hw8
            clear hB9
            obtain ⟨cra0_4, cra1_4⟩ := ra.two
            simp only [List.length_nil] at hAb ⊢
            have hA11 : Below (v4).heap.size (v4) (v4.alloc (.cells #[.int .i64 0, .slice Ab 0 cAb] 24)) := (Below.refl _ _).alloc (Nat.le_refl _) _
            have rb_ := RowAt.new (v4) 24 #[.int .i64 0, .slice Ab 0 cAb]
            replace hks := hks.on hA11
            replace hAa := hAa.on hA11
            replace hAb := hAb.on hA11
            replace ra := ra.on hA11
            have hw12 : Below w.heap.size w (v4.alloc (.cells #[.int .i64 0, .slice Ab 0 cAb] 24)) := hw10.trans (hA11.mono hw10.size)
            clear hw10
            clear hA11
            obtain ⟨cra0_5, cra1_5⟩ := ra.two
            have rb : RowAt (v4.alloc (.cells #[.int .i64 0, .slice Ab 0 cAb] 24)) (v4.heap.size) 24 [.int .i64 0, .slice Ab 0 cAb] := rb_
            clear rb_
            obtain ⟨crb0_6, crb1_6⟩ := rb.two
            go_wp2_with fail
            go_roundw
            case rel => exact ⟨j + 1, by omega, by go_num, hks, hw12⟩
            case measure => simp [intOf]; omega
        · have hee1 : (e1 == 0) = false := by simpa using he1
          have hne1 : (e1 != 0) = true := by simpa using he1
          subst hN1
          subst hon1
          rcases hc2 with ⟨he2, r2, hk2, hl2⟩ | ⟨he2, hN2, hon2⟩
          · subst he2
            have HL2 := Lib.hid hl2
            have HR2 := Lib.hid r2
            have HE2 : Hid (argErr (rightB N2 on2) = 0) := by simp [argErr, r2, Hid]
            have l29 := small_len (l := on2) (by have := right_len' r2; omega)
            subst hk2
            clear hl2 r2
            go_wp2_with fail
            with_reducible refine (Unlist_eq T N2 0 e1 [] _ HU1.out (by omega)).mono ?_
            rintro e v1 ⟨Aa, cAa, rfl, hAa, hB1⟩
            replace hks := hks.on hB1
            have hw2 : Below w.heap.size w (v1) := hbw.trans (hB1.mono hbw.size)
            clear hbw
            clear hB1
            simp only [List.length_nil] at hAa ⊢
            have hA3 : Below (v1).heap.size (v1) (v1.alloc (.cells #[.int .i64 0, .slice Aa 0 cAa] 24)) := (Below.refl _ _).alloc (Nat.le_refl _) _
            have ra_ := RowAt.new (v1) 24 #[.int .i64 0, .slice Aa 0 cAa]
            replace hks := hks.on hA3
            replace hAa := hAa.on hA3
            have hw4 : Below w.heap.size w (v1.alloc (.cells #[.int .i64 0, .slice Aa 0 cAa] 24)) := hw2.trans (hA3.mono hw2.size)
            clear hw2
            clear hA3
            have ra : RowAt (v1.alloc (.cells #[.int .i64 0, .slice Aa 0 cAa] 24)) (v1.heap.size) 24 [.int .i64 0, .slice Aa 0 cAa] := ra_
            clear ra_
            obtain ⟨cra0_1, cra1_1⟩ := ra.two
            go_wp2_with fail
            with_reducible refine (Unvector_eq T N2 N2 0 on2 _ HU2.out).mono ?_
            rintro e v4 ⟨Ab, cAb, rfl, hAb, hB5⟩
            clear cra0_1 cra1_1
            replace hks := hks.on hB5
            replace hAa := hAa.on hB5
            replace ra := ra.on hB5
            have hw6 : Below w.heap.size w (v4) := hw4.trans (hB5.mono hw4.size)
            clear hw4
            clear hB5
            obtain ⟨cra0_2, cra1_2⟩ := ra.two
            have hA7 : Below (v4).heap.size (v4) (v4.alloc (.cells #[.int .i64 N2, .slice Ab on2.length cAb] 24)) := (Below.refl _ _).alloc (Nat.le_refl _) _
            have rb_ := RowAt.new (v4) 24 #[.int .i64 N2, .slice Ab on2.length cAb]
            replace hks := hks.on hA7
            replace hAa := hAa.on hA7
            replace hAb := hAb.on hA7
            replace ra := ra.on hA7
            have hw8 : Below w.heap.size w (v4.alloc (.cells #[.int .i64 N2, .slice Ab on2.length cAb] 24)) := hw6.trans (hA7.mono hw6.size)
            clear hw6
            clear hA7
            obtain ⟨cra0_3, cra1_3⟩ := ra.two
            have rb : RowAt (v4.alloc (.cells #[.int .i64 N2, .slice Ab on2.length cAb] 24)) (v4.heap.size) 24 [.int .i64 N2, .slice Ab on2.length cAb] := rb_
            clear rb_
            obtain ⟨crb0_4, crb1_4⟩ := rb.two
            go_wp2_with fail
            with_reducible refine (Vector_eq _ N2 on2 _ T 0 HL2.out HE2.out hAb l29).mono ?_
            rintro e v5 ⟨rfl, hB9⟩
            clear cra0_2 cra1_2 cra0_3 cra1_3 crb0_4 crb1_4
            replace hks := hks.on hB9
            replace hAa := hAa.on hB9
            replace hAb := hAb.on hB9
            replace ra := ra.on hB9
            replace rb := rb.on hB9
            have hw10 : Below w.heap.size w (v5) := hw8.trans (hB9.mono hw8.size)
            clear hw8
            clear hB9
            obtain ⟨cra0_5, cra1_5⟩ := ra.two
            obtain ⟨crb0_6, crb1_6⟩ := rb.two
            go_wp2_with fail
            with_reducible refine (Right_eq _ N2 on2 _ true HR2.out hAb l29).mono ?_
            rintro e v6 ⟨rfl, hB11⟩
            clear cra0_5 cra1_5 crb0_6 crb1_6
            replace hks := hks.on hB11
            replace hAa := hAa.on hB11
            replace hAb := hAb.on hB11
            replace ra := ra.on hB11
            replace rb := rb.on hB11
            have hw12 : Below w.heap.size w (v6) := hw10.trans (hB11.mono hw10.size)
            clear hw10
            clear hB11
            obtain ⟨cra0_7, cra1_7⟩ := ra.two
            obtain ⟨crb0_8, crb1_8⟩ := rb.two
            go_wp2_with fail
            go_roundw
            case rel => exact ⟨j + 1, by omega, by go_num, hks, hw12⟩
            case measure => simp [intOf]; omega
          · have hee2 : (e2 == 0) = false := by simpa using he2
            have hne2 : (e2 != 0) = true := by simpa using he2
            subst hN2
            subst hon2
            go_wp2_with fail
            with_reducible refine (Unlist_eq T k 0 e1 [] _ HU1.out (by omega)).mono ?_
            rintro e v1 ⟨Aa, cAa, rfl, hAa, hB1⟩
            replace hks := hks.on hB1
            have hw2 : Below w.heap.size w (v1) := hbw.trans (hB1.mono hbw.size)
            clear hbw
            clear hB1
            simp only [List.length_nil] at hAa ⊢
            have hA3 : Below (v1).heap.size (v1) (v1.alloc (.cells #[.int .i64 0, .slice Aa 0 cAa] 24)) := (Below.refl _ _).alloc (Nat.le_refl _) _
            have ra_ := RowAt.new (v1) 24 #[.int .i64 0, .slice Aa 0 cAa]
            replace hks := hks.on hA3
            replace hAa := hAa.on hA3
            have hw4 : Below w.heap.size w (v1.alloc (.cells #[.int .i64 0, .slice Aa 0 cAa] 24)) := hw2.trans (hA3.mono hw2.size)
            clear hw2
            clear hA3
            have ra : RowAt (v1.alloc (.cells #[.int .i64 0, .slice Aa 0 cAa] 24)) (v1.heap.size) 24 [.int .i64 0, .slice Aa 0 cAa] := ra_
            clear ra_
            obtain ⟨cra0_1, cra1_1⟩ := ra.two
            go_wp2_with fail
            with_reducible refine (Unvector_eq T k 0 e2 [] _ HU2.out).mono ?_
            rintro e v4 ⟨Ab, cAb, rfl, hAb, hB5⟩
            clear cra0_1 cra1_1
            replace hks := hks.on hB5
            replace hAa := hAa.on hB5
            replace ra := ra.on hB5
            have hw6 : Below w.heap.size w (v4) := hw4.trans (hB5.mono hw4.size)
            clear hw4
            clear hB5
            obtain ⟨cra0_2, cra1_2⟩ := ra.two
            simp only [List.length_nil] at hAb ⊢
            have hA7 : Below (v4).heap.size (v4) (v4.alloc (.cells #[.int .i64 0, .slice Ab 0 cAb] 24)) := (Below.refl _ _).alloc (Nat.le_refl _) _
            have rb_ := RowAt.new (v4) 24 #[.int .i64 0, .slice Ab 0 cAb]
            replace hks := hks.on hA7
            replace hAa := hAa.on hA7
            replace hAb := hAb.on hA7
            replace ra := ra.on hA7
            have hw8 : Below w.heap.size w (v4.alloc (.cells #[.int .i64 0, .slice Ab 0 cAb] 24)) := hw6.trans (hA7.mono hw6.size)
            clear hw6
            clear hA7
            obtain ⟨cra0_3, cra1_3⟩ := ra.two
            have rb : RowAt (v4.alloc (.cells #[.int .i64 0, .slice Ab 0 cAb] 24)) (v4.heap.size) 24 [.int .i64 0, .slice Ab 0 cAb] := rb_
            clear rb_
            obtain ⟨crb0_4, crb1_4⟩ := rb.two
            go_wp2_with fail
            go_roundw
            case rel => exact ⟨j + 1, by omega, by go_num, hks, hw8⟩
            case measure => simp [intOf]; omega
      · obtain rfl : j = 3 := by omega
        go_wp2_with fail
        go_ret
        exact ⟨rfl, hbw⟩

theorem bforms_calls (a0 : ByteArray) (w0 : a0.size ≤ maxLen) (a1 : Int) (w1 : (Lit.int .i64 a1).wf = true) (w : World) :
    Calls Try.prog 5 #[.string a0, .int .i64 a1] w fun e w' => e = .returned (.bool true) ∧ Below w.heap.size w w' :=
  bforms_walk a0 a1 w w0 (bounds_i64 w1)
end Go.Proofs.Ytcdldceeiacopaa
