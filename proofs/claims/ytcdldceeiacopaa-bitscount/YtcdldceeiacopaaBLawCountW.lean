/- The walk of BitsCount. -/
import Derived.Test.YtcdldceeiacopaaBitR
import Derived.OpenShut
namespace Go.Proofs.Ytcdldceeiacopaa
open Go.RowKit Go.Shelf

set_option maxHeartbeats 4000000 in
set_option maxRecDepth 100000 in
theorem bcount_walk (n : Int) (raw : List Int) (v : Value) (w : World) (hv : Ints w w.heap.size v raw) (hn : I64 n) (hr : ∀ r ∈ raw, I64 r) :
    Calls Try.prog 8 #[.int .i64 n, v] w fun e w' => e = .returned (.bool true) ∧ Below w.heap.size w w' := by
  obtain ⟨Av, cv, rfl, -⟩ := hv.form
  obtain ⟨P, hP, hP2⟩ := pick_nat n 200 (by omega)
  have ra := pickSet_right P raw (by omega)
  have la := pickSet_length P raw (by omega)
  have BA := fun W (h : Ints W W.heap.size (.slice Av raw.length cv) raw) => Bits_eq n 200 raw _ W P hP h hn hr (by omega) (by omega)
  clear hP
  generalize pickSet P raw = a at *
  have la9 := small_len (l := a) (by omega)
  have r0 : rightB P [] = true := (rightB_iff _ _).2 ⟨⟨by omega, by omega⟩, by simp, by simp⟩
  obtain ⟨u, hu1, ru, hmu⟩ := union_of P a [(P, [])] ra (by simp [likeB, r0])
  have eua : u = a := right_ext ru ra (fun z => by rw [hmu]; simp)
  rw [eua] at hu1
  clear eua hmu ru
  obtain ⟨S, hS⟩ : ∃ S : ByteArray, (⟨(lstOf P a).toArray⟩ : ByteArray) = S := ⟨_, rfl⟩
  obtain ⟨V, hV⟩ : ∃ V : ByteArray, (⟨(vctOf P a).toArray⟩ : ByteArray) = V := ⟨_, rfl⟩
  have lS : S.data.toList = listOf P a := by rw [← hS]; simp [lstOf, ra]
  have lV : V.data.toList = vecOf P a := by rw [← hV]; simp [vctOf, ra]
  have sS9 : S.size ≤ 1000 := by rw [← bytes_length, lS, listOf_length]; omega
  have sV9 : V.size ≤ 1000 := by rw [← bytes_length, lV, vecOf_length]; omega
  have CS : ∀ W, Calls Try.prog 32 #[.string S] W fun e w' => e = .returned (.int .i64 ((a.length : Int) + 1)) ∧ W = w' := fun W => by
    have h := set_any S W (by omega)
    rw [lS, onsOf_listOf ra] at h
    simpa using h
  have CV : ∀ W, Calls Try.prog 32 #[.string V] W fun e w' => e = .returned (.int .i64 (a.length : Int)) ∧ W = w' := fun W => by
    have h := set_any V W (by omega)
    rw [lV, onsOf_vecOf ra] at h
    exact h
  have HeS : Hid (argErr (rightB P a) = 0) := by simp [argErr, ra, Hid]
  have HSA : Hid (sameB P a P a = true) := by simp [sameB, Hid]
  have HD : Hid (disjOf P a P [] = true) := (disj_of ra r0).2 (by simp)
  have HSB : Hid (subOf P [] P a = true) := (sub_of r0 ra).2 (by simp)
  have HU1 := Lib.hid hu1
  have HhS := Lib.hid hS
  have HhV := Lib.hid hV
  clear hu1 hS hV lS lV ra r0
  go_enter Try.func8, Try.ntmps8
  go_wp2_with fail
  with_reducible refine (awake_any _).mono ?_
  rintro e w1 ⟨rfl, hB1⟩
  replace hv := hv.on hB1
  have hw2 : Below w.heap.size w (w1) := hB1
  clear hB1
  go_wp2_with fail
  with_reducible refine (BA _ hv).mono ?_
  rintro e w2 ⟨Aa, cAa, rfl, hAa, hB3⟩
  replace hv := hv.on hB3
  have hw4 : Below w.heap.size w (w2) := hw2.trans (hB3.mono hw2.size)
  clear hw2
  clear hB3
  have hA5 : Below (w2).heap.size (w2) (w2.alloc (.cells #[.int .i64 (P : Int), .slice Aa a.length cAa] 24)) := (Below.refl _ _).alloc (Nat.le_refl _) _
  have ra_ := RowAt.new (w2) 24 #[.int .i64 (P : Int), .slice Aa a.length cAa]
  replace hv := hv.on hA5
  replace hAa := hAa.on hA5
  have hw6 : Below w.heap.size w (w2.alloc (.cells #[.int .i64 (P : Int), .slice Aa a.length cAa] 24)) := hw4.trans (hA5.mono hw4.size)
  clear hw4
  clear hA5
  have ra : RowAt (w2.alloc (.cells #[.int .i64 (P : Int), .slice Aa a.length cAa] 24)) (w2.heap.size) 24 [.int .i64 (P : Int), .slice Aa a.length cAa] := ra_
  clear ra_
  obtain ⟨cra0_1, cra1_1⟩ := ra.two
  go_wp2_with fail
  with_reducible refine (List_eq _ P a _ S 0 HhS.out HeS.out hAa la9).mono ?_
  rintro e w3 ⟨rfl, hB7⟩
  clear cra0_1 cra1_1
  replace hv := hv.on hB7
  replace hAa := hAa.on hB7
  replace ra := ra.on hB7
  have hw8 : Below w.heap.size w (w3) := hw6.trans (hB7.mono hw6.size)
  clear hw6
  clear hB7
  obtain ⟨cra0_2, cra1_2⟩ := ra.two
  go_wp2_with fail
  with_reducible refine (Vector_eq _ P a _ V 0 HhV.out HeS.out hAa la9).mono ?_
  rintro e w4 ⟨rfl, hB9⟩
  clear cra0_2 cra1_2
  replace hv := hv.on hB9
  replace hAa := hAa.on hB9
  replace ra := ra.on hB9
  have hw10 : Below w.heap.size w (w4) := hw8.trans (hB9.mono hw8.size)
  clear hw8
  clear hB9
  obtain ⟨cra0_3, cra1_3⟩ := ra.two
  have hm_ := BtRow.one (n := (P : Int)) (on := []) (Elems.nil (Value.int .i64) (w4) _) 24 (w4.heap.size) (by simp)
  have hA11 : Below (w4).heap.size (w4) (w4.alloc (.cells #[.int .i64 (P : Int), .slice none 0 0] 24)) := (Below.refl _ _).alloc (Nat.le_refl _) _
  replace hv := hv.on hA11
  replace hAa := hAa.on hA11
  replace ra := ra.on hA11
  have hw12 : Below w.heap.size w (w4.alloc (.cells #[.int .i64 (P : Int), .slice none 0 0] 24)) := hw10.trans (hA11.mono hw10.size)
  clear hw10
  clear hA11
  obtain ⟨cra0_4, cra1_4⟩ := ra.two
  go_wp2_with fail
  with_reducible refine (Union_eq _ (P : Int) a _ [((P : Int), [])] (P : Int) 0 a _ HU1.out hAa hm_ la9 (by simp) (by simp [maxLen])).mono ?_
  rintro e w5 ⟨Au, cAu, rfl, hAu, hB13⟩
  clear cra0_3 cra1_3 cra0_4 cra1_4
  replace hv := hv.on hB13
  replace hAa := hAa.on hB13
  replace ra := ra.on hB13
  have hw14 : Below w.heap.size w (w5) := hw12.trans (hB13.mono hw12.size)
  clear hw12
  clear hB13
  obtain ⟨cra0_5, cra1_5⟩ := ra.two
  clear hm_
  have hA15 : Below (w5).heap.size (w5) (w5.alloc (.cells #[.int .i64 (P : Int), .slice Au a.length cAu] 24)) := (Below.refl _ _).alloc (Nat.le_refl _) _
  have ru_ := RowAt.new (w5) 24 #[.int .i64 (P : Int), .slice Au a.length cAu]
  replace hv := hv.on hA15
  replace hAa := hAa.on hA15
  replace hAu := hAu.on hA15
  replace ra := ra.on hA15
  have hw16 : Below w.heap.size w (w5.alloc (.cells #[.int .i64 (P : Int), .slice Au a.length cAu] 24)) := hw14.trans (hA15.mono hw14.size)
  clear hw14
  clear hA15
  obtain ⟨cra0_6, cra1_6⟩ := ra.two
  have ru : RowAt (w5.alloc (.cells #[.int .i64 (P : Int), .slice Au a.length cAu] 24)) (w5.heap.size) 24 [.int .i64 (P : Int), .slice Au a.length cAu] := ru_
  clear ru_
  obtain ⟨cru0_7, cru1_7⟩ := ru.two
  go_wp2_with fail
  obtain ⟨W0, hW0⟩ : ∃ W0, W0 = w5.alloc (.cells #[.int .i64 (P : Int), .slice Au a.length cAu] 24) := ⟨_, rfl⟩
  rw [← hW0] at hAa hAu ra ru hw16 ⊢
  have xa0 := ra.later 0 _ rfl
  have xa1 := ra.later 1 _ rfl
  have xu0 := ru.later 0 _ rfl
  have xu1 := ru.later 1 _ rfl
  clear hW0 cra0_5 cra1_5 cra0_6 cra1_6 cru0_7 cru1_7
  refine wp_region_later (by kernel_rfl) (by kernel_rfl) ?_
  repeat (go_big_quiet_step (first
    | (go_at_call_of 32 (Value.string S); exact later_same (CS _))
    | (go_at_call_of 32 (Value.string V); exact later_same (CV _))
    | (go_at_call 22; rename_i p; exact later_of (Same_eq _ _ P P a a _ true HSA.out (hAu.on p.h) (hAa.on p.h) la9 la9))
    | (go_at_call 23; rename_i p; exact later_of (Disjoint_eq _ _ P P a [] _ true HD.out (hAa.on p.h) (bt_nil _ _) la9 (by simp)))
    | (go_at_call 25; rename_i p; exact later_of (Subset_eq _ _ P P [] a _ true HSB.out (bt_nil _ _) (hAa.on p.h) (by simp) la9))))
  refine wpQuiet_nil ?_
  intro _ hw'
  obtain ⟨pq, rfl⟩ := hw'
  go_wp2_with fail
  go_ret
  exact ⟨rfl, hw16.trans (pq.h.mono hw16.size)⟩

theorem bcount_calls (a0 : Int) (w0 : (Lit.int .i64 a0).wf = true) (xs1 : List Int) (v1 : Value) {w : World} (s1 : Ints w w.heap.size v1 xs1) (b1 : ∀ x ∈ xs1, -9223372036854775808 ≤ x ∧ x ≤ 9223372036854775807) (_ : xs1.length ≤ maxLen) :
    Calls Try.prog 8 #[.int .i64 a0, v1] w fun e w' => e = .returned (.bool true) ∧ Below w.heap.size w w' :=
  bcount_walk a0 xs1 v1 w s1 (bounds_i64 w0) b1
end Go.Proofs.Ytcdldceeiacopaa
