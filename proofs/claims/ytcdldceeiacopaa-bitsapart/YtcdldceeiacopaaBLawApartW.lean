/- The walk of BitsApart. -/
import Derived.Test.YtcdldceeiacopaaBitR
import Derived.OpenShut
namespace Go.Proofs.Ytcdldceeiacopaa
open Go.RowKit Go.Shelf

theorem disj_comm {P : Nat} {a b : List Int} (ha : rightB P a = true) (hb : rightB P b = true) : disjOf P b P a = disjOf P a P b := by
  apply Bool.eq_iff_iff.2
  rw [disj_of hb ha, disj_of ha hb]
  exact ⟨fun h x hx hy => h x hy hx, fun h x hx hy => h x hy hx⟩
theorem disj_len {P : Nat} {u a b : List Int} (hu : rightB P u = true) (ha : rightB P a = true) (hb : rightB P b = true) (h : ∀ x, x ∈ u ↔ (x ∈ a ∨ x ∈ b)) : (((u.length : Int) == (a.length : Int) + (b.length : Int)) = disjOf P a P b) := by
  have hl := union_len ((rightB_iff _ _).1 hu).2.1 ((rightB_iff _ _).1 ha).2.1 ((rightB_iff _ _).1 hb).2.1 h
  apply Bool.eq_iff_iff.2
  rw [disj_of ha hb]
  simp only [beq_iff_eq]
  constructor
  · intro e x hx hy
    have h0 : (bothOf a b).length = 0 := by omega
    have h1 : x ∈ bothOf a b := by simp [bothOf, hx, hy]
    rw [List.eq_nil_of_length_eq_zero h0] at h1
    cases h1
  · intro h
    have h0 : bothOf a b = [] := by
      unfold bothOf
      rw [List.filter_eq_nil_iff]
      intro x hx
      simpa using h x hx
    rw [h0] at hl
    simp at hl
    omega
theorem sub_same {P : Nat} {a b : List Int} (ha : rightB P a = true) (hb : rightB P b = true) : sameB P a P b = (subOf P a P b && subOf P b P a) := by
  apply Bool.eq_iff_iff.2
  simp only [Bool.and_eq_true, sub_of ha hb, sub_of hb ha, sameB, decide_eq_true_eq, true_and]
  constructor
  · rintro rfl; exact ⟨fun x h => h, fun x h => h⟩
  · rintro ⟨h1, h2⟩; exact right_ext ha hb (fun x => ⟨h1 x, h2 x⟩)
theorem sub_union {P : Nat} {u a b : List Int} (hu : rightB P u = true) (ha : rightB P a = true) (hb : rightB P b = true) (h : ∀ x, x ∈ u ↔ (x ∈ a ∨ x ∈ b)) : sameB P u P b = subOf P a P b := by
  apply Bool.eq_iff_iff.2
  simp only [sub_of ha hb, sameB, Bool.and_eq_true, decide_eq_true_eq, true_and]
  constructor
  · rintro rfl x hx; exact (h x).2 (.inl hx)
  · intro h1
    refine right_ext hu hb (fun x => ?_)
    rw [h]
    exact ⟨fun h2 => h2.elim (h1 x) id, .inr⟩

set_option maxHeartbeats 4000000 in
set_option maxRecDepth 100000 in
theorem bapart_walk (n : Int) (l1 l2 : List Int) (v1 v2 : Value) (w : World) (hv1 : Ints w w.heap.size v1 l1) (hv2 : Ints w w.heap.size v2 l2) (hn : I64 n) (hr1 : ∀ r ∈ l1, I64 r) (hr2 : ∀ r ∈ l2, I64 r) :
    Calls Try.prog 7 #[.int .i64 n, v1, v2] w fun e w' => e = .returned (.bool true) ∧ Below w.heap.size w w' := by
  obtain ⟨A1, c1, rfl, -⟩ := hv1.form
  obtain ⟨A2, c2, rfl, -⟩ := hv2.form
  obtain ⟨P, hP, hP2⟩ := pick_nat n 60 (by omega)
  have ra := pickSet_right P l1 (by omega)
  have rb := pickSet_right P l2 (by omega)
  have la := pickSet_length P l1 (by omega)
  have lb := pickSet_length P l2 (by omega)
  have B1 := fun W (h : Ints W W.heap.size (.slice A1 l1.length c1) l1) => Bits_eq n 60 l1 _ W P hP h hn hr1 (by omega) (by omega)
  have B2 := fun W (h : Ints W W.heap.size (.slice A2 l2.length c2) l2) => Bits_eq n 60 l2 _ W P hP h hn hr2 (by omega) (by omega)
  clear hP
  generalize pickSet P l1 = a at *
  generalize pickSet P l2 = b at *
  obtain ⟨u, hu1, ru, hmu⟩ := union_of P a [(P, b)] ra (by simp [likeB, rb])
  simp only [List.mem_cons, List.not_mem_nil, or_false, exists_eq_left] at hmu
  have la9 := small_len (l := a) (by omega)
  have lb9 := small_len (l := b) (by omega)
  have lu9 := small_len (l := u) (by have := right_len ru (by omega); omega)
  have lu2 := right_len ru (by omega)
  have hcm := disj_comm ra rb
  have hdl := disj_len ru ra rb hmu
  have hsm := sub_same ra rb
  have hsu := sub_union ru ra rb hmu
  obtain ⟨d, hd⟩ : ∃ d, disjOf P a P b = d := ⟨_, rfl⟩
  rw [hd] at hcm hdl
  obtain ⟨s2, hs2⟩ : ∃ s2, subOf P b P a = s2 := ⟨_, rfl⟩
  rw [hs2] at hsm
  have hu0 : unionOf P a [((P : Int) + 1, a)] = (0, [], 1) := unionOf_no _ _ _ ⟨_, List.mem_singleton.2 rfl, by simp [likeB]; intro _; omega⟩
  have hd0 : disjOf P a ((P : Int) + 1) a = false := by simp [disjOf, alikeB]; intros; omega
  have hs0 : subOf P a ((P : Int) + 1) a = false := by simp [subOf, alikeB]; intros; omega
  have hHas : ∀ i : Int, hasOf P u i = (hasOf P a i || hasOf P b i) := fun i => by
    simp [hasOf, ra, rb, ru, hmu]
  have HU1 := Lib.hid hu1
  have HU0 := Lib.hid hu0
  have HD := Lib.hid hd
  have HDC := Lib.hid hcm
  have HS2 := Lib.hid hs2
  have HSM := Lib.hid hsm
  have HSU := Lib.hid hsu
  have HD0 := Lib.hid hd0
  have HS0 := Lib.hid hs0
  have HHas := Lib.hid hHas
  clear hu1 hu0 hd hcm hs2 hsm hsu hd0 hs0 hHas hmu ra rb ru
  go_enter Try.func7, Try.ntmps7
  go_wp2_with fail
  with_reducible refine (awake_any _).mono ?_
  rintro e w1 ⟨rfl, hB1⟩
  replace hv1 := hv1.on hB1
  replace hv2 := hv2.on hB1
  have hw2 : Below w.heap.size w (w1) := hB1
  clear hB1
  go_wp2_with fail
  with_reducible refine (B1 _ hv1).mono ?_
  rintro e w2 ⟨Aa, cAa, rfl, hAa, hB3⟩
  replace hv1 := hv1.on hB3
  replace hv2 := hv2.on hB3
  have hw4 : Below w.heap.size w (w2) := hw2.trans (hB3.mono hw2.size)
  clear hw2
  clear hB3
  have hA5 : Below (w2).heap.size (w2) (w2.alloc (.cells #[.int .i64 (P : Int), .slice Aa a.length cAa] 24)) := (Below.refl _ _).alloc (Nat.le_refl _) _
  have ra_ := RowAt.new (w2) 24 #[.int .i64 (P : Int), .slice Aa a.length cAa]
  replace hv1 := hv1.on hA5
  replace hv2 := hv2.on hA5
  replace hAa := hAa.on hA5
  have hw6 : Below w.heap.size w (w2.alloc (.cells #[.int .i64 (P : Int), .slice Aa a.length cAa] 24)) := hw4.trans (hA5.mono hw4.size)
  clear hw4
  clear hA5
  have ra : RowAt (w2.alloc (.cells #[.int .i64 (P : Int), .slice Aa a.length cAa] 24)) (w2.heap.size) 24 [.int .i64 (P : Int), .slice Aa a.length cAa] := ra_
  clear ra_
  obtain ⟨cra0_1, cra1_1⟩ := ra.two
  go_wp2_with fail
  with_reducible refine (B2 _ hv2).mono ?_
  rintro e w3 ⟨Ab, cAb, rfl, hAb, hB7⟩
  clear cra0_1 cra1_1
  replace hv1 := hv1.on hB7
  replace hv2 := hv2.on hB7
  replace hAa := hAa.on hB7
  replace ra := ra.on hB7
  have hw8 : Below w.heap.size w (w3) := hw6.trans (hB7.mono hw6.size)
  clear hw6
  clear hB7
  obtain ⟨cra0_2, cra1_2⟩ := ra.two
  have hA9 : Below (w3).heap.size (w3) (w3.alloc (.cells #[.int .i64 (P : Int), .slice Ab b.length cAb] 24)) := (Below.refl _ _).alloc (Nat.le_refl _) _
  have rb_ := RowAt.new (w3) 24 #[.int .i64 (P : Int), .slice Ab b.length cAb]
  replace hv1 := hv1.on hA9
  replace hv2 := hv2.on hA9
  replace hAa := hAa.on hA9
  replace hAb := hAb.on hA9
  replace ra := ra.on hA9
  have hw10 : Below w.heap.size w (w3.alloc (.cells #[.int .i64 (P : Int), .slice Ab b.length cAb] 24)) := hw8.trans (hA9.mono hw8.size)
  clear hw8
  clear hA9
  obtain ⟨cra0_3, cra1_3⟩ := ra.two
  have rb : RowAt (w3.alloc (.cells #[.int .i64 (P : Int), .slice Ab b.length cAb] 24)) (w3.heap.size) 24 [.int .i64 (P : Int), .slice Ab b.length cAb] := rb_
  clear rb_
  obtain ⟨crb0_4, crb1_4⟩ := rb.two
  have hm_ := BtRow.one (n := (P : Int)) hAb.ints 24 (w3.heap.size + 1) (by simp)
  have hA11 : Below (w3.alloc (.cells #[.int .i64 (P : Int), .slice Ab b.length cAb] 24)).heap.size (w3.alloc (.cells #[.int .i64 (P : Int), .slice Ab b.length cAb] 24)) ((w3.alloc (.cells #[.int .i64 (P : Int), .slice Ab b.length cAb] 24)).alloc (.cells #[.int .i64 (P : Int), .slice Ab b.length cAb] 24)) := (Below.refl _ _).alloc (Nat.le_refl _) _
  replace hv1 := hv1.on hA11
  replace hv2 := hv2.on hA11
  replace hAa := hAa.on hA11
  replace hAb := hAb.on hA11
  replace ra := ra.on hA11
  replace rb := rb.on hA11
  have hw12 : Below w.heap.size w ((w3.alloc (.cells #[.int .i64 (P : Int), .slice Ab b.length cAb] 24)).alloc (.cells #[.int .i64 (P : Int), .slice Ab b.length cAb] 24)) := hw10.trans (hA11.mono hw10.size)
  clear hw10
  clear hA11
  obtain ⟨cra0_5, cra1_5⟩ := ra.two
  obtain ⟨crb0_6, crb1_6⟩ := rb.two
  go_wp2_with fail
  with_reducible refine (Union_eq _ (P : Int) a _ [((P : Int), b)] (P : Int) 0 u _ HU1.out hAa hm_ la9 (by simp; exact lb9) (by simp [maxLen])).mono ?_
  rintro e w4 ⟨Au, cAu, rfl, hAu, hB13⟩
  clear cra0_2 cra1_2 cra0_3 cra1_3 crb0_4 crb1_4 cra0_5 cra1_5 crb0_6 crb1_6
  replace hv1 := hv1.on hB13
  replace hv2 := hv2.on hB13
  replace hAa := hAa.on hB13
  replace hAb := hAb.on hB13
  replace ra := ra.on hB13
  replace rb := rb.on hB13
  have hw14 : Below w.heap.size w (w4) := hw12.trans (hB13.mono hw12.size)
  clear hw12
  clear hB13
  obtain ⟨cra0_7, cra1_7⟩ := ra.two
  obtain ⟨crb0_8, crb1_8⟩ := rb.two
  clear hm_
  have hA15 : Below (w4).heap.size (w4) (w4.alloc (.cells #[.int .i64 (P : Int), .slice Au u.length cAu] 24)) := (Below.refl _ _).alloc (Nat.le_refl _) _
  have ru_ := RowAt.new (w4) 24 #[.int .i64 (P : Int), .slice Au u.length cAu]
  replace hv1 := hv1.on hA15
  replace hv2 := hv2.on hA15
  replace hAa := hAa.on hA15
  replace hAb := hAb.on hA15
  replace hAu := hAu.on hA15
  replace ra := ra.on hA15
  replace rb := rb.on hA15
  have hw16 : Below w.heap.size w (w4.alloc (.cells #[.int .i64 (P : Int), .slice Au u.length cAu] 24)) := hw14.trans (hA15.mono hw14.size)
  clear hw14
  clear hA15
  obtain ⟨cra0_9, cra1_9⟩ := ra.two
  obtain ⟨crb0_10, crb1_10⟩ := rb.two
  have ru : RowAt (w4.alloc (.cells #[.int .i64 (P : Int), .slice Au u.length cAu] 24)) (w4.heap.size) 24 [.int .i64 (P : Int), .slice Au u.length cAu] := ru_
  clear ru_
  obtain ⟨cru0_11, cru1_11⟩ := ru.two
  obtain ⟨s1, hs1⟩ : ∃ s1, subOf P a P b = s1 := ⟨_, rfl⟩
  have HS1 := Lib.hid hs1
  rw [hs1] at HSM HSU
  clear hs1
  have hsame : Hid (sameB P a P b = (s1 && s2)) := HSM
  go_wp2_with fail
  obtain ⟨W0, hW0⟩ : ∃ W0, W0 = w4.alloc (.cells #[.int .i64 (P : Int), .slice Au u.length cAu] 24) := ⟨_, rfl⟩
  rw [← hW0] at hAa hAb hAu ra rb ru hw16 ⊢
  have xa0 := ra.later 0 _ rfl
  have xa1 := ra.later 1 _ rfl
  have xb0 := rb.later 0 _ rfl
  have xb1 := rb.later 1 _ rfl
  have xu0 := ru.later 0 _ rfl
  have xu1 := ru.later 1 _ rfl
  clear hW0 cra0_7 cra1_7 crb0_8 crb1_8 cra0_9 cra1_9 crb0_10 crb1_10 cru0_11 cru1_11
  cases s1
  all_goals
    refine wp_region_later (by kernel_rfl) (by kernel_rfl) ?_
    repeat (go_big_quiet_step (first
      | (go_at_call 23; rename_i p; with_reducible exact later_of (Disjoint_eq _ _ P P a b _ d HD.out (hAa.on p.h) (hAb.on p.h) la9 lb9))
      | (go_at_call 23; rename_i p; with_reducible exact later_of (Disjoint_eq _ _ P P b a _ d HDC.out (hAb.on p.h) (hAa.on p.h) lb9 la9))
      | (go_at_call 25; rename_i p; with_reducible exact later_of (Subset_eq _ _ P P a b _ _ HS1.out (hAa.on p.h) (hAb.on p.h) la9 lb9))
      | (go_at_call 25; rename_i p; with_reducible exact later_of (Subset_eq _ _ P P b a _ s2 HS2.out (hAb.on p.h) (hAa.on p.h) lb9 la9))
      | (go_at_call 22; rename_i p; with_reducible exact later_of (Same_eq _ _ P P a b _ _ hsame.out (hAa.on p.h) (hAb.on p.h) la9 lb9))))
    refine wpQuiet_nil ?_
    intro _ hw'
    obtain ⟨pq, rfl⟩ := hw'
    have hb1 := pq.h
    generalize pq.W = W1 at hb1 ⊢
    clear pq xa0 xa1 xb0 xb1 xu0 xu1
    replace hAa := hAa.on hb1
    replace hAb := hAb.on hb1
    replace hAu := hAu.on hb1
    replace ra := ra.on hb1
    replace rb := rb.on hb1
    replace ru := ru.on hb1
    have hB1 := hw16.trans (hb1.mono hw16.size)
    clear hb1
    go_wp2_with fail
    go_loopw [12] (fun i wr => ∃ j : Nat, j ≤ P ∧ i = .int .i64 j ∧ (Bt wr (.agg #[.int .i64 (P : Int), .slice Aa a.length cAa]) P a ∧ Bt wr (.agg #[.int .i64 (P : Int), .slice Ab b.length cAb]) P b ∧ Bt wr (.agg #[.int .i64 (P : Int), .slice Au u.length cAu]) P u) ∧ (RowAt wr w2.heap.size 24 [.int .i64 (P : Int), .slice Aa a.length cAa] ∧ RowAt wr w3.heap.size 24 [.int .i64 (P : Int), .slice Ab b.length cAb] ∧ RowAt wr w4.heap.size 24 [.int .i64 (P : Int), .slice Au u.length cAu]) ∧ Below w.heap.size w wr) (fun i _ => P - (intOf i).toNat)
    case atStart => exact ⟨0, Nat.zero_le _, rfl, ⟨hAa, hAb, hAu⟩, ⟨ra, rb, ru⟩, hB1⟩
    case round =>
      clear hAa hAb hAu ra rb ru hB1
      obtain ⟨j, hj, rfl, ⟨hAa, hAb, hAu⟩, ⟨ra, rb, ru⟩, hB⟩ := hrel
      have zc := ra.cell 0
      simp only [List.getElem?_cons_zero] at zc
      by_cases hlt : j < P
      · have xa0 := ra.later 0 _ rfl
        have xa1 := ra.later 1 _ rfl
        have xb0 := rb.later 0 _ rfl
        have xb1 := rb.later 1 _ rfl
        have xu0 := ru.later 0 _ rfl
        have xu1 := ru.later 1 _ rfl
        obtain ⟨h1, hh1⟩ : ∃ h1, hasOf P a j = h1 := ⟨_, rfl⟩
        obtain ⟨h2, hh2⟩ : ∃ h2, hasOf P b j = h2 := ⟨_, rfl⟩
        have HJ : Hid (hasOf P u j = (h1 || h2)) := by rw [HHas.out, hh1, hh2]; rfl
        have H1 := Lib.hid hh1
        have H2 := Lib.hid hh2
        clear hh1 hh2
        cases h1
        all_goals
          go_wp2_with fail
          refine wp_region_later (by kernel_rfl) (by kernel_rfl) ?_
          repeat (go_big_quiet_step (first
          | (go_at_call 17; rename_i p; with_reducible exact later_of (Has_eq _ P u _ _ _ HJ.out (hAu.on p.h) lu9))
          | (go_at_call 17; rename_i p; with_reducible exact later_of (Has_eq _ P a _ _ _ H1.out (hAa.on p.h) la9))
          | (go_at_call 17; rename_i p; with_reducible exact later_of (Has_eq _ P b _ _ _ H2.out (hAb.on p.h) lb9))))
          refine wpQuiet_nil ?_
          intro _ hw'
          obtain ⟨pq, rfl⟩ := hw'
          have hb1 := pq.h
          generalize pq.W = W2 at hb1 ⊢
          clear pq xa0 xa1 xb0 xb1 xu0 xu1
          go_wp2_with fail
          go_roundw
          case rel => exact ⟨j + 1, by omega, by go_num, ⟨hAa.on hb1, hAb.on hb1, hAu.on hb1⟩, ⟨ra.on hb1, rb.on hb1, ru.on hb1⟩, hB.trans (hb1.mono hB.size)⟩
          case measure => simp [intOf]; omega
      · obtain rfl : P = j := by omega
        obtain ⟨cra0_1, cra1_1⟩ := ra.two
        obtain ⟨crb0_2, crb1_2⟩ := rb.two
        obtain ⟨cru0_3, cru1_3⟩ := ru.two
        have zi := cellA cra0_1 (.cells #[.int .i64 (P : Int), .slice Aa a.length cAa] 24)
        have hA1 : Below (wr).heap.size (wr) (wr.alloc (.cells #[.int .i64 ((P : Int) + 1), .slice Aa a.length cAa] 24)) := (Below.refl _ _).alloc (Nat.le_refl _) _
        have rc_ := RowAt.new (wr) 24 #[.int .i64 ((P : Int) + 1), .slice Aa a.length cAa]
        replace hAa := hAa.on hA1
        replace hAb := hAb.on hA1
        replace hAu := hAu.on hA1
        replace ra := ra.on hA1
        replace rb := rb.on hA1
        replace ru := ru.on hA1
        have hw2 : Below w.heap.size w (wr.alloc (.cells #[.int .i64 ((P : Int) + 1), .slice Aa a.length cAa] 24)) := hB.trans (hA1.mono hB.size)
        clear hB
        clear hA1
        obtain ⟨cra0_4, cra1_4⟩ := ra.two
        obtain ⟨crb0_5, crb1_5⟩ := rb.two
        obtain ⟨cru0_6, cru1_6⟩ := ru.two
        have rc : RowAt (wr.alloc (.cells #[.int .i64 ((P : Int) + 1), .slice Aa a.length cAa] 24)) (wr.heap.size) 24 [.int .i64 ((P : Int) + 1), .slice Aa a.length cAa] := rc_
        clear rc_
        obtain ⟨crc0_7, crc1_7⟩ := rc.two
        have hAc : Bt (wr.alloc (.cells #[.int .i64 ((P : Int) + 1), .slice Aa a.length cAa] 24)) (.agg #[.int .i64 ((P : Int) + 1), .slice Aa a.length cAa]) ((P : Int) + 1) a := ⟨_, rfl, hAa.ints⟩
        have hm_ := BtRow.one (n := (P : Int) + 1) hAc.ints 24 (wr.heap.size + 1) (by simp)
        have hA3 : Below (wr.alloc (.cells #[.int .i64 ((P : Int) + 1), .slice Aa a.length cAa] 24)).heap.size (wr.alloc (.cells #[.int .i64 ((P : Int) + 1), .slice Aa a.length cAa] 24)) ((wr.alloc (.cells #[.int .i64 ((P : Int) + 1), .slice Aa a.length cAa] 24)).alloc (.cells #[.int .i64 ((P : Int) + 1), .slice Aa a.length cAa] 24)) := (Below.refl _ _).alloc (Nat.le_refl _) _
        replace hAa := hAa.on hA3
        replace hAb := hAb.on hA3
        replace hAu := hAu.on hA3
        replace hAc := hAc.on hA3
        replace ra := ra.on hA3
        replace rb := rb.on hA3
        replace ru := ru.on hA3
        replace rc := rc.on hA3
        have hw4 : Below w.heap.size w ((wr.alloc (.cells #[.int .i64 ((P : Int) + 1), .slice Aa a.length cAa] 24)).alloc (.cells #[.int .i64 ((P : Int) + 1), .slice Aa a.length cAa] 24)) := hw2.trans (hA3.mono hw2.size)
        clear hw2
        clear hA3
        obtain ⟨cra0_8, cra1_8⟩ := ra.two
        obtain ⟨crb0_9, crb1_9⟩ := rb.two
        obtain ⟨cru0_10, cru1_10⟩ := ru.two
        obtain ⟨crc0_11, crc1_11⟩ := rc.two
        go_wp2_with fail
        with_reducible refine (Union_eq _ (P : Int) a _ [((P : Int) + 1, a)] 0 1 [] _ HU0.out hAa hm_ la9 (by simp; exact la9) (by simp [maxLen])).mono ?_
        rintro e w8 ⟨Az, cAz, rfl, hAz, hB5⟩
        clear cra0_1 cra1_1 crb0_2 crb1_2 cru0_3 cru1_3 zi cra0_4 cra1_4 crb0_5 crb1_5 cru0_6 cru1_6 crc0_7 crc1_7 cra0_8 cra1_8 crb0_9 crb1_9 cru0_10 cru1_10 crc0_11 crc1_11
        replace hAa := hAa.on hB5
        replace hAb := hAb.on hB5
        replace hAu := hAu.on hB5
        replace hAc := hAc.on hB5
        replace ra := ra.on hB5
        replace rb := rb.on hB5
        replace ru := ru.on hB5
        replace rc := rc.on hB5
        have hw6 : Below w.heap.size w (w8) := hw4.trans (hB5.mono hw4.size)
        clear hw4
        clear hB5
        obtain ⟨cra0_12, cra1_12⟩ := ra.two
        obtain ⟨crb0_13, crb1_13⟩ := rb.two
        obtain ⟨cru0_14, cru1_14⟩ := ru.two
        obtain ⟨crc0_15, crc1_15⟩ := rc.two
        clear hm_ hAz
        simp only [List.length_nil]
        have hA7 : Below (w8).heap.size (w8) (w8.alloc (.cells #[.int .i64 0, .slice Az 0 cAz] 24)) := (Below.refl _ _).alloc (Nat.le_refl _) _
        replace hAa := hAa.on hA7
        replace hAb := hAb.on hA7
        replace hAu := hAu.on hA7
        replace hAc := hAc.on hA7
        replace ra := ra.on hA7
        replace rb := rb.on hA7
        replace ru := ru.on hA7
        replace rc := rc.on hA7
        have hw8 : Below w.heap.size w (w8.alloc (.cells #[.int .i64 0, .slice Az 0 cAz] 24)) := hw6.trans (hA7.mono hw6.size)
        clear hw6
        clear hA7
        obtain ⟨cra0_16, cra1_16⟩ := ra.two
        obtain ⟨crb0_17, crb1_17⟩ := rb.two
        obtain ⟨cru0_18, cru1_18⟩ := ru.two
        obtain ⟨crc0_19, crc1_19⟩ := rc.two
        go_wp2_with fail
        obtain ⟨W9, hW9⟩ : ∃ W9, W9 = w8.alloc (.cells #[.int .i64 0, .slice Az 0 cAz] 24) := ⟨_, rfl⟩
        rw [← hW9] at hAa hAb hAu hAc ra rb ru rc hw8 ⊢
        have ya0 := ra.later 0 _ rfl
        have ya1 := ra.later 1 _ rfl
        have yb0 := rb.later 0 _ rfl
        have yb1 := rb.later 1 _ rfl
        have yu0 := ru.later 0 _ rfl
        have yu1 := ru.later 1 _ rfl
        have yc0 := rc.later 0 _ rfl
        have yc1 := rc.later 1 _ rfl
        clear hW9 cra0_12 cra1_12 crb0_13 crb1_13 cru0_14 cru1_14 crc0_15 crc1_15 cra0_16 cra1_16 crb0_17 crb1_17 cru0_18 cru1_18 crc0_19 crc1_19
        refine wp_region_later (by kernel_rfl) (by kernel_rfl) ?_
        repeat (go_big_quiet_step (first
        | (go_at_call 23; rename_i p; with_reducible exact later_of (Disjoint_eq _ _ P ((P : Int) + 1) a a _ false HD0.out (hAa.on p.h) (hAc.on p.h) la9 la9))
        | (go_at_call 25; rename_i p; with_reducible exact later_of (Subset_eq _ _ P ((P : Int) + 1) a a _ false HS0.out (hAa.on p.h) (hAc.on p.h) la9 la9))
        | (go_at_call 25; rename_i p; with_reducible exact later_of (Subset_eq _ _ P P a b _ _ HS1.out (hAa.on p.h) (hAb.on p.h) la9 lb9))
        | (go_at_call 22; rename_i p; with_reducible exact later_of (Same_eq _ _ P P u b _ _ HSU.out (hAu.on p.h) (hAb.on p.h) lu9 lb9))))
        refine wpQuiet_nil ?_
        intro _ hw'
        obtain ⟨pq, rfl⟩ := hw'
        have hb1 := pq.h
        generalize pq.W = W2 at hb1 ⊢
        clear pq
        go_wp2_with fail
        go_ret
        exact ⟨rfl, hw8.trans (hb1.mono hw8.size)⟩

theorem bapart_calls (a0 : Int) (w0 : (Lit.int .i64 a0).wf = true) (xs1 : List Int) (v1 : Value) {w : World} (s1 : Ints w w.heap.size v1 xs1) (b1 : ∀ x ∈ xs1, -9223372036854775808 ≤ x ∧ x ≤ 9223372036854775807) (_ : xs1.length ≤ maxLen) (xs2 : List Int) (v2 : Value) (s2 : Ints w w.heap.size v2 xs2) (b2 : ∀ x ∈ xs2, -9223372036854775808 ≤ x ∧ x ≤ 9223372036854775807) (_ : xs2.length ≤ maxLen) :
    Calls Try.prog 7 #[.int .i64 a0, v1, v2] w fun e w' => e = .returned (.bool true) ∧ Below w.heap.size w w' :=
  bapart_walk a0 xs1 xs2 v1 v2 w s1 s2 (bounds_i64 w0) b1 b2
end Go.Proofs.Ytcdldceeiacopaa
