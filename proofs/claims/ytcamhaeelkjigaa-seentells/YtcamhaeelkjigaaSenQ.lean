/- Layer 13, the program: Add. -/
import Derived.Test.YtcamhaeelkjigaaSenY
import Derived.Test.YtcamhaeelkjigaaRegV
namespace Go.Proofs.Ytcamhaeelkjigaa
open Go.RowKit Go.Lib

theorem sConcat3_any (g c : Nat) (t : TypeId) (v1 v2 v3 : Value) (l1 l2 l3 : List Mk) (w : World) (hr : RowAt w g t [v1, v2, v3]) (h1 : Mks w w.heap.size v1 l1) (h2 : Mks w w.heap.size v2 l2) (h3 : Mks w w.heap.size v3 l3) (L : List Mk) (hL : L = l1 ++ (l2 ++ l3)) (h9 : L.length ≤ 1000000) :
    Calls Try.prog 26 #[.slice (some ⟨g, 0, none⟩) 3 c] w fun e w' => ∃ A c, e = .returned (.slice A L.length c) ∧ Mks w' w'.heap.size (.slice A L.length c) L ∧ FromOn w.heap.size (.slice A L.length c) ∧ Below w.heap.size w w' := by
  have e : catToM [(v1, l1), (v2, l2), (v3, l3)] 3 = L := by rw [hL]; simp [catToM]
  have h := sConcat_any g c t [(v1, l1), (v2, l2), (v3, l3)] w hr (fun x hx => by
    simp only [List.mem_cons, List.not_mem_nil, or_false] at hx
    rcases hx with rfl | rfl | rfl
    · exact h1
    · exact h2
    · exact h3) (by show 3 ≤ 100; decide) (by show (catToM _ 3).length ≤ _; rw [e]; exact h9)
  refine h.mono ?_
  rintro o w' ⟨v, rfl, hown, hb⟩
  have hown2 : w'.ownsRow w.heap.size 25 3 v L.length (L.flatMap markCells) := by
    have h' : w'.ownsRow w.heap.size 25 3 v (catToM [(v1, l1), (v2, l2), (v3, l3)] 3).length ((catToM [(v1, l1), (v2, l2), (v3, l3)] 3).flatMap markCells) := hown
    rwa [e] at h'
  have hf := fromOn_own hown2
  have hm := Mks.own hown2
  obtain ⟨A', c', rfl, _⟩ := hm.form
  exact ⟨A', c', rfl, hm, hf, hb⟩
theorem mks_nil_at (w : World) (B : Nat) (ad : Addr) : Mks w B (.slice (some ad) 0 0) [] := ⟨some ad, 0, rfl, ⟨Nat.le_refl _, fun h => by cases h⟩, fun h => absurd h (by simp)⟩
set_option maxHeartbeats 4000000 in
set_option maxRecDepth 100000 in
theorem sAdd_any (v : Value) (l : List Mk) (room q1 q2 q3 : Int) (w : World) (hv : Mks w w.heap.size v l) (h9 : l.length ≤ 1000000) (hr : -9223372036854775808 ≤ room ∧ room ≤ 9223372036854775807) (L : List Mk) (E : Int) (hL : addR l room (q1, q2, q3) = (L, E)) (h99 : l.length < 1000000 := by first | omega | decide) :
    Calls Try.prog 12 #[v, .int .i64 room, .agg #[.int .i64 q1, .int .i64 q2, .int .i64 q3]] w fun o w' => ∃ A c, o = .returned (.tuple #[.slice A L.length c, .int .i64 E]) ∧ Mks w' w'.heap.size (.slice A L.length c) L ∧ FromOn w.heap.size (.slice A L.length c) ∧ Below w.heap.size w w' := by
  obtain ⟨A, c, rfl, hc⟩ := hv.form
  have cR := fun W (h : Mks W W.heap.size (.slice A l.length c) l) => sRight_any _ l W h (by unfold maxLen; omega)
  have cM := fun W => sfits_any q1 q2 q3 W
  have hA := (Below.refl w.heap.size w).alloc (Nat.le_refl _) (.cells #[.int .i64 q1, .int .i64 q2, .int .i64 q3] 25)
  have q8 := RowAt.new w 25 #[.int .i64 q1, .int .i64 q2, .int .i64 q3]
  have hv2 := hv.on hA
  cases hr1 : rightMB l
  · rw [addR_arg (by rw [hr1]; rfl)] at hL
    obtain ⟨rfl, rfl⟩ := Prod.mk.inj hL
    rw [hr1] at cR
    clear hL hr1 cM
    go_enter Try.func12, Try.ntmps12
    go_upto_region 1 with (fail)
    generalize w.alloc (.cells #[.int .i64 q1, .int .i64 q2, .int .i64 q3] 25) = w1 at *
    go_wp2_with fail
    with_reducible refine (cR _ hv2).mono ?_
    rintro e w2 ⟨rfl, hb2⟩
    go_wp2_with fail
    go_ret2
    exact ⟨none, 0, rfl, Mks.nil _ _, (fun ad n c' h => by cases h), hA.trans (hb2.mono hA.size)⟩
  have hR : RightM l := of_decide_eq_true hr1
  rw [hr1] at cR
  cases hm1 : mayMB (q1, q2, q3)
  · rw [addR_arg (by rw [hm1, Bool.and_false])] at hL
    obtain ⟨rfl, rfl⟩ := Prod.mk.inj hL
    rw [hm1] at cM
    clear hL hr1 hm1
    go_enter Try.func12, Try.ntmps12
    go_upto_region 1 with (fail)
    generalize w.alloc (.cells #[.int .i64 q1, .int .i64 q2, .int .i64 q3] 25) = w1 at *
    go_wp2_with fail
    with_reducible refine (cR _ hv2).mono ?_
    rintro e w2 ⟨rfl, hb2⟩
    replace q8 := q8.on hb2
    replace hA := hA.trans (hb2.mono hA.size)
    clear hb2 cR hv hv2
    obtain ⟨f0, f1, f2⟩ : w2.cell? ⟨w.heap.size, 0, none⟩ = some (.int .i64 q1) ∧ w2.cell? ⟨w.heap.size, 1, none⟩ = some (.int .i64 q2) ∧ w2.cell? ⟨w.heap.size, 2, none⟩ = some (.int .i64 q3) := ⟨q8.cell 0, q8.cell 1, q8.cell 2⟩
    go_wp2_with fail
    with_reducible refine (cM _).mono ?_
    rintro e w3 ⟨rfl, hb3⟩
    replace hA := hA.trans (hb3.mono hA.size)
    clear hb3 cM f0 f1 f2 q8
    go_wp2_with fail
    go_ret2
    exact ⟨none, 0, rfl, Mks.nil _ _, (fun ad n c' h => by cases h), hA⟩
  rw [hm1] at cM
  have cP := fun W (h : Mks W W.heap.size (.slice A l.length c) l) => splace_any _ l q1 q2 q3 W h h9 hR
  have HL := Lib.hid hL
  have HR := Lib.hid hr1
  have HM := Lib.hid hm1
  clear hr1 hm1 hL
  go_enter Try.func12, Try.ntmps12
  go_upto_region 1 with (fail)
  generalize w.alloc (.cells #[.int .i64 q1, .int .i64 q2, .int .i64 q3] 25) = w1 at *
  go_wp2_with fail
  with_reducible refine (cR _ hv2).mono ?_
  rintro e w2 ⟨rfl, hb2⟩
  replace q8 := q8.on hb2
  replace hv2 := hv2.on hb2
  replace hA := hA.trans (hb2.mono hA.size)
  clear hb2 cR hv
  obtain ⟨f0, f1, f2⟩ : w2.cell? ⟨w.heap.size, 0, none⟩ = some (.int .i64 q1) ∧ w2.cell? ⟨w.heap.size, 1, none⟩ = some (.int .i64 q2) ∧ w2.cell? ⟨w.heap.size, 2, none⟩ = some (.int .i64 q3) := ⟨q8.cell 0, q8.cell 1, q8.cell 2⟩
  go_wp2_with fail
  with_reducible refine (cM _).mono ?_
  rintro e w3 ⟨rfl, hb3⟩
  replace q8 := q8.on hb3
  replace hv2 := hv2.on hb3
  replace hA := hA.trans (hb3.mono hA.size)
  clear hb3 cM f0 f1 f2
  obtain ⟨f0, f1, f2⟩ : w3.cell? ⟨w.heap.size, 0, none⟩ = some (.int .i64 q1) ∧ w3.cell? ⟨w.heap.size, 1, none⟩ = some (.int .i64 q2) ∧ w3.cell? ⟨w.heap.size, 2, none⟩ = some (.int .i64 q3) := ⟨q8.cell 0, q8.cell 1, q8.cell 2⟩
  go_wp2_with fail
  with_reducible refine (cP _ hv2).mono ?_
  rintro e w4 ⟨k, rfl, hP, hb4⟩
  replace q8 := q8.on hb4
  replace hv2 := hv2.on hb4
  replace hA := hA.trans (hb4.mono hA.size)
  clear hb4 cP f0 f1 f2
  have hk := hP.le
  have HI := Lib.hid hP.ins
  clear hP hR
  by_cases hin : (q1, q2, q3) ∈ l
  · have hL := HL.out
    rw [addR_twice HR.out HM.out hin] at hL
    obtain ⟨rfl, rfl⟩ := Prod.mk.inj hL
    rw [show decide ((q1, q2, q3) ∈ l) = true from decide_eq_true hin]
    clear hL hin
    go_wp2_with fail
    go_ret2
    exact ⟨none, 0, rfl, Mks.nil _ _, (fun ad n c' h => by cases h), hA⟩
  rw [show decide ((q1, q2, q3) ∈ l) = false from decide_eq_false hin]
  by_cases hfull : room ≤ l.length
  · have hL := HL.out
    rw [addR_full HR.out HM.out hin hfull] at hL
    obtain ⟨rfl, rfl⟩ := Prod.mk.inj hL
    have g1 : (room ≤ (l.length : Int)) = True := eq_true hfull
    clear hL hin hfull
    go_wp2_with fail
    go_ret2
    exact ⟨none, 0, rfl, Mks.nil _ _, (fun ad n c' h => by cases h), hA⟩
  have hL := HL.out
  rw [addR_ok HR.out HM.out hin hfull] at hL
  obtain ⟨rfl, rfl⟩ := Prod.mk.inj hL
  have hIL := len_ins (q1, q2, q3) l
  have hL9 : (insM (q1, q2, q3) l).length ≤ 1000000 := by omega
  clear hIL
  have g1 : (room ≤ (l.length : Int)) = False := eq_false hfull
  clear hL hin hfull HL HR HM
  have bD := (Below.refl w4.heap.size w4).drew
  have BD := hA.trans (bD.mono hA.size)
  have qmD := q8.on bD
  have hlD := hv2.on bD
  go_upto_region 8 with (fail)
  clear hA q8 hv2 g1
  have hkI : (k : Int) ≤ (l.length : Int) := by omega
  cases A with
  | none =>
    obtain ⟨A9, c9, hv', hc', hz'⟩ := hlD
    cases hv'
    obtain rfl := hc'.2 rfl
    have h0 : l.length = 0 := by omega
    obtain rfl : l = [] := List.eq_nil_of_length_eq_zero h0
    obtain rfl : k = 0 := by simpa using hk
    have hlD : Mks w4.drew w4.drew.heap.size (.slice none 0 0) [] := Mks.nil _ _
    clear hz' hc' h0
    refine held_start (S := (fun W => W.cell? ⟨w.heap.size, 0, none⟩ = some (.int .i64 q1) ∧ W.cell? ⟨w.heap.size, 1, none⟩ = some (.int .i64 q2) ∧ W.cell? ⟨w.heap.size, 2, none⟩ = some (.int .i64 q3))) 12 #[false, false, false, false, false, false, false, false, false, false, false, false] (by kernel_rfl) (by kernel_rfl) (by kernel_rfl) ⟨qmD.cell 0, qmD.cell 1, qmD.cell 2⟩ (fun hHeld => ?_)
    generalize w4.drew = wD at *
    refine wpAnyH_take (i := 0) (v := ?_) (by simp only [List.getElem?_toArray, List.getElem?_cons_zero]; rfl) (by kernel_rfl) (by kernel_rfl) (by kernel_rfl) (by exact fun _ _ _ h => h) (Or.inl ⟨rfl, ?_⟩) (by assumption) ?_
    rotate_left
    · intro wz hSw; (try dsimp only at hSw); go_simp; try with_reducible rfl
    try simp only [Act.put, List.setIfInBounds_toArray, List.set_cons_zero, List.set_cons_succ]
    refine wpAnyH_take (i := 1) (v := ?_) (by simp only [List.getElem?_toArray, List.getElem?_cons_succ, List.getElem?_cons_zero]; rfl) (by kernel_rfl) (by kernel_rfl) (by kernel_rfl) (by exact fun _ _ _ h => h) (Or.inl ⟨rfl, ?_⟩) (by assumption) ?_
    rotate_left
    · intro wz hSw; (try dsimp only at hSw); go_simp; try with_reducible rfl
    try simp only [Act.put, List.setIfInBounds_toArray, List.set_cons_zero, List.set_cons_succ]
    refine wpAnyH_take (i := 2) (v := ?_) (by simp only [List.getElem?_toArray, List.getElem?_cons_succ, List.getElem?_cons_zero]; rfl) (by kernel_rfl) (by kernel_rfl) (by kernel_rfl) (by exact fun _ _ _ h => h) (Or.inl ⟨rfl, ?_⟩) (by assumption) ?_
    rotate_left
    · intro wz hSw; (try dsimp only at hSw); go_simp; try with_reducible rfl
    try simp only [Act.put, List.setIfInBounds_toArray, List.set_cons_zero, List.set_cons_succ]
    refine wpAnyH_take (i := 3) (v := ?_) (by simp only [List.getElem?_toArray, List.getElem?_cons_succ, List.getElem?_cons_zero]; rfl) (by kernel_rfl) (by kernel_rfl) (by kernel_rfl) (by exact fun _ _ _ h => h) (Or.inl ⟨rfl, ?_⟩) (by assumption) ?_
    rotate_left
    · intro wz hSw; (try dsimp only at hSw); go_simp; try with_reducible rfl
    try simp only [Act.put, List.setIfInBounds_toArray, List.set_cons_zero, List.set_cons_succ]
    refine wpAnyH_take (i := 5) (v := ?_) (by simp only [List.getElem?_toArray, List.getElem?_cons_succ, List.getElem?_cons_zero]; rfl) (by kernel_rfl) (by kernel_rfl) (by kernel_rfl) (by exact fun _ _ _ h => h) (Or.inl ⟨rfl, ?_⟩) (by assumption) ?_
    rotate_left
    · intro wz hSw; (try dsimp only at hSw); go_simp; try with_reducible rfl
    try simp only [Act.put, List.setIfInBounds_toArray, List.set_cons_zero, List.set_cons_succ]
    refine wpAnyH_take (i := 6) (v := ?_) (by simp only [List.getElem?_toArray, List.getElem?_cons_succ, List.getElem?_cons_zero]; rfl) (by kernel_rfl) (by kernel_rfl) (by kernel_rfl) (by exact fun _ _ _ h => h) (Or.inl ⟨rfl, ?_⟩) (by assumption) ?_
    rotate_left
    · intro wz hSw; (try dsimp only at hSw); go_simp; try with_reducible rfl
    try simp only [Act.put, List.setIfInBounds_toArray, List.set_cons_zero, List.set_cons_succ]
    refine wpAnyH_take (i := 7) (v := ?_) (by simp only [List.getElem?_toArray, List.getElem?_cons_succ, List.getElem?_cons_zero]; rfl) (by kernel_rfl) (by kernel_rfl) (by kernel_rfl) (by exact fun _ _ _ h => h) (Or.inl ⟨rfl, ?_⟩) (by assumption) ?_
    rotate_left
    · intro wz hSw; (try dsimp only at hSw); go_simp; try with_reducible rfl
    try simp only [Act.put, List.setIfInBounds_toArray, List.set_cons_zero, List.set_cons_succ]
    refine wpAnyH_ready (rs := [4]) (by kernel_rfl) (by simp) ?_
    refine AllReadyH.cons (by simp only [List.getElem?_toArray, List.getElem?_cons_succ, List.getElem?_cons_zero]; rfl) (fun K9 hK9 => ?_) AllReadyH.nil
    have bN := (Below.refl wD.heap.size wD).alloc (Nat.le_refl _) (.cells #[.int .i64 q1, .int .i64 q2, .int .i64 q3] 25)
    have qs_wh1 := RowAt.new wD 25 #[.int .i64 q1, .int .i64 q2, .int .i64 q3]
    have qm_wh1 := qmD.on bN
    have hl_wh1 := hlD.on bN
    have B_wh1 := BD.trans (bN.mono BD.size)
    clear bN qmD hlD BD
    go_simp
    clear hHeld
    generalize wD.alloc (.cells #[.int .i64 q1, .int .i64 q2, .int .i64 q3] 25) = wh1 at *
    obtain ⟨gwh1, hg9⟩ : ∃ gwh1, gwh1 = wD.heap.size := ⟨_, rfl⟩
    rw [← hg9] at qs_wh1 ⊢
    clear hg9
    refine hK9.out _ _ ⟨qm_wh1.cell 0, qm_wh1.cell 1, qm_wh1.cell 2⟩ (fun hHeld => ?_)
    clear hK9 K9
    try simp only [Act.put, List.setIfInBounds_toArray, List.set_cons_zero, List.set_cons_succ]
    refine wpAnyH_ready (rs := [8]) (by kernel_rfl) (by simp) ?_
    refine AllReadyH.cons (by simp only [List.getElem?_toArray, List.getElem?_cons_succ, List.getElem?_cons_zero]; rfl) (fun K9 hK9 => ?_) AllReadyH.nil
    have bN := (Below.refl wh1.heap.size wh1).alloc (Nat.le_refl _) (.cells #[.slice none 0 0, .slice (some ⟨gwh1, 0, none⟩) 1 1, .slice none 0 0] 22)
    have qr_wh2 := RowAt.new wh1 22 #[.slice none 0 0, .slice (some ⟨gwh1, 0, none⟩) 1 1, .slice none 0 0]
    have qm_wh2 := qm_wh1.on bN
    have hl_wh2 := hl_wh1.on bN
    have qs_wh2 := qs_wh1.on bN
    have B_wh2 := B_wh1.trans (bN.mono B_wh1.size)
    clear bN qm_wh1 hl_wh1 qs_wh1 B_wh1
    go_simp
    clear hHeld
    generalize wh1.alloc (.cells #[.slice none 0 0, .slice (some ⟨gwh1, 0, none⟩) 1 1, .slice none 0 0] 22) = wh2 at *
    obtain ⟨gwh2, hg9⟩ : ∃ gwh2, gwh2 = wh1.heap.size := ⟨_, rfl⟩
    rw [← hg9] at qr_wh2 ⊢
    clear hg9
    refine hK9.out _ _ ⟨qm_wh2.cell 0, qm_wh2.cell 1, qm_wh2.cell 2⟩ (fun hHeld => ?_)
    clear hK9 K9
    try simp only [Act.put, List.setIfInBounds_toArray, List.set_cons_zero, List.set_cons_succ]
    refine wpAnyH_ready (rs := [9]) (by kernel_rfl) (by simp) ?_
    refine AllReadyH.cons (by simp only [List.getElem?_toArray, List.getElem?_cons_succ, List.getElem?_cons_zero]; rfl) (fun K9 hK9 => ?_) AllReadyH.nil
    go_simp
    have HZ := B_wh2.size
    with_reducible refine (sConcat3_any _ _ _ _ _ _ [] [(q1, q2, q3)] [] _ qr_wh2 (Mks.nil _ _) (Mks.row (l := [(q1, q2, q3)]) qs_wh2) (Mks.nil _ _) _ HI.out hL9).mono ?_
    rintro e wh3 ⟨A', c', rfl, hm', hf', bN⟩
    have qm_wh3 := qm_wh2.on bN
    have hl_wh3 := hl_wh2.on bN
    have qs_wh3 := qs_wh2.on bN
    have qr_wh3 := qr_wh2.on bN
    have B_wh3 := B_wh2.trans (bN.mono B_wh2.size)
    clear bN qm_wh2 hl_wh2 qs_wh2 qr_wh2 B_wh2
    go_simp
    clear hHeld
    refine hK9.out _ _ ⟨qm_wh3.cell 0, qm_wh3.cell 1, qm_wh3.cell 2⟩ (fun hHeld => ?_)
    clear hK9 K9
    try simp only [Act.put, List.setIfInBounds_toArray, List.set_cons_zero, List.set_cons_succ]
    refine wpAnyH_take (i := 10) (v := ?_) (by simp only [List.getElem?_toArray, List.getElem?_cons_succ, List.getElem?_cons_zero]; rfl) (by kernel_rfl) (by kernel_rfl) (by kernel_rfl) (by exact fun _ _ _ h => h) (Or.inl ⟨rfl, ?_⟩) (by assumption) ?_
    rotate_left
    · intro wz hSw; (try dsimp only at hSw); go_simp; try with_reducible rfl
    try simp only [Act.put, List.setIfInBounds_toArray, List.set_cons_zero, List.set_cons_succ]
    refine wpAnyH_take (i := 11) (v := ?_) (by simp only [List.getElem?_toArray, List.getElem?_cons_succ, List.getElem?_cons_zero]; rfl) (by kernel_rfl) (by kernel_rfl) (by kernel_rfl) (by exact fun _ _ _ h => h) (Or.inl ⟨rfl, ?_⟩) (by assumption) ?_
    rotate_left
    · intro wz hSw; (try dsimp only at hSw); go_simp; try with_reducible rfl
    try simp only [Act.put, List.setIfInBounds_toArray, List.set_cons_zero, List.set_cons_succ]
    refine wpAnyH_done (by kernel_rfl) ?_ _
    go_simp
    go_wp2_with fail
    go_ret2
    exact ⟨A', c', rfl, hm', hf'.less HZ, B_wh3⟩
  | some ad =>
    by_cases hkc : c = k
    · obtain rfl : k = l.length := by omega
      subst hkc
      have HI2 := Lib.hid (HI.out.trans (by rw [List.take_length, List.drop_length]; rfl : _ = l ++ ([(q1, q2, q3)] ++ [])))
      clear HI
      refine held_start (S := (fun W => W.cell? ⟨w.heap.size, 0, none⟩ = some (.int .i64 q1) ∧ W.cell? ⟨w.heap.size, 1, none⟩ = some (.int .i64 q2) ∧ W.cell? ⟨w.heap.size, 2, none⟩ = some (.int .i64 q3))) 12 #[false, false, false, false, false, false, false, false, false, false, false, false] (by kernel_rfl) (by kernel_rfl) (by kernel_rfl) ⟨qmD.cell 0, qmD.cell 1, qmD.cell 2⟩ (fun hHeld => ?_)
      generalize w4.drew = wD at *
      refine wpAnyH_take (i := 0) (v := ?_) (by simp only [List.getElem?_toArray, List.getElem?_cons_zero]; rfl) (by kernel_rfl) (by kernel_rfl) (by kernel_rfl) (by exact fun _ _ _ h => h) (Or.inl ⟨rfl, ?_⟩) (by assumption) ?_
      rotate_left
      · intro wz hSw; (try dsimp only at hSw); go_simp; try with_reducible rfl
      try simp only [Act.put, List.setIfInBounds_toArray, List.set_cons_zero, List.set_cons_succ]
      refine wpAnyH_take (i := 1) (v := ?_) (by simp only [List.getElem?_toArray, List.getElem?_cons_succ, List.getElem?_cons_zero]; rfl) (by kernel_rfl) (by kernel_rfl) (by kernel_rfl) (by exact fun _ _ _ h => h) (Or.inl ⟨rfl, ?_⟩) (by assumption) ?_
      rotate_left
      · intro wz hSw; (try dsimp only at hSw); go_simp; try with_reducible rfl
      try simp only [Act.put, List.setIfInBounds_toArray, List.set_cons_zero, List.set_cons_succ]
      refine wpAnyH_take (i := 2) (v := ?_) (by simp only [List.getElem?_toArray, List.getElem?_cons_succ, List.getElem?_cons_zero]; rfl) (by kernel_rfl) (by kernel_rfl) (by kernel_rfl) (by exact fun _ _ _ h => h) (Or.inl ⟨rfl, ?_⟩) (by assumption) ?_
      rotate_left
      · intro wz hSw; (try dsimp only at hSw); go_simp; try with_reducible rfl
      try simp only [Act.put, List.setIfInBounds_toArray, List.set_cons_zero, List.set_cons_succ]
      refine wpAnyH_take (i := 3) (v := ?_) (by simp only [List.getElem?_toArray, List.getElem?_cons_succ, List.getElem?_cons_zero]; rfl) (by kernel_rfl) (by kernel_rfl) (by kernel_rfl) (by exact fun _ _ _ h => h) (Or.inl ⟨rfl, ?_⟩) (by assumption) ?_
      rotate_left
      · intro wz hSw; (try dsimp only at hSw); go_simp; try with_reducible rfl
      try simp only [Act.put, List.setIfInBounds_toArray, List.set_cons_zero, List.set_cons_succ]
      refine wpAnyH_take (i := 5) (v := ?_) (by simp only [List.getElem?_toArray, List.getElem?_cons_succ, List.getElem?_cons_zero]; rfl) (by kernel_rfl) (by kernel_rfl) (by kernel_rfl) (by exact fun _ _ _ h => h) (Or.inl ⟨rfl, ?_⟩) (by assumption) ?_
      rotate_left
      · intro wz hSw; (try dsimp only at hSw); go_simp; try with_reducible rfl
      try simp only [Act.put, List.setIfInBounds_toArray, List.set_cons_zero, List.set_cons_succ]
      refine wpAnyH_take (i := 6) (v := ?_) (by simp only [List.getElem?_toArray, List.getElem?_cons_succ, List.getElem?_cons_zero]; rfl) (by kernel_rfl) (by kernel_rfl) (by kernel_rfl) (by exact fun _ _ _ h => h) (Or.inl ⟨rfl, ?_⟩) (by assumption) ?_
      rotate_left
      · intro wz hSw; (try dsimp only at hSw); go_simp; try with_reducible rfl
      try simp only [Act.put, List.setIfInBounds_toArray, List.set_cons_zero, List.set_cons_succ]
      refine wpAnyH_take (i := 7) (v := ?_) (by simp only [List.getElem?_toArray, List.getElem?_cons_succ, List.getElem?_cons_zero]; rfl) (by kernel_rfl) (by kernel_rfl) (by kernel_rfl) (by exact fun _ _ _ h => h) (Or.inl ⟨rfl, ?_⟩) (by assumption) ?_
      rotate_left
      · intro wz hSw; (try dsimp only at hSw); go_simp; try with_reducible rfl
      try simp only [Act.put, List.setIfInBounds_toArray, List.set_cons_zero, List.set_cons_succ]
      refine wpAnyH_ready (rs := [4]) (by kernel_rfl) (by simp) ?_
      refine AllReadyH.cons (by simp only [List.getElem?_toArray, List.getElem?_cons_succ, List.getElem?_cons_zero]; rfl) (fun K9 hK9 => ?_) AllReadyH.nil
      have bN := (Below.refl wD.heap.size wD).alloc (Nat.le_refl _) (.cells #[.int .i64 q1, .int .i64 q2, .int .i64 q3] 25)
      have qs_wh1 := RowAt.new wD 25 #[.int .i64 q1, .int .i64 q2, .int .i64 q3]
      have qm_wh1 := qmD.on bN
      have hl_wh1 := hlD.on bN
      have B_wh1 := BD.trans (bN.mono BD.size)
      clear bN qmD hlD BD
      go_simp
      clear hHeld
      generalize wD.alloc (.cells #[.int .i64 q1, .int .i64 q2, .int .i64 q3] 25) = wh1 at *
      obtain ⟨gwh1, hg9⟩ : ∃ gwh1, gwh1 = wD.heap.size := ⟨_, rfl⟩
      rw [← hg9] at qs_wh1 ⊢
      clear hg9
      refine hK9.out _ _ ⟨qm_wh1.cell 0, qm_wh1.cell 1, qm_wh1.cell 2⟩ (fun hHeld => ?_)
      clear hK9 K9
      try simp only [Act.put, List.setIfInBounds_toArray, List.set_cons_zero, List.set_cons_succ]
      refine wpAnyH_ready (rs := [8]) (by kernel_rfl) (by simp) ?_
      refine AllReadyH.cons (by simp only [List.getElem?_toArray, List.getElem?_cons_succ, List.getElem?_cons_zero]; rfl) (fun K9 hK9 => ?_) AllReadyH.nil
      have bN := (Below.refl wh1.heap.size wh1).alloc (Nat.le_refl _) (.cells #[.slice (some ad) l.length l.length, .slice (some ⟨gwh1, 0, none⟩) 1 1, .slice (some ad) 0 0] 22)
      have qr_wh2 := RowAt.new wh1 22 #[.slice (some ad) l.length l.length, .slice (some ⟨gwh1, 0, none⟩) 1 1, .slice (some ad) 0 0]
      have qm_wh2 := qm_wh1.on bN
      have hl_wh2 := hl_wh1.on bN
      have qs_wh2 := qs_wh1.on bN
      have B_wh2 := B_wh1.trans (bN.mono B_wh1.size)
      clear bN qm_wh1 hl_wh1 qs_wh1 B_wh1
      go_simp
      clear hHeld
      generalize wh1.alloc (.cells #[.slice (some ad) l.length l.length, .slice (some ⟨gwh1, 0, none⟩) 1 1, .slice (some ad) 0 0] 22) = wh2 at *
      obtain ⟨gwh2, hg9⟩ : ∃ gwh2, gwh2 = wh1.heap.size := ⟨_, rfl⟩
      rw [← hg9] at qr_wh2 ⊢
      clear hg9
      refine hK9.out _ _ ⟨qm_wh2.cell 0, qm_wh2.cell 1, qm_wh2.cell 2⟩ (fun hHeld => ?_)
      clear hK9 K9
      try simp only [Act.put, List.setIfInBounds_toArray, List.set_cons_zero, List.set_cons_succ]
      refine wpAnyH_ready (rs := [9]) (by kernel_rfl) (by simp) ?_
      refine AllReadyH.cons (by simp only [List.getElem?_toArray, List.getElem?_cons_succ, List.getElem?_cons_zero]; rfl) (fun K9 hK9 => ?_) AllReadyH.nil
      go_simp
      have HZ := B_wh2.size
      with_reducible refine (sConcat3_any _ _ _ _ _ _ l [(q1, q2, q3)] [] _ qr_wh2 hl_wh2 (Mks.row (l := [(q1, q2, q3)]) qs_wh2) (mks_nil_at _ _ ad) _ HI2.out hL9).mono ?_
      rintro e wh3 ⟨A', c', rfl, hm', hf', bN⟩
      have qm_wh3 := qm_wh2.on bN
      have hl_wh3 := hl_wh2.on bN
      have qs_wh3 := qs_wh2.on bN
      have qr_wh3 := qr_wh2.on bN
      have B_wh3 := B_wh2.trans (bN.mono B_wh2.size)
      clear bN qm_wh2 hl_wh2 qs_wh2 qr_wh2 B_wh2
      go_simp
      clear hHeld
      refine hK9.out _ _ ⟨qm_wh3.cell 0, qm_wh3.cell 1, qm_wh3.cell 2⟩ (fun hHeld => ?_)
      clear hK9 K9
      try simp only [Act.put, List.setIfInBounds_toArray, List.set_cons_zero, List.set_cons_succ]
      refine wpAnyH_take (i := 10) (v := ?_) (by simp only [List.getElem?_toArray, List.getElem?_cons_succ, List.getElem?_cons_zero]; rfl) (by kernel_rfl) (by kernel_rfl) (by kernel_rfl) (by exact fun _ _ _ h => h) (Or.inl ⟨rfl, ?_⟩) (by assumption) ?_
      rotate_left
      · intro wz hSw; (try dsimp only at hSw); go_simp; try with_reducible rfl
      try simp only [Act.put, List.setIfInBounds_toArray, List.set_cons_zero, List.set_cons_succ]
      refine wpAnyH_take (i := 11) (v := ?_) (by simp only [List.getElem?_toArray, List.getElem?_cons_succ, List.getElem?_cons_zero]; rfl) (by kernel_rfl) (by kernel_rfl) (by kernel_rfl) (by exact fun _ _ _ h => h) (Or.inl ⟨rfl, ?_⟩) (by assumption) ?_
      rotate_left
      · intro wz hSw; (try dsimp only at hSw); go_simp; try with_reducible rfl
      try simp only [Act.put, List.setIfInBounds_toArray, List.set_cons_zero, List.set_cons_succ]
      refine wpAnyH_done (by kernel_rfl) ?_ _
      go_simp
      go_wp2_with fail
      go_ret2
      exact ⟨A', c', rfl, hm', hf'.less HZ, B_wh3⟩
    · have gck : (c = k) = False := eq_false hkc
      have gkc : (k ≤ c) = True := eq_true (by omega)
      have gkl : (k ≤ l.length) = True := eq_true hk
      clear hkc
      refine held_start (S := (fun W => W.cell? ⟨w.heap.size, 0, none⟩ = some (.int .i64 q1) ∧ W.cell? ⟨w.heap.size, 1, none⟩ = some (.int .i64 q2) ∧ W.cell? ⟨w.heap.size, 2, none⟩ = some (.int .i64 q3))) 12 #[false, false, false, false, false, false, false, false, false, false, false, false] (by kernel_rfl) (by kernel_rfl) (by kernel_rfl) ⟨qmD.cell 0, qmD.cell 1, qmD.cell 2⟩ (fun hHeld => ?_)
      generalize w4.drew = wD at *
      refine wpAnyH_take (i := 0) (v := ?_) (by simp only [List.getElem?_toArray, List.getElem?_cons_zero]; rfl) (by kernel_rfl) (by kernel_rfl) (by kernel_rfl) (by exact fun _ _ _ h => h) (Or.inl ⟨rfl, ?_⟩) (by assumption) ?_
      rotate_left
      · intro wz hSw; (try dsimp only at hSw); go_simp; try with_reducible rfl
      try simp only [Act.put, List.setIfInBounds_toArray, List.set_cons_zero, List.set_cons_succ]
      refine wpAnyH_take (i := 1) (v := ?_) (by simp only [List.getElem?_toArray, List.getElem?_cons_succ, List.getElem?_cons_zero]; rfl) (by kernel_rfl) (by kernel_rfl) (by kernel_rfl) (by exact fun _ _ _ h => h) (Or.inl ⟨rfl, ?_⟩) (by assumption) ?_
      rotate_left
      · intro wz hSw; (try dsimp only at hSw); go_simp; try with_reducible rfl
      try simp only [Act.put, List.setIfInBounds_toArray, List.set_cons_zero, List.set_cons_succ]
      refine wpAnyH_take (i := 2) (v := ?_) (by simp only [List.getElem?_toArray, List.getElem?_cons_succ, List.getElem?_cons_zero]; rfl) (by kernel_rfl) (by kernel_rfl) (by kernel_rfl) (by exact fun _ _ _ h => h) (Or.inl ⟨rfl, ?_⟩) (by assumption) ?_
      rotate_left
      · intro wz hSw; (try dsimp only at hSw); go_simp; try with_reducible rfl
      try simp only [Act.put, List.setIfInBounds_toArray, List.set_cons_zero, List.set_cons_succ]
      refine wpAnyH_take (i := 3) (v := ?_) (by simp only [List.getElem?_toArray, List.getElem?_cons_succ, List.getElem?_cons_zero]; rfl) (by kernel_rfl) (by kernel_rfl) (by kernel_rfl) (by exact fun _ _ _ h => h) (Or.inl ⟨rfl, ?_⟩) (by assumption) ?_
      rotate_left
      · intro wz hSw; (try dsimp only at hSw); go_simp; try with_reducible rfl
      try simp only [Act.put, List.setIfInBounds_toArray, List.set_cons_zero, List.set_cons_succ]
      refine wpAnyH_take (i := 5) (v := ?_) (by simp only [List.getElem?_toArray, List.getElem?_cons_succ, List.getElem?_cons_zero]; rfl) (by kernel_rfl) (by kernel_rfl) (by kernel_rfl) (by exact fun _ _ _ h => h) (Or.inl ⟨rfl, ?_⟩) (by assumption) ?_
      rotate_left
      · intro wz hSw; (try dsimp only at hSw); go_simp; try with_reducible rfl
      try simp only [Act.put, List.setIfInBounds_toArray, List.set_cons_zero, List.set_cons_succ]
      refine wpAnyH_take (i := 6) (v := ?_) (by simp only [List.getElem?_toArray, List.getElem?_cons_succ, List.getElem?_cons_zero]; rfl) (by kernel_rfl) (by kernel_rfl) (by kernel_rfl) (by exact fun _ _ _ h => h) (Or.inl ⟨rfl, ?_⟩) (by assumption) ?_
      rotate_left
      · intro wz hSw; (try dsimp only at hSw); go_simp; try with_reducible rfl
      try simp only [Act.put, List.setIfInBounds_toArray, List.set_cons_zero, List.set_cons_succ]
      refine wpAnyH_take (i := 7) (v := ?_) (by simp only [List.getElem?_toArray, List.getElem?_cons_succ, List.getElem?_cons_zero]; rfl) (by kernel_rfl) (by kernel_rfl) (by kernel_rfl) (by exact fun _ _ _ h => h) (Or.inl ⟨rfl, ?_⟩) (by assumption) ?_
      rotate_left
      · intro wz hSw; (try dsimp only at hSw); go_simp; try with_reducible rfl
      try simp only [Act.put, List.setIfInBounds_toArray, List.set_cons_zero, List.set_cons_succ]
      refine wpAnyH_ready (rs := [4]) (by kernel_rfl) (by simp) ?_
      refine AllReadyH.cons (by simp only [List.getElem?_toArray, List.getElem?_cons_succ, List.getElem?_cons_zero]; rfl) (fun K9 hK9 => ?_) AllReadyH.nil
      have bN := (Below.refl wD.heap.size wD).alloc (Nat.le_refl _) (.cells #[.int .i64 q1, .int .i64 q2, .int .i64 q3] 25)
      have qs_wh1 := RowAt.new wD 25 #[.int .i64 q1, .int .i64 q2, .int .i64 q3]
      have qm_wh1 := qmD.on bN
      have hl_wh1 := hlD.on bN
      have B_wh1 := BD.trans (bN.mono BD.size)
      clear bN qmD hlD BD
      go_simp
      clear hHeld
      generalize wD.alloc (.cells #[.int .i64 q1, .int .i64 q2, .int .i64 q3] 25) = wh1 at *
      obtain ⟨gwh1, hg9⟩ : ∃ gwh1, gwh1 = wD.heap.size := ⟨_, rfl⟩
      rw [← hg9] at qs_wh1 ⊢
      clear hg9
      refine hK9.out _ _ ⟨qm_wh1.cell 0, qm_wh1.cell 1, qm_wh1.cell 2⟩ (fun hHeld => ?_)
      clear hK9 K9
      try simp only [Act.put, List.setIfInBounds_toArray, List.set_cons_zero, List.set_cons_succ]
      refine wpAnyH_ready (rs := [8]) (by kernel_rfl) (by simp) ?_
      refine AllReadyH.cons (by simp only [List.getElem?_toArray, List.getElem?_cons_succ, List.getElem?_cons_zero]; rfl) (fun K9 hK9 => ?_) AllReadyH.nil
      have bN := (Below.refl wh1.heap.size wh1).alloc (Nat.le_refl _) (.cells #[.slice (some ad) k c, .slice (some ⟨gwh1, 0, none⟩) 1 1, .slice (some (ad.add (k * 3))) (l.length - k) (c - k)] 22)
      have qr_wh2 := RowAt.new wh1 22 #[.slice (some ad) k c, .slice (some ⟨gwh1, 0, none⟩) 1 1, .slice (some (ad.add (k * 3))) (l.length - k) (c - k)]
      have qm_wh2 := qm_wh1.on bN
      have hl_wh2 := hl_wh1.on bN
      have qs_wh2 := qs_wh1.on bN
      have B_wh2 := B_wh1.trans (bN.mono B_wh1.size)
      clear bN qm_wh1 hl_wh1 qs_wh1 B_wh1
      go_simp
      clear hHeld
      generalize wh1.alloc (.cells #[.slice (some ad) k c, .slice (some ⟨gwh1, 0, none⟩) 1 1, .slice (some (ad.add (k * 3))) (l.length - k) (c - k)] 22) = wh2 at *
      obtain ⟨gwh2, hg9⟩ : ∃ gwh2, gwh2 = wh1.heap.size := ⟨_, rfl⟩
      rw [← hg9] at qr_wh2 ⊢
      clear hg9
      refine hK9.out _ _ ⟨qm_wh2.cell 0, qm_wh2.cell 1, qm_wh2.cell 2⟩ (fun hHeld => ?_)
      clear hK9 K9
      try simp only [Act.put, List.setIfInBounds_toArray, List.set_cons_zero, List.set_cons_succ]
      refine wpAnyH_ready (rs := [9]) (by kernel_rfl) (by simp) ?_
      refine AllReadyH.cons (by simp only [List.getElem?_toArray, List.getElem?_cons_succ, List.getElem?_cons_zero]; rfl) (fun K9 hK9 => ?_) AllReadyH.nil
      go_simp
      have HZ := B_wh2.size
      with_reducible refine (sConcat3_any _ _ _ _ _ _ (l.take k) [(q1, q2, q3)] (l.drop k) _ qr_wh2 (hl_wh2.first k hk) (Mks.row (l := [(q1, q2, q3)]) qs_wh2) (hl_wh2.restM k hk) _ HI.out hL9).mono ?_
      rintro e wh3 ⟨A', c', rfl, hm', hf', bN⟩
      have qm_wh3 := qm_wh2.on bN
      have hl_wh3 := hl_wh2.on bN
      have qs_wh3 := qs_wh2.on bN
      have qr_wh3 := qr_wh2.on bN
      have B_wh3 := B_wh2.trans (bN.mono B_wh2.size)
      clear bN qm_wh2 hl_wh2 qs_wh2 qr_wh2 B_wh2
      go_simp
      clear hHeld
      refine hK9.out _ _ ⟨qm_wh3.cell 0, qm_wh3.cell 1, qm_wh3.cell 2⟩ (fun hHeld => ?_)
      clear hK9 K9
      try simp only [Act.put, List.setIfInBounds_toArray, List.set_cons_zero, List.set_cons_succ]
      refine wpAnyH_take (i := 10) (v := ?_) (by simp only [List.getElem?_toArray, List.getElem?_cons_succ, List.getElem?_cons_zero]; rfl) (by kernel_rfl) (by kernel_rfl) (by kernel_rfl) (by exact fun _ _ _ h => h) (Or.inl ⟨rfl, ?_⟩) (by assumption) ?_
      rotate_left
      · intro wz hSw; (try dsimp only at hSw); go_simp; try with_reducible rfl
      try simp only [Act.put, List.setIfInBounds_toArray, List.set_cons_zero, List.set_cons_succ]
      refine wpAnyH_take (i := 11) (v := ?_) (by simp only [List.getElem?_toArray, List.getElem?_cons_succ, List.getElem?_cons_zero]; rfl) (by kernel_rfl) (by kernel_rfl) (by kernel_rfl) (by exact fun _ _ _ h => h) (Or.inl ⟨rfl, ?_⟩) (by assumption) ?_
      rotate_left
      · intro wz hSw; (try dsimp only at hSw); go_simp; try with_reducible rfl
      try simp only [Act.put, List.setIfInBounds_toArray, List.set_cons_zero, List.set_cons_succ]
      refine wpAnyH_done (by kernel_rfl) ?_ _
      go_simp
      go_wp2_with fail
      go_ret2
      exact ⟨A', c', rfl, hm', hf'.less HZ, B_wh3⟩
end Go.Proofs.Ytcamhaeelkjigaa
