/- The walk of SeenTells. -/
import Derived.Test.YtcamhaeelkjigaaSenH
import Derived.Test.YtcamhaeelkjigaaRegV
namespace Go.Proofs.Ytcamhaeelkjigaa
open Go.RowKit Go.Lib

theorem two_lists {W : World} {q : Nat} {t : TypeId} {v0 v1 : Value} (h : RowAt W q t [v0, v1]) {l0 l1 : List Mk} (h0 : Mks W W.heap.size v0 l0) (h1 : Mks W W.heap.size v1 l1) (n0 : l0.length ≤ 40) (n1 : l1.length ≤ 40) (m : Nat) (hm : m < 2) :
    ∃ A c X, W.cell? ⟨q, m, none⟩ = some (.slice A (List.length X) c) ∧ Mks W W.heap.size (.slice A X.length c) X ∧ X.length ≤ 40 := by
  obtain ⟨A0, c0, rfl, _⟩ := h0.form
  obtain ⟨A1, c1, rfl, _⟩ := h1.form
  have hm2 : m = 0 ∨ m = 1 := by omega
  rcases hm2 with rfl | rfl
  · exact ⟨A0, c0, l0, by rw [h.cell]; rfl, h0, n0⟩
  · exact ⟨A1, c1, l1, by rw [h.cell]; rfl, h1, n1⟩
theorem two_marks {W : World} {g : Nat} {t : TypeId} {o0 o1 o2 p0 p1 p2 : Int} (h : RowAt W g t [.int .i64 o0, .int .i64 o1, .int .i64 o2, .int .i64 p0, .int .i64 p1, .int .i64 p2]) (m : Nat) (hm : m < 2) :
    ∃ x0 x1 x2 : Int, W.cell? ⟨g, m * 3, none⟩ = some (.int .i64 x0) ∧ W.cell? ⟨g, m * 3 + 1, none⟩ = some (.int .i64 x1) ∧ W.cell? ⟨g, m * 3 + 2, none⟩ = some (.int .i64 x2) := by
  have hm2 : m = 0 ∨ m = 1 := by omega
  rcases hm2 with rfl | rfl
  · exact ⟨o0, o1, o2, by rw [h.cell]; rfl, by rw [h.cell]; rfl, by rw [h.cell]; rfl⟩
  · exact ⟨p0, p1, p2, by rw [h.cell]; rfl, by rw [h.cell]; rfl, by rw [h.cell]; rfl⟩
theorem two_rooms {W : World} {g : Nat} {t : TypeId} {y0 y1 : Int} (h : RowAt W g t [.int .i64 y0, .int .i64 y1]) (h0 : I64M y0) (h1 : I64M y1) (m : Nat) (hm : m < 2) :
    ∃ y : Int, I64M y ∧ W.cell? ⟨g, m, none⟩ = some (.int .i64 y) := by
  have hm2 : m = 0 ∨ m = 1 := by omega
  rcases hm2 with rfl | rfl
  · exact ⟨y0, h0, by rw [h.cell]; rfl⟩
  · exact ⟨y1, h1, by rw [h.cell]; rfl⟩
theorem two_turns {W : World} {g : Nat} {t : TypeId} {e0 d0 e1 d1 : Int} (h : RowAt W g t [.int .i64 e0, .int .i64 d0, .int .i64 e1, .int .i64 d1]) (m : Nat) (hm : m < 2) :
    ∃ e d : Int, W.cell? ⟨g, m * 2, none⟩ = some (.int .i64 e) ∧ W.cell? ⟨g, m * 2 + 1, none⟩ = some (.int .i64 d) := by
  have hm2 : m = 0 ∨ m = 1 := by omega
  rcases hm2 with rfl | rfl
  · exact ⟨e0, d0, by rw [h.cell]; rfl, by rw [h.cell]; rfl⟩
  · exact ⟨e1, d1, by rw [h.cell]; rfl, by rw [h.cell]; rfl⟩
theorem addR_len {X : List Mk} {y : Int} {m : Mk} {R : List Mk} {E : Int} (h : addR X y m = (R, E)) (hX : X.length ≤ 40) : R.length ≤ 41 := by
  unfold addR at h
  split at h
  · split at h
    · obtain ⟨rfl, _⟩ := Prod.mk.inj h; simp
    · split at h
      · obtain ⟨rfl, _⟩ := Prod.mk.inj h; simp
      · obtain ⟨rfl, _⟩ := Prod.mk.inj h; rw [len_ins]; omega
  · obtain ⟨rfl, _⟩ := Prod.mk.inj h; simp
theorem pruneR_len (e : Int) (X : List Mk) : (pruneR e X).length ≤ X.length := by
  unfold pruneR
  split
  · exact pruneM_len e X
  · simp
theorem ofR_len (e d : Int) (X : List Mk) : (ofR e d X).length ≤ X.length := by
  unfold ofR
  split
  · exact ofM_len e d X
  · simp
set_option maxHeartbeats 8000000 in
set_option maxRecDepth 100000 in
theorem stells_walk (v vr : Value) (ws rs : List Mk) (o0 o1 o2 k0 k1 k2 rm ep kd : Int) (w : World) (hv : Mks w w.heap.size v ws) (hv9 : ws.length ≤ maxLen) (hr : Mks w w.heap.size vr rs) (h9 : rs.length ≤ maxLen) (hraw : ∀ r ∈ rs, RawM r) (hk : RawM (k0, k1, k2)) (hrm : I64M rm) (hep : I64M ep) (hkd : I64M kd) :
    Calls Try.prog 3 #[v, vr, .agg #[.int .i64 o0, .int .i64 o1, .int .i64 o2], .agg #[.int .i64 k0, .int .i64 k1, .int .i64 k2], .int .i64 rm, .int .i64 ep, .int .i64 kd] w fun o w' => o = .returned (.bool true) ∧ Below w.heap.size w w' := by
  obtain ⟨A, c, rfl, hc⟩ := hv.form
  obtain ⟨Ar, cr, rfl, hcr⟩ := hr.form
  obtain ⟨l1, hl1⟩ : ∃ l1, ws.take 40 = l1 := ⟨_, rfl⟩
  have hm40 : min (ws.length : Int) 40 = (l1.length : Int) := by rw [← hl1, List.length_take]; omega
  have hn40 : l1.length ≤ 40 := by rw [← hl1, List.length_take]; omega
  have hn41 : l1.length ≤ ws.length := by rw [← hl1, List.length_take]; omega
  have hnc : l1.length ≤ c := by omega
  have hw : Mks w w.heap.size (.slice A l1.length c) l1 := by
    have := hv.first l1.length hn41
    have e : ws.take l1.length = l1 := by rw [← hl1, List.length_take]; by_cases h : 40 ≤ ws.length; rw [Nat.min_eq_left h]; rw [Nat.min_eq_right (by omega), List.take_length, List.take_of_length_le (by omega)]
    rwa [e] at this
  clear hl1 hv
  have h9v : ws.length ≤ 9223372036854775807 := hv9
  obtain ⟨L, hL⟩ : ∃ L, marksM rs = L := ⟨_, rfl⟩
  have hLl : L.length ≤ 40 := by rw [← hL]; exact marksM_len rs
  obtain ⟨p0, p1, p2, hp⟩ : ∃ p0 p1 p2, markOf (k0, k1, k2) = (p0, p1, p2) := ⟨_, _, _, rfl⟩
  obtain ⟨z, hz⟩ : ∃ z, pickM rm 45 = z := ⟨_, rfl⟩
  obtain ⟨z6, hz6⟩ : ∃ z, pickM ep 6 = z := ⟨_, rfl⟩
  obtain ⟨z3, hz3⟩ : ∃ z, pickM kd 3 = z := ⟨_, rfl⟩
  have hzb := pickM_bd rm 45 (by decide)
  rw [hz] at hzb
  have hzI : I64M z := ⟨by omega, by omega⟩
  have cMs := fun W (h : Mks W W.heap.size (.slice Ar rs.length cr) rs) => Marks_any _ rs W h h9 hraw L hL
  have cMk := fun W => Mark_any k0 k1 k2 p0 p1 p2 W hk hp
  have cPz := fun W => pickM_same hz hrm (by decide) (by decide) W
  have cP6 := fun W => pickM_same hz6 hep (by decide) (by decide) W
  have cP3 := fun W => pickM_same hz3 hkd (by decide) (by decide) W
  clear hL hp hz hz6 hz3 hzb
  have B0 := Below.refl w.heap.size w
  go_enter Try.func3, Try.ntmps3
  go_upto_region 1 with (fail)
  replace B0 := B0.alloc B0.size (.cells #[.int .i64 o0, .int .i64 o1, .int .i64 o2] 25)
  replace B0 := B0.alloc B0.size (.cells #[.int .i64 k0, .int .i64 k1, .int .i64 k2] 26)
  have qo := RowAt.new w 25 #[.int .i64 o0, .int .i64 o1, .int .i64 o2]
  replace qo := qo.alloc (.cells #[.int .i64 k0, .int .i64 k1, .int .i64 k2] 26)
  have q3 := RowAt.new (w.alloc (.cells #[.int .i64 o0, .int .i64 o1, .int .i64 o2] 25)) 26 #[.int .i64 k0, .int .i64 k1, .int .i64 k2]
  rw [World.size_alloc] at q3
  replace hw := hw.on B0
  replace hr := hr.on B0
  generalize ((w.alloc (.cells #[.int .i64 o0, .int .i64 o1, .int .i64 o2] 25)).alloc (.cells #[.int .i64 k0, .int .i64 k1, .int .i64 k2] 26)) = v1_ at *
  obtain ⟨gO, hgO⟩ : ∃ g, g = w.heap.size := ⟨_, rfl⟩
  rw [← hgO] at qo q3 ⊢
  have HgO := Lib.hid hgO
  clear hgO
  go_wp2_with fail
  with_reducible refine (awake13_any _).mono ?_
  rintro o v2_ ⟨rfl, bN⟩
  replace qo := qo.on bN
  replace q3 := q3.on bN
  replace hw := hw.on bN
  replace hr := hr.on bN
  replace B0 := B0.trans (bN.mono B0.size)
  clear bN
  go_upto_region 2 with (fail)
  have bD := (Below.refl v2_.heap.size v2_).drew
  have qoD := qo.on bD
  have q3D := q3.on bD
  have hwD := hw.on bD
  have hrD := hr.on bD
  have BD := B0.trans (bD.mono B0.size)
  clear qo q3 hw hr B0 bD
  refine held_start (S := (fun _ => True)) 10 #[false, false, false, false, false, false, false, false, false, false] (by kernel_rfl) (by kernel_rfl) (by kernel_rfl) trivial (fun hHeld => ?_)
  generalize v2_.drew = wDa at *
  refine wpAnyH_take (i := 0) (v := ?_) (by simp only [List.getElem?_toArray, List.getElem?_cons_zero]; rfl) (by kernel_rfl) (by kernel_rfl) (by kernel_rfl) (by exact fun _ _ _ h => h) (Or.inl ⟨rfl, ?_⟩) (by assumption) ?_
  rotate_left
  · intro wz hSw; (try dsimp only at hSw); go_simp; try with_reducible rfl
  (try simp only [Act.put]); (try simp only [List.setIfInBounds_toArray]); (try simp only [List.set_cons_succ]); (try simp only [List.set_cons_zero])
  refine wpAnyH_take (i := 1) (v := ?_) (by simp only [List.getElem?_toArray, List.getElem?_cons_succ, List.getElem?_cons_zero]; rfl) (by kernel_rfl) (by kernel_rfl) (by kernel_rfl) (by exact fun _ _ _ h => h) (Or.inl ⟨rfl, ?_⟩) (by assumption) ?_
  rotate_left
  · intro wz hSw; (try dsimp only at hSw); go_simp; try with_reducible rfl
  (try simp only [Act.put]); (try simp only [List.setIfInBounds_toArray]); (try simp only [List.set_cons_succ]); (try simp only [List.set_cons_zero])
  refine wpAnyH_take (i := 2) (v := ?_) (by simp only [List.getElem?_toArray, List.getElem?_cons_succ, List.getElem?_cons_zero]; rfl) (by kernel_rfl) (by kernel_rfl) (by kernel_rfl) (by exact fun _ _ _ h => h) (Or.inl ⟨rfl, ?_⟩) (by assumption) ?_
  rotate_left
  · intro wz hSw; (try dsimp only at hSw); go_simp; try with_reducible rfl
  (try simp only [Act.put]); (try simp only [List.setIfInBounds_toArray]); (try simp only [List.set_cons_succ]); (try simp only [List.set_cons_zero])
  refine wpAnyH_take (i := 3) (v := ?_) (by simp only [List.getElem?_toArray, List.getElem?_cons_succ, List.getElem?_cons_zero]; rfl) (by kernel_rfl) (by kernel_rfl) (by kernel_rfl) (by exact fun _ _ _ h => h) (Or.inl ⟨rfl, ?_⟩) (by assumption) ?_
  rotate_left
  · intro wz hSw; (try dsimp only at hSw); go_simp; try with_reducible rfl
  (try simp only [Act.put]); (try simp only [List.setIfInBounds_toArray]); (try simp only [List.set_cons_succ]); (try simp only [List.set_cons_zero])
  refine wpAnyH_take (i := 4) (v := ?_) (by simp only [List.getElem?_toArray, List.getElem?_cons_succ, List.getElem?_cons_zero]; rfl) (by kernel_rfl) (by kernel_rfl) (by kernel_rfl) (by exact fun _ _ _ h => h) (Or.inl ⟨rfl, ?_⟩) (by assumption) ?_
  rotate_left
  · intro wz hSw; (try dsimp only at hSw); go_simp; try with_reducible rfl
  (try simp only [Act.put]); (try simp only [List.setIfInBounds_toArray]); (try simp only [List.set_cons_succ]); (try simp only [List.set_cons_zero])
  refine wpAnyH_take (i := 5) (v := ?_) (by simp only [List.getElem?_toArray, List.getElem?_cons_succ, List.getElem?_cons_zero]; rfl) (by kernel_rfl) (by kernel_rfl) (by kernel_rfl) (by exact fun _ _ _ h => h) (Or.inl ⟨rfl, ?_⟩) (by assumption) ?_
  rotate_left
  · intro wz hSw; (try dsimp only at hSw); go_simp; try with_reducible rfl
  (try simp only [Act.put]); (try simp only [List.setIfInBounds_toArray]); (try simp only [List.set_cons_succ]); (try simp only [List.set_cons_zero])
  refine wpAnyH_take (i := 9) (v := ?_) (by simp only [List.getElem?_toArray, List.getElem?_cons_succ, List.getElem?_cons_zero]; rfl) (by kernel_rfl) (by kernel_rfl) (by kernel_rfl) (by exact fun _ _ _ h => h) (Or.inl ⟨rfl, ?_⟩) (by assumption) ?_
  rotate_left
  · intro wz hSw; (try dsimp only at hSw); go_simp; try with_reducible rfl
  (try simp only [Act.put]); (try simp only [List.setIfInBounds_toArray]); (try simp only [List.set_cons_succ]); (try simp only [List.set_cons_zero])
  refine wpAnyH_ready (rs := [6]) (by kernel_rfl) (by simp) ?_
  refine AllReadyH.cons (by simp only [List.getElem?_toArray, List.getElem?_cons_succ, List.getElem?_cons_zero]; rfl) (fun K9 hK9 => ?_) AllReadyH.nil
  go_simp
  with_reducible refine (cMs _ hrD).mono ?_
  rintro e wa1 ⟨Al, cl, rfl, hl, bN⟩
  have qo_wa1 := qoD.on bN
  have q3_wa1 := q3D.on bN
  have hw_wa1 := hwD.on bN
  have hr_wa1 := hrD.on bN
  have B_wa1 := BD.trans (bN.mono BD.size)
  clear bN qoD q3D hwD hrD BD
  go_simp
  clear hHeld
  refine hK9.out _ _ trivial (fun hHeld => ?_)
  clear hK9 K9
  (try simp only [Act.put]); (try simp only [List.setIfInBounds_toArray]); (try simp only [List.set_cons_succ]); (try simp only [List.set_cons_zero])
  refine wpAnyH_ready (rs := [7]) (by kernel_rfl) (by simp) ?_
  refine AllReadyH.cons (by simp only [List.getElem?_toArray, List.getElem?_cons_succ, List.getElem?_cons_zero]; rfl) (fun K9 hK9 => ?_) AllReadyH.nil
  have bN := (Below.refl wa1.heap.size wa1).alloc (Nat.le_refl _) (.cells #[.slice A l1.length c, .slice Al L.length cl] 22)
  have qA_wa2 := RowAt.new wa1 22 #[.slice A l1.length c, .slice Al L.length cl]
  have qo_wa2 := qo_wa1.on bN
  have q3_wa2 := q3_wa1.on bN
  have hw_wa2 := hw_wa1.on bN
  have hr_wa2 := hr_wa1.on bN
  have hl_wa2 := hl.on bN
  have B_wa2 := B_wa1.trans (bN.mono B_wa1.size)
  clear bN qo_wa1 q3_wa1 hw_wa1 hr_wa1 hl B_wa1
  go_simp
  clear hHeld
  generalize wa1.alloc (.cells #[.slice A l1.length c, .slice Al L.length cl] 22) = wa2 at *
  obtain ⟨gwa2, hg9⟩ : ∃ gwa2, gwa2 = wa1.heap.size := ⟨_, rfl⟩
  rw [← hg9] at qA_wa2 ⊢
  clear hg9
  refine hK9.out _ _ trivial (fun hHeld => ?_)
  clear hK9 K9
  (try simp only [Act.put]); (try simp only [List.setIfInBounds_toArray]); (try simp only [List.set_cons_succ]); (try simp only [List.set_cons_zero])
  refine wpAnyH_take (i := 8) (v := ?_) (by simp only [List.getElem?_toArray, List.getElem?_cons_succ, List.getElem?_cons_zero]; rfl) (by kernel_rfl) (by kernel_rfl) (by kernel_rfl) (by exact fun _ _ _ h => h) (Or.inl ⟨rfl, ?_⟩) (by assumption) ?_
  rotate_left
  · intro wz hSw; (try dsimp only at hSw); go_simp; try with_reducible rfl
  (try simp only [Act.put]); (try simp only [List.setIfInBounds_toArray]); (try simp only [List.set_cons_succ]); (try simp only [List.set_cons_zero])
  refine wpAnyH_done (by kernel_rfl) ?_ _
  have qo := qo_wa2
  clear qo_wa2
  have q3 := q3_wa2
  clear q3_wa2
  have hw := hw_wa2
  clear hw_wa2
  have hr := hr_wa2
  clear hr_wa2
  have hl := hl_wa2
  clear hl_wa2
  have qA := qA_wa2
  clear qA_wa2
  have B0 := B_wa2
  clear B_wa2
  clear hr cMs
  have qA : RowAt wa2 gwa2 22 [.slice A l1.length c, .slice Al L.length cl] := qA
  obtain ⟨w8, hw9⟩ : ∃ x, x = wa2 := ⟨_, rfl⟩
  subst hw9
  go_wp2_with fail
  go_loopw [38] (fun iv wr => ∃ m : Nat, m ≤ 2 ∧ iv = .int .i64 (m : Int) ∧ Below w8.heap.size w8 wr) (fun iv _ => 2 - (RowKit.intOf iv).toNat)
  case atStart => exact ⟨0, Nat.zero_le _, rfl, Below.refl _ _⟩
  case round =>
    obtain ⟨m, hm, rfl, hb⟩ := hrel
    obtain ⟨wo, hwo⟩ : ∃ wo, wo = wr := ⟨_, rfl⟩
    subst hwo
    replace qo := qo.on hb
    replace q3 := q3.on hb
    replace qA := qA.on hb
    replace hw := hw.on hb
    replace hl := hl.on hb
    by_cases h2m : m < 2
    · have g1m : ((m : Int) < 2) = True := eq_true (by omega)
      have g2m : (m < 2) = True := eq_true h2m
      obtain ⟨Ax, cx, X, y0, hX, hX40⟩ := two_lists qA hw hl hn40 hLl m h2m
      go_upto_region 5 with (fail)
      clear y0 qA hw hl
      have bD := (Below.refl wo.heap.size wo).drew
      have qoD := qo.on bD
      have q3D := q3.on bD
      have hXD := hX.on bD
      have BD := hb.trans (bD.mono hb.size)
      clear qo q3 hX hb bD
      refine held_start (S := (fun W => W.cell? ⟨gO, 0, none⟩ = some (.int .i64 o0) ∧ W.cell? ⟨gO, 1, none⟩ = some (.int .i64 o1) ∧ W.cell? ⟨gO, 2, none⟩ = some (.int .i64 o2) ∧ W.cell? ⟨(gO + 1), 0, none⟩ = some (.int .i64 k0) ∧ W.cell? ⟨(gO + 1), 1, none⟩ = some (.int .i64 k1) ∧ W.cell? ⟨(gO + 1), 2, none⟩ = some (.int .i64 k2))) 6 #[false, false, false, false, false, false] (by kernel_rfl) (by kernel_rfl) (by kernel_rfl) ⟨qoD.cell 0, qoD.cell 1, qoD.cell 2, q3D.cell 0, q3D.cell 1, q3D.cell 2⟩ (fun hHeld => ?_)
      generalize wo.drew = wDb at *
      refine wpAnyH_take (i := 0) (v := ?_) (by simp only [List.getElem?_toArray, List.getElem?_cons_zero]; rfl) (by kernel_rfl) (by kernel_rfl) (by kernel_rfl) (by exact fun _ _ _ h => h) (Or.inl ⟨rfl, ?_⟩) (by assumption) ?_
      rotate_left
      · intro wz hSw; (try dsimp only at hSw); go_simp; try with_reducible rfl
      (try simp only [Act.put]); (try simp only [List.setIfInBounds_toArray]); (try simp only [List.set_cons_succ]); (try simp only [List.set_cons_zero])
      refine wpAnyH_take (i := 1) (v := ?_) (by simp only [List.getElem?_toArray, List.getElem?_cons_succ, List.getElem?_cons_zero]; rfl) (by kernel_rfl) (by kernel_rfl) (by kernel_rfl) (by exact fun _ _ _ h => h) (Or.inl ⟨rfl, ?_⟩) (by assumption) ?_
      rotate_left
      · intro wz hSw; (try dsimp only at hSw); go_simp; try with_reducible rfl
      (try simp only [Act.put]); (try simp only [List.setIfInBounds_toArray]); (try simp only [List.set_cons_succ]); (try simp only [List.set_cons_zero])
      refine wpAnyH_take (i := 5) (v := ?_) (by simp only [List.getElem?_toArray, List.getElem?_cons_succ, List.getElem?_cons_zero]; rfl) (by kernel_rfl) (by kernel_rfl) (by kernel_rfl) (by exact fun _ _ _ h => h) (Or.inl ⟨rfl, ?_⟩) (by assumption) ?_
      rotate_left
      · intro wz hSw; (try dsimp only at hSw); go_simp; try with_reducible rfl
      (try simp only [Act.put]); (try simp only [List.setIfInBounds_toArray]); (try simp only [List.set_cons_succ]); (try simp only [List.set_cons_zero])
      refine wpAnyH_ready (rs := [2]) (by kernel_rfl) (by simp) ?_
      refine AllReadyH.cons (by simp only [List.getElem?_toArray, List.getElem?_cons_succ, List.getElem?_cons_zero]; rfl) (fun K9 hK9 => ?_) AllReadyH.nil
      go_simp
      with_reducible refine (cMk _).mono ?_
      rintro e wb1 ⟨rfl, bN⟩
      have qo_wb1 := qoD.on bN
      have q3_wb1 := q3D.on bN
      have hX_wb1 := hXD.on bN
      have B_wb1 := BD.trans (bN.mono BD.size)
      clear bN qoD q3D hXD BD
      go_simp
      clear hHeld
      refine hK9.out _ _ ⟨qo_wb1.cell 0, qo_wb1.cell 1, qo_wb1.cell 2, q3_wb1.cell 0, q3_wb1.cell 1, q3_wb1.cell 2⟩ (fun hHeld => ?_)
      clear hK9 K9
      (try simp only [Act.put]); (try simp only [List.setIfInBounds_toArray]); (try simp only [List.set_cons_succ]); (try simp only [List.set_cons_zero])
      refine wpAnyH_ready (rs := [3]) (by kernel_rfl) (by simp) ?_
      refine AllReadyH.cons (by simp only [List.getElem?_toArray, List.getElem?_cons_succ, List.getElem?_cons_zero]; rfl) (fun K9 hK9 => ?_) AllReadyH.nil
      have bN := (Below.refl wb1.heap.size wb1).alloc (Nat.le_refl _) (.cells #[.int .i64 o0, .int .i64 o1, .int .i64 o2, .int .i64 p0, .int .i64 p1, .int .i64 p2] 25)
      have q6_wb2 := RowAt.new wb1 25 #[.int .i64 o0, .int .i64 o1, .int .i64 o2, .int .i64 p0, .int .i64 p1, .int .i64 p2]
      have qo_wb2 := qo_wb1.on bN
      have q3_wb2 := q3_wb1.on bN
      have hX_wb2 := hX_wb1.on bN
      have B_wb2 := B_wb1.trans (bN.mono B_wb1.size)
      clear bN qo_wb1 q3_wb1 hX_wb1 B_wb1
      go_simp
      clear hHeld
      generalize wb1.alloc (.cells #[.int .i64 o0, .int .i64 o1, .int .i64 o2, .int .i64 p0, .int .i64 p1, .int .i64 p2] 25) = wb2 at *
      obtain ⟨gwb2, hg9⟩ : ∃ gwb2, gwb2 = wb1.heap.size := ⟨_, rfl⟩
      rw [← hg9] at q6_wb2 ⊢
      clear hg9
      refine hK9.out _ _ ⟨qo_wb2.cell 0, qo_wb2.cell 1, qo_wb2.cell 2, q3_wb2.cell 0, q3_wb2.cell 1, q3_wb2.cell 2⟩ (fun hHeld => ?_)
      clear hK9 K9
      (try simp only [Act.put]); (try simp only [List.setIfInBounds_toArray]); (try simp only [List.set_cons_succ]); (try simp only [List.set_cons_zero])
      refine wpAnyH_take (i := 4) (v := ?_) (by simp only [List.getElem?_toArray, List.getElem?_cons_succ, List.getElem?_cons_zero]; rfl) (by kernel_rfl) (by kernel_rfl) (by kernel_rfl) (by exact fun _ _ _ h => h) (Or.inl ⟨rfl, ?_⟩) (by assumption) ?_
      rotate_left
      · intro wz hSw; (try dsimp only at hSw); go_simp; try with_reducible rfl
      (try simp only [Act.put]); (try simp only [List.setIfInBounds_toArray]); (try simp only [List.set_cons_succ]); (try simp only [List.set_cons_zero])
      refine wpAnyH_done (by kernel_rfl) ?_ _
      have qo := qo_wb2
      clear qo_wb2
      have q3 := q3_wb2
      clear q3_wb2
      have hX := hX_wb2
      clear hX_wb2
      have q6 := q6_wb2
      clear q6_wb2
      have hb := B_wb2
      clear B_wb2
      clear qo q3
      have q6 : RowAt wb2 gwb2 25 [.int .i64 o0, .int .i64 o1, .int .i64 o2, .int .i64 p0, .int .i64 p1, .int .i64 p2] := q6
      obtain ⟨w9, hw9⟩ : ∃ x, x = wb2 := ⟨_, rfl⟩
      subst hw9
      go_wp2_with fail
      go_loopw [47] (fun iv wr => ∃ m : Nat, m ≤ 2 ∧ iv = .int .i64 (m : Int) ∧ Below w9.heap.size w9 wr) (fun iv _ => 2 - (RowKit.intOf iv).toNat)
      case atStart => exact ⟨0, Nat.zero_le _, rfl, Below.refl _ _⟩
      case round =>
        obtain ⟨m1, hm1, rfl, hb6⟩ := hrel
        obtain ⟨wq, hwo⟩ : ∃ wo, wo = wr := ⟨_, rfl⟩
        subst hwo
        replace q6 := q6.on hb6
        replace hX := hX.on hb6
        by_cases h2m1 : m1 < 2
        · have g1m1 : ((m1 : Int) < 2) = True := eq_true (by omega)
          have g2m1 : (m1 < 2) = True := eq_true h2m1
          obtain ⟨x0, x1, x2, y0, y1, y2⟩ := two_marks q6 m1 h2m1
          go_upto_region 8 with (fail)
          have qx := RowAt.new wq 25 #[.int .i64 x0, .int .i64 x1, .int .i64 x2]
          have bN := (Below.refl wq.heap.size wq).alloc (Nat.le_refl _) (.cells #[.int .i64 x0, .int .i64 x1, .int .i64 x2] 25)
          replace hX := hX.on bN
          replace hb6 := hb6.trans (bN.mono hb6.size)
          clear bN
          generalize wq.alloc (.cells #[.int .i64 x0, .int .i64 x1, .int .i64 x2] 25) = v41_ at *
          obtain ⟨gX, hg9⟩ : ∃ gX, gX = wq.heap.size := ⟨_, rfl⟩
          rw [← hg9] at qx  ⊢
          clear hg9
          clear y0 y1 y2 q6
          go_wp2_with fail
          with_reducible refine (cPz _).mono ?_
          rintro o v42_ ⟨rfl, rfl⟩
          go_wp2_with fail
          have qR := RowAt.new v42_ 3 #[.int .i64 rm, .int .i64 z]
          have bN := (Below.refl v42_.heap.size v42_).alloc (Nat.le_refl _) (.cells #[.int .i64 rm, .int .i64 z] 3)
          replace qx := qx.on bN
          replace hX := hX.on bN
          replace hb6 := hb6.trans (bN.mono hb6.size)
          clear bN
          generalize v42_.alloc (.cells #[.int .i64 rm, .int .i64 z] 3) = v43_ at *
          obtain ⟨gR, hg9⟩ : ∃ gR, gR = v42_.heap.size := ⟨_, rfl⟩
          rw [← hg9] at qR  ⊢
          clear hg9
          obtain ⟨wR, hw9⟩ : ∃ x, x = v43_ := ⟨_, rfl⟩
          subst hw9
          go_wp2_with fail
          go_loopw [56] (fun iv wr => ∃ m : Nat, m ≤ 2 ∧ iv = .int .i64 (m : Int) ∧ Below wR.heap.size wR wr) (fun iv _ => 2 - (RowKit.intOf iv).toNat)
          case atStart => exact ⟨0, Nat.zero_le _, rfl, Below.refl _ _⟩
          case round =>
            obtain ⟨m2, hm2, rfl, hb7⟩ := hrel
            obtain ⟨wp, hwo⟩ : ∃ wo, wo = wr := ⟨_, rfl⟩
            subst hwo
            replace qx := qx.on hb7
            replace qR := qR.on hb7
            replace hX := hX.on hb7
            by_cases h2m2 : m2 < 2
            · have g1m2 : ((m2 : Int) < 2) = True := eq_true (by omega)
              have g2m2 : (m2 < 2) = True := eq_true h2m2
              obtain ⟨y, hy, y0⟩ := two_rooms qR hrm hzI m2 h2m2
              obtain ⟨R, E, hRE⟩ : ∃ R E, addR X y (x0, x1, x2) = (R, E) := ⟨_, _, rfl⟩
              have hR41 := addR_len hRE hX40
              have cS := fun W (h : Mks W W.heap.size (.slice Ax X.length cx) X) => sAdd_any _ X y x0 x1 x2 W h (by omega) hy R E hRE
              have cR := fun W (h : Mks W W.heap.size (.slice Ax X.length cx) X) => rAdd_any _ X y x0 x1 x2 W h (by omega) hy R E hRE
              have cHs := fun W (h : Mks W W.heap.size (.slice Ax X.length cx) X) => sHas_any _ X x0 x1 x2 W h (by omega)
              have cHr := fun W (h : Mks W W.heap.size (.slice Ax X.length cx) X) => rHas_any _ X x0 x1 x2 W h (by unfold maxLen; omega)
              have cSm := fun B C B' C' W (h : Mks W W.heap.size (.slice B R.length C) R) (h' : Mks W W.heap.size (.slice B' R.length C') R) => rSameM_any _ _ R R W h h' (by unfold maxLen; omega) (by unfold maxLen; omega)
              rw [show decide (R = R) = true from decide_eq_true rfl] at cSm
              generalize hasMB X (x0, x1, x2) = bh at cHs cHr
              clear hRE qR
              have qx_ := qx.cell
              have qx_0 := qx_ 0
              have qx_1 := qx_ 1
              have qx_2 := qx_ 2
              simp only [List.getElem?_cons_zero, List.getElem?_cons_succ] at qx_0 qx_1 qx_2
              clear qx_
              go_wp2_with fail
              with_reducible refine (cS _ hX).mono ?_
              rintro o v61_ ⟨As, cs, rfl, hS, -, bN⟩
              clear qx_0 qx_1 qx_2
              replace qx := qx.on bN
              replace hX := hX.on bN
              replace hb7 := hb7.trans (bN.mono hb7.size)
              clear bN
              clear y0 cS
              have qx_ := qx.cell
              have qx_0 := qx_ 0
              have qx_1 := qx_ 1
              have qx_2 := qx_ 2
              simp only [List.getElem?_cons_zero, List.getElem?_cons_succ] at qx_0 qx_1 qx_2
              clear qx_
              go_wp2_with fail
              with_reducible refine (cR _ hX).mono ?_
              rintro o v62_ ⟨At, ct, rfl, hT, -, bN⟩
              clear qx_0 qx_1 qx_2
              replace qx := qx.on bN
              replace hX := hX.on bN
              replace hS := hS.on bN
              replace hb7 := hb7.trans (bN.mono hb7.size)
              clear bN
              clear cR
              go_upto_region 13 with (fail)
              have bD := (Below.refl v62_.heap.size v62_).drew
              have qxD := qx.on bD
              have hXD := hX.on bD
              have hSD := hS.on bD
              have hTD := hT.on bD
              have BD := hb7.trans (bD.mono hb7.size)
              clear qx hX hS hT hb7 bD
              refine held_start (S := (fun W => W.cell? ⟨gX, 0, none⟩ = some (.int .i64 x0) ∧ W.cell? ⟨gX, 1, none⟩ = some (.int .i64 x1) ∧ W.cell? ⟨gX, 2, none⟩ = some (.int .i64 x2))) 18 #[false, false, false, false, false, false, false, false, false, false, false, false, false, false, false, false, false, false] (by kernel_rfl) (by kernel_rfl) (by kernel_rfl) ⟨qxD.cell 0, qxD.cell 1, qxD.cell 2⟩ (fun hHeld => ?_)
              generalize v62_.drew = wDc at *
              refine wpAnyH_take (i := 0) (v := ?_) (by simp only [List.getElem?_toArray, List.getElem?_cons_zero]; rfl) (by kernel_rfl) (by kernel_rfl) (by kernel_rfl) (by exact fun _ _ _ h => h) (Or.inl ⟨rfl, ?_⟩) (by assumption) ?_
              rotate_left
              · intro wz hSw; (try dsimp only at hSw); go_simp; try with_reducible rfl
              (try simp only [Act.put]); (try simp only [List.setIfInBounds_toArray]); (try simp only [List.set_cons_succ]); (try simp only [List.set_cons_zero])
              refine wpAnyH_take (i := 1) (v := ?_) (by simp only [List.getElem?_toArray, List.getElem?_cons_succ, List.getElem?_cons_zero]; rfl) (by kernel_rfl) (by kernel_rfl) (by kernel_rfl) (by exact fun _ _ _ h => h) (Or.inl ⟨rfl, ?_⟩) (by assumption) ?_
              rotate_left
              · intro wz hSw; (try dsimp only at hSw); go_simp; try with_reducible rfl
              (try simp only [Act.put]); (try simp only [List.setIfInBounds_toArray]); (try simp only [List.set_cons_succ]); (try simp only [List.set_cons_zero])
              refine wpAnyH_take (i := 2) (v := ?_) (by simp only [List.getElem?_toArray, List.getElem?_cons_succ, List.getElem?_cons_zero]; rfl) (by kernel_rfl) (by kernel_rfl) (by kernel_rfl) (by exact fun _ _ _ h => h) (Or.inl ⟨rfl, ?_⟩) (by assumption) ?_
              rotate_left
              · intro wz hSw; (try dsimp only at hSw); go_simp; try with_reducible rfl
              (try simp only [Act.put]); (try simp only [List.setIfInBounds_toArray]); (try simp only [List.set_cons_succ]); (try simp only [List.set_cons_zero])
              refine wpAnyH_take (i := 3) (v := ?_) (by simp only [List.getElem?_toArray, List.getElem?_cons_succ, List.getElem?_cons_zero]; rfl) (by kernel_rfl) (by kernel_rfl) (by kernel_rfl) (by exact fun _ _ _ h => h) (Or.inl ⟨rfl, ?_⟩) (by assumption) ?_
              rotate_left
              · intro wz hSw; (try dsimp only at hSw); go_simp; try with_reducible rfl
              (try simp only [Act.put]); (try simp only [List.setIfInBounds_toArray]); (try simp only [List.set_cons_succ]); (try simp only [List.set_cons_zero])
              refine wpAnyH_take (i := 4) (v := ?_) (by simp only [List.getElem?_toArray, List.getElem?_cons_succ, List.getElem?_cons_zero]; rfl) (by kernel_rfl) (by kernel_rfl) (by kernel_rfl) (by exact fun _ _ _ h => h) (Or.inl ⟨rfl, ?_⟩) (by assumption) ?_
              rotate_left
              · intro wz hSw; (try dsimp only at hSw); go_simp; try with_reducible rfl
              (try simp only [Act.put]); (try simp only [List.setIfInBounds_toArray]); (try simp only [List.set_cons_succ]); (try simp only [List.set_cons_zero])
              refine wpAnyH_take (i := 5) (v := ?_) (by simp only [List.getElem?_toArray, List.getElem?_cons_succ, List.getElem?_cons_zero]; rfl) (by kernel_rfl) (by kernel_rfl) (by kernel_rfl) (by exact fun _ _ _ h => h) (Or.inl ⟨rfl, ?_⟩) (by assumption) ?_
              rotate_left
              · intro wz hSw; (try dsimp only at hSw); go_simp; try with_reducible rfl
              (try simp only [Act.put]); (try simp only [List.setIfInBounds_toArray]); (try simp only [List.set_cons_succ]); (try simp only [List.set_cons_zero])
              refine wpAnyH_ready (rs := [6]) (by kernel_rfl) (by simp) ?_
              refine AllReadyH.cons (by simp only [List.getElem?_toArray, List.getElem?_cons_succ, List.getElem?_cons_zero]; rfl) (fun K9 hK9 => ?_) AllReadyH.nil
              go_simp
              with_reducible refine (cSm _ _ _ _ _ hSD hTD).mono ?_
              rintro e wc1 ⟨rfl, bN⟩
              have qx_wc1 := qxD.on bN
              have hX_wc1 := hXD.on bN
              have hS_wc1 := hSD.on bN
              have hT_wc1 := hTD.on bN
              have B_wc1 := BD.trans (bN.mono BD.size)
              clear bN qxD hXD hSD hTD BD
              go_simp
              clear hHeld
              refine hK9.out _ _ ⟨qx_wc1.cell 0, qx_wc1.cell 1, qx_wc1.cell 2⟩ (fun hHeld => ?_)
              clear hK9 K9
              (try simp only [Act.put]); (try simp only [List.setIfInBounds_toArray]); (try simp only [List.set_cons_succ]); (try simp only [List.set_cons_zero])
              refine wpAnyH_take (i := 7) (v := ?_) (by simp only [List.getElem?_toArray, List.getElem?_cons_succ, List.getElem?_cons_zero]; rfl) (by kernel_rfl) (by kernel_rfl) (by kernel_rfl) (by exact fun _ _ _ h => h) (Or.inl ⟨rfl, ?_⟩) (by assumption) ?_
              rotate_left
              · intro wz hSw; (try dsimp only at hSw); go_simp; try with_reducible rfl
              (try simp only [Act.put]); (try simp only [List.setIfInBounds_toArray]); (try simp only [List.set_cons_succ]); (try simp only [List.set_cons_zero])
              refine wpAnyH_take (i := 8) (v := ?_) (by simp only [List.getElem?_toArray, List.getElem?_cons_succ, List.getElem?_cons_zero]; rfl) (by kernel_rfl) (by kernel_rfl) (by kernel_rfl) (by exact fun _ _ _ h => h) (Or.inl ⟨rfl, ?_⟩) (by assumption) ?_
              rotate_left
              · intro wz hSw; (try dsimp only at hSw); go_simp; try with_reducible rfl
              (try simp only [Act.put]); (try simp only [List.setIfInBounds_toArray]); (try simp only [List.set_cons_succ]); (try simp only [List.set_cons_zero])
              refine wpAnyH_take (i := 9) (v := ?_) (by simp only [List.getElem?_toArray, List.getElem?_cons_succ, List.getElem?_cons_zero]; rfl) (by kernel_rfl) (by kernel_rfl) (by kernel_rfl) (by exact fun _ _ _ h => h) (Or.inl ⟨rfl, ?_⟩) (by assumption) ?_
              rotate_left
              · intro wz hSw; (try dsimp only at hSw); go_simp; try with_reducible rfl
              (try simp only [Act.put]); (try simp only [List.setIfInBounds_toArray]); (try simp only [List.set_cons_succ]); (try simp only [List.set_cons_zero])
              refine wpAnyH_take (i := 10) (v := ?_) (by simp only [List.getElem?_toArray, List.getElem?_cons_succ, List.getElem?_cons_zero]; rfl) (by kernel_rfl) (by kernel_rfl) (by kernel_rfl) (by exact fun _ _ _ h => h) (Or.inl ⟨rfl, ?_⟩) (by assumption) ?_
              rotate_left
              · intro wz hSw; (try dsimp only at hSw); go_simp; try with_reducible rfl
              (try simp only [Act.put]); (try simp only [List.setIfInBounds_toArray]); (try simp only [List.set_cons_succ]); (try simp only [List.set_cons_zero])
              refine wpAnyH_take (i := 11) (v := ?_) (by simp only [List.getElem?_toArray, List.getElem?_cons_succ, List.getElem?_cons_zero]; rfl) (by kernel_rfl) (by kernel_rfl) (by kernel_rfl) (by exact fun _ _ _ h => h) (Or.inl ⟨rfl, ?_⟩) (by assumption) ?_
              rotate_left
              · intro wz hSw; (try dsimp only at hSw); go_simp; try with_reducible rfl
              (try simp only [Act.put]); (try simp only [List.setIfInBounds_toArray]); (try simp only [List.set_cons_succ]); (try simp only [List.set_cons_zero])
              refine wpAnyH_take (i := 13) (v := ?_) (by simp only [List.getElem?_toArray, List.getElem?_cons_succ, List.getElem?_cons_zero]; rfl) (by kernel_rfl) (by kernel_rfl) (by kernel_rfl) (by exact fun _ _ _ h => h) (Or.inl ⟨rfl, ?_⟩) (by assumption) ?_
              rotate_left
              · intro wz hSw; (try dsimp only at hSw); go_simp; try with_reducible rfl
              (try simp only [Act.put]); (try simp only [List.setIfInBounds_toArray]); (try simp only [List.set_cons_succ]); (try simp only [List.set_cons_zero])
              refine wpAnyH_take (i := 14) (v := ?_) (by simp only [List.getElem?_toArray, List.getElem?_cons_succ, List.getElem?_cons_zero]; rfl) (by kernel_rfl) (by kernel_rfl) (by kernel_rfl) (by exact fun _ _ _ h => h) (Or.inl ⟨rfl, ?_⟩) (by assumption) ?_
              rotate_left
              · intro wz hSw; (try dsimp only at hSw); go_simp; try with_reducible rfl
              (try simp only [Act.put]); (try simp only [List.setIfInBounds_toArray]); (try simp only [List.set_cons_succ]); (try simp only [List.set_cons_zero])
              refine wpAnyH_ready (rs := [12]) (by kernel_rfl) (by simp) ?_
              refine AllReadyH.cons (by simp only [List.getElem?_toArray, List.getElem?_cons_succ, List.getElem?_cons_zero]; rfl) (fun K9 hK9 => ?_) AllReadyH.nil
              go_simp
              with_reducible refine (cHs _ hX_wc1).mono ?_
              rintro e wc2 ⟨rfl, bN⟩
              have qx_wc2 := qx_wc1.on bN
              have hX_wc2 := hX_wc1.on bN
              have hS_wc2 := hS_wc1.on bN
              have hT_wc2 := hT_wc1.on bN
              have B_wc2 := B_wc1.trans (bN.mono B_wc1.size)
              clear bN qx_wc1 hX_wc1 hS_wc1 hT_wc1 B_wc1
              go_simp
              clear hHeld
              refine hK9.out _ _ ⟨qx_wc2.cell 0, qx_wc2.cell 1, qx_wc2.cell 2⟩ (fun hHeld => ?_)
              clear hK9 K9
              (try simp only [Act.put]); (try simp only [List.setIfInBounds_toArray]); (try simp only [List.set_cons_succ]); (try simp only [List.set_cons_zero])
              refine wpAnyH_ready (rs := [15]) (by kernel_rfl) (by simp) ?_
              refine AllReadyH.cons (by simp only [List.getElem?_toArray, List.getElem?_cons_succ, List.getElem?_cons_zero]; rfl) (fun K9 hK9 => ?_) AllReadyH.nil
              go_simp
              with_reducible refine (cHr _ hX_wc2).mono ?_
              rintro e wc3 ⟨rfl, bN⟩
              have qx_wc3 := qx_wc2.on bN
              have hX_wc3 := hX_wc2.on bN
              have hS_wc3 := hS_wc2.on bN
              have hT_wc3 := hT_wc2.on bN
              have B_wc3 := B_wc2.trans (bN.mono B_wc2.size)
              clear bN qx_wc2 hX_wc2 hS_wc2 hT_wc2 B_wc2
              go_simp
              clear hHeld
              refine hK9.out _ _ ⟨qx_wc3.cell 0, qx_wc3.cell 1, qx_wc3.cell 2⟩ (fun hHeld => ?_)
              clear hK9 K9
              (try simp only [Act.put]); (try simp only [List.setIfInBounds_toArray]); (try simp only [List.set_cons_succ]); (try simp only [List.set_cons_zero])
              refine wpAnyH_take (i := 16) (v := ?_) (by simp only [List.getElem?_toArray, List.getElem?_cons_succ, List.getElem?_cons_zero]; rfl) (by kernel_rfl) (by kernel_rfl) (by kernel_rfl) (by exact fun _ _ _ h => h) (Or.inl ⟨rfl, ?_⟩) (by assumption) ?_
              rotate_left
              · intro wz hSw; (try dsimp only at hSw); go_simp; try with_reducible rfl
              (try simp only [Act.put]); (try simp only [List.setIfInBounds_toArray]); (try simp only [List.set_cons_succ]); (try simp only [List.set_cons_zero])
              refine wpAnyH_take (i := 17) (v := ?_) (by simp only [List.getElem?_toArray, List.getElem?_cons_succ, List.getElem?_cons_zero]; rfl) (by kernel_rfl) (by kernel_rfl) (by kernel_rfl) (by exact fun _ _ _ h => h) (Or.inl ⟨rfl, ?_⟩) (by assumption) ?_
              rotate_left
              · intro wz hSw; (try dsimp only at hSw); go_simp; try with_reducible rfl
              (try simp only [Act.put]); (try simp only [List.setIfInBounds_toArray]); (try simp only [List.set_cons_succ]); (try simp only [List.set_cons_zero])
              refine wpAnyH_done (by kernel_rfl) ?_ _
              have qx := qx_wc3
              clear qx_wc3
              have hX := hX_wc3
              clear hX_wc3
              have hS := hS_wc3
              clear hS_wc3
              have hT := hT_wc3
              clear hT_wc3
              have hb7 := B_wc3
              clear B_wc3
              go_simp
              go_wp2_with fail
              go_roundw
              case rel => exact ⟨m2 + 1, by omega, by go_num, hb7⟩
              case measure => simp [RowKit.intOf]; omega
            · obtain rfl : m2 = 2 := by omega
              go_wp2_with fail
              go_roundw
              case rel => exact ⟨m1 + 1, by omega, by go_num, hb6.trans (hb7.mono hb6.size)⟩
              case measure => simp [RowKit.intOf]; omega
        · obtain rfl : m1 = 2 := by omega
          clear q6
          go_wp2_with fail
          with_reducible refine (cP6 _).mono ?_
          rintro o v81_ ⟨rfl, rfl⟩
          go_wp2_with fail
          with_reducible refine (cP3 _).mono ?_
          rintro o v82_ ⟨rfl, rfl⟩
          go_wp2_with fail
          have qT := RowAt.new v82_ 38 #[.int .i64 ep, .int .i64 kd, .int .i64 z6, .int .i64 z3]
          have bN := (Below.refl v82_.heap.size v82_).alloc (Nat.le_refl _) (.cells #[.int .i64 ep, .int .i64 kd, .int .i64 z6, .int .i64 z3] 38)
          replace hX := hX.on bN
          replace hb6 := hb6.trans (bN.mono hb6.size)
          clear bN
          generalize v82_.alloc (.cells #[.int .i64 ep, .int .i64 kd, .int .i64 z6, .int .i64 z3] 38) = v83_ at *
          obtain ⟨gT, hg9⟩ : ∃ gT, gT = v82_.heap.size := ⟨_, rfl⟩
          rw [← hg9] at qT  ⊢
          clear hg9
          obtain ⟨wT, hw9⟩ : ∃ x, x = v83_ := ⟨_, rfl⟩
          subst hw9
          go_wp2_with fail
          go_loopw [104] (fun iv wr => ∃ m : Nat, m ≤ 2 ∧ iv = .int .i64 (m : Int) ∧ Below wT.heap.size wT wr) (fun iv _ => 2 - (RowKit.intOf iv).toNat)
          case atStart => exact ⟨0, Nat.zero_le _, rfl, Below.refl _ _⟩
          case round =>
            obtain ⟨m3, hm3, rfl, hb8⟩ := hrel
            obtain ⟨wu, hwo⟩ : ∃ wo, wo = wr := ⟨_, rfl⟩
            subst hwo
            replace qT := qT.on hb8
            replace hX := hX.on hb8
            by_cases h2m3 : m3 < 2
            · have g1m3 : ((m3 : Int) < 2) = True := eq_true (by omega)
              have g2m3 : (m3 < 2) = True := eq_true h2m3
              obtain ⟨e, d, y0, y1⟩ := two_turns qT m3 h2m3
              go_upto_region 20 with (fail)
              have qp := RowAt.new wu 38 #[.int .i64 e, .int .i64 d]
              have bN := (Below.refl wu.heap.size wu).alloc (Nat.le_refl _) (.cells #[.int .i64 e, .int .i64 d] 38)
              replace hX := hX.on bN
              replace hb8 := hb8.trans (bN.mono hb8.size)
              clear bN
              generalize wu.alloc (.cells #[.int .i64 e, .int .i64 d] 38) = v101_ at *
              obtain ⟨gP, hg9⟩ : ∃ gP, gP = wu.heap.size := ⟨_, rfl⟩
              rw [← hg9] at qp  ⊢
              clear hg9
              clear y0 y1 qT
              obtain ⟨Pr, hPr⟩ : ∃ x, pruneR e X = x := ⟨_, rfl⟩
              have hPl := pruneR_len e X
              rw [hPr] at hPl
              obtain ⟨Wo, hWo⟩ : ∃ x, ofR e d X = x := ⟨_, rfl⟩
              have hWl := ofR_len e d X
              rw [hWo] at hWl
              have cP := fun W (h : Mks W W.heap.size (.slice Ax X.length cx) X) => sPrune_any _ X e W h (by omega) Pr hPr
              have rP := fun W (h : Mks W W.heap.size (.slice Ax X.length cx) X) => rPrune_any _ X e W h (by omega) Pr hPr
              have cO := fun W (h : Mks W W.heap.size (.slice Ax X.length cx) X) => sOf_any _ X e d W h (by omega) Wo hWo
              have rO := fun W (h : Mks W W.heap.size (.slice Ax X.length cx) X) => rOf_any _ X e d W h (by omega) Wo hWo
              have cSm := fun B C B' C' W (h : Mks W W.heap.size (.slice B Pr.length C) Pr) (h' : Mks W W.heap.size (.slice B' Pr.length C') Pr) => rSameM_any _ _ Pr Pr W h h' (by unfold maxLen; omega) (by unfold maxLen; omega)
              rw [show decide (Pr = Pr) = true from decide_eq_true rfl] at cSm
              have cIn := fun B C B' C' W (h : Ints W W.heap.size (.slice B Wo.length C) Wo) (h' : Ints W W.heap.size (.slice B' Wo.length C') Wo) => IntsM_same _ _ Wo W h h' (by omega)
              clear hPr hWo
              have bD := (Below.refl v101_.heap.size v101_).drew
              have qpD := qp.on bD
              have hXD := hX.on bD
              have BD := hb8.trans (bD.mono hb8.size)
              clear qp hX hb8 bD
              refine held_start (S := (fun W => W.cell? ⟨gP, 0, none⟩ = some (.int .i64 e) ∧ W.cell? ⟨gP, 1, none⟩ = some (.int .i64 d))) 26 #[false, false, false, false, false, false, false, false, false, false, false, false, false, false, false, false, false, false, false, false, false, false, false, false, false, false] (by kernel_rfl) (by kernel_rfl) (by kernel_rfl) ⟨qpD.cell 0, qpD.cell 1⟩ (fun hHeld => ?_)
              generalize v101_.drew = wDd at *
              refine wpAnyH_take (i := 0) (v := ?_) (by simp only [List.getElem?_toArray, List.getElem?_cons_zero]; rfl) (by kernel_rfl) (by kernel_rfl) (by kernel_rfl) (by exact fun _ _ _ h => h) (Or.inl ⟨rfl, ?_⟩) (by assumption) ?_
              rotate_left
              · intro wz hSw; (try dsimp only at hSw); go_simp; try with_reducible rfl
              (try simp only [Act.put]); (try simp only [List.setIfInBounds_toArray]); (try simp only [List.set_cons_succ]); (try simp only [List.set_cons_zero])
              refine wpAnyH_take (i := 1) (v := ?_) (by simp only [List.getElem?_toArray, List.getElem?_cons_succ, List.getElem?_cons_zero]; rfl) (by kernel_rfl) (by kernel_rfl) (by kernel_rfl) (by exact fun _ _ _ h => h) (Or.inl ⟨rfl, ?_⟩) (by assumption) ?_
              rotate_left
              · intro wz hSw; (try dsimp only at hSw); go_simp; try with_reducible rfl
              (try simp only [Act.put]); (try simp only [List.setIfInBounds_toArray]); (try simp only [List.set_cons_succ]); (try simp only [List.set_cons_zero])
              refine wpAnyH_take (i := 2) (v := ?_) (by simp only [List.getElem?_toArray, List.getElem?_cons_succ, List.getElem?_cons_zero]; rfl) (by kernel_rfl) (by kernel_rfl) (by kernel_rfl) (by exact fun _ _ _ h => h) (Or.inl ⟨rfl, ?_⟩) (by assumption) ?_
              rotate_left
              · intro wz hSw; (try dsimp only at hSw); go_simp; try with_reducible rfl
              (try simp only [Act.put]); (try simp only [List.setIfInBounds_toArray]); (try simp only [List.set_cons_succ]); (try simp only [List.set_cons_zero])
              refine wpAnyH_take (i := 4) (v := ?_) (by simp only [List.getElem?_toArray, List.getElem?_cons_succ, List.getElem?_cons_zero]; rfl) (by kernel_rfl) (by kernel_rfl) (by kernel_rfl) (by exact fun _ _ _ h => h) (Or.inl ⟨rfl, ?_⟩) (by assumption) ?_
              rotate_left
              · intro wz hSw; (try dsimp only at hSw); go_simp; try with_reducible rfl
              (try simp only [Act.put]); (try simp only [List.setIfInBounds_toArray]); (try simp only [List.set_cons_succ]); (try simp only [List.set_cons_zero])
              refine wpAnyH_take (i := 5) (v := ?_) (by simp only [List.getElem?_toArray, List.getElem?_cons_succ, List.getElem?_cons_zero]; rfl) (by kernel_rfl) (by kernel_rfl) (by kernel_rfl) (by exact fun _ _ _ h => h) (Or.inl ⟨rfl, ?_⟩) (by assumption) ?_
              rotate_left
              · intro wz hSw; (try dsimp only at hSw); go_simp; try with_reducible rfl
              (try simp only [Act.put]); (try simp only [List.setIfInBounds_toArray]); (try simp only [List.set_cons_succ]); (try simp only [List.set_cons_zero])
              refine wpAnyH_take (i := 6) (v := ?_) (by simp only [List.getElem?_toArray, List.getElem?_cons_succ, List.getElem?_cons_zero]; rfl) (by kernel_rfl) (by kernel_rfl) (by kernel_rfl) (by exact fun _ _ _ h => h) (Or.inl ⟨rfl, ?_⟩) (by assumption) ?_
              rotate_left
              · intro wz hSw; (try dsimp only at hSw); go_simp; try with_reducible rfl
              (try simp only [Act.put]); (try simp only [List.setIfInBounds_toArray]); (try simp only [List.set_cons_succ]); (try simp only [List.set_cons_zero])
              refine wpAnyH_ready (rs := [3]) (by kernel_rfl) (by simp) ?_
              refine AllReadyH.cons (by simp only [List.getElem?_toArray, List.getElem?_cons_succ, List.getElem?_cons_zero]; rfl) (fun K9 hK9 => ?_) AllReadyH.nil
              go_simp
              with_reducible refine (cP _ hXD).mono ?_
              rintro e wd1 ⟨A1, c1, rfl, hP1, -, bN⟩
              have qp_wd1 := qpD.on bN
              have hX_wd1 := hXD.on bN
              have B_wd1 := BD.trans (bN.mono BD.size)
              clear bN qpD hXD BD
              go_simp
              clear hHeld
              refine hK9.out _ _ ⟨qp_wd1.cell 0, qp_wd1.cell 1⟩ (fun hHeld => ?_)
              clear hK9 K9
              (try simp only [Act.put]); (try simp only [List.setIfInBounds_toArray]); (try simp only [List.set_cons_succ]); (try simp only [List.set_cons_zero])
              refine wpAnyH_ready (rs := [7]) (by kernel_rfl) (by simp) ?_
              refine AllReadyH.cons (by simp only [List.getElem?_toArray, List.getElem?_cons_succ, List.getElem?_cons_zero]; rfl) (fun K9 hK9 => ?_) AllReadyH.nil
              go_simp
              with_reducible refine (rP _ hX_wd1).mono ?_
              rintro e wd2 ⟨A2, c2, rfl, hP2, -, bN⟩
              have qp_wd2 := qp_wd1.on bN
              have hX_wd2 := hX_wd1.on bN
              have hP1_wd2 := hP1.on bN
              have B_wd2 := B_wd1.trans (bN.mono B_wd1.size)
              clear bN qp_wd1 hX_wd1 hP1 B_wd1
              go_simp
              clear hHeld
              refine hK9.out _ _ ⟨qp_wd2.cell 0, qp_wd2.cell 1⟩ (fun hHeld => ?_)
              clear hK9 K9
              (try simp only [Act.put]); (try simp only [List.setIfInBounds_toArray]); (try simp only [List.set_cons_succ]); (try simp only [List.set_cons_zero])
              refine wpAnyH_ready (rs := [8]) (by kernel_rfl) (by simp) ?_
              refine AllReadyH.cons (by simp only [List.getElem?_toArray, List.getElem?_cons_succ, List.getElem?_cons_zero]; rfl) (fun K9 hK9 => ?_) AllReadyH.nil
              go_simp
              with_reducible refine (cSm _ _ _ _ _ hP1_wd2 hP2).mono ?_
              rintro e wd3 ⟨rfl, bN⟩
              have qp_wd3 := qp_wd2.on bN
              have hX_wd3 := hX_wd2.on bN
              have hP1_wd3 := hP1_wd2.on bN
              have hP2_wd3 := hP2.on bN
              have B_wd3 := B_wd2.trans (bN.mono B_wd2.size)
              clear bN qp_wd2 hX_wd2 hP1_wd2 hP2 B_wd2
              go_simp
              clear hHeld
              refine hK9.out _ _ ⟨qp_wd3.cell 0, qp_wd3.cell 1⟩ (fun hHeld => ?_)
              clear hK9 K9
              (try simp only [Act.put]); (try simp only [List.setIfInBounds_toArray]); (try simp only [List.set_cons_succ]); (try simp only [List.set_cons_zero])
              refine wpAnyH_take (i := 9) (v := ?_) (by simp only [List.getElem?_toArray, List.getElem?_cons_succ, List.getElem?_cons_zero]; rfl) (by kernel_rfl) (by kernel_rfl) (by kernel_rfl) (by exact fun _ _ _ h => h) (Or.inl ⟨rfl, ?_⟩) (by assumption) ?_
              rotate_left
              · intro wz hSw; (try dsimp only at hSw); go_simp; try with_reducible rfl
              (try simp only [Act.put]); (try simp only [List.setIfInBounds_toArray]); (try simp only [List.set_cons_succ]); (try simp only [List.set_cons_zero])
              refine wpAnyH_take (i := 10) (v := ?_) (by simp only [List.getElem?_toArray, List.getElem?_cons_succ, List.getElem?_cons_zero]; rfl) (by kernel_rfl) (by kernel_rfl) (by kernel_rfl) (by exact fun _ _ _ h => h) (Or.inl ⟨rfl, ?_⟩) (by assumption) ?_
              rotate_left
              · intro wz hSw; (try dsimp only at hSw); go_simp; try with_reducible rfl
              (try simp only [Act.put]); (try simp only [List.setIfInBounds_toArray]); (try simp only [List.set_cons_succ]); (try simp only [List.set_cons_zero])
              refine wpAnyH_take (i := 11) (v := ?_) (by simp only [List.getElem?_toArray, List.getElem?_cons_succ, List.getElem?_cons_zero]; rfl) (by kernel_rfl) (by kernel_rfl) (by kernel_rfl) (by exact fun _ _ _ h => h) (Or.inl ⟨rfl, ?_⟩) (by assumption) ?_
              rotate_left
              · intro wz hSw; (try dsimp only at hSw); go_simp; try with_reducible rfl
              (try simp only [Act.put]); (try simp only [List.setIfInBounds_toArray]); (try simp only [List.set_cons_succ]); (try simp only [List.set_cons_zero])
              refine wpAnyH_take (i := 12) (v := ?_) (by simp only [List.getElem?_toArray, List.getElem?_cons_succ, List.getElem?_cons_zero]; rfl) (by kernel_rfl) (by kernel_rfl) (by kernel_rfl) (by exact fun _ _ _ h => h) (Or.inl ⟨rfl, ?_⟩) (by assumption) ?_
              rotate_left
              · intro wz hSw; (try dsimp only at hSw); go_simp; try with_reducible rfl
              (try simp only [Act.put]); (try simp only [List.setIfInBounds_toArray]); (try simp only [List.set_cons_succ]); (try simp only [List.set_cons_zero])
              refine wpAnyH_take (i := 13) (v := ?_) (by simp only [List.getElem?_toArray, List.getElem?_cons_succ, List.getElem?_cons_zero]; rfl) (by kernel_rfl) (by kernel_rfl) (by kernel_rfl) (by exact fun _ _ _ h => h) (Or.inl ⟨rfl, ?_⟩) (by assumption) ?_
              rotate_left
              · intro wz hSw; (try dsimp only at hSw); go_simp; try with_reducible rfl
              (try simp only [Act.put]); (try simp only [List.setIfInBounds_toArray]); (try simp only [List.set_cons_succ]); (try simp only [List.set_cons_zero])
              refine wpAnyH_take (i := 14) (v := ?_) (by simp only [List.getElem?_toArray, List.getElem?_cons_succ, List.getElem?_cons_zero]; rfl) (by kernel_rfl) (by kernel_rfl) (by kernel_rfl) (by exact fun _ _ _ h => h) (Or.inl ⟨rfl, ?_⟩) (by assumption) ?_
              rotate_left
              · intro wz hSw; (try dsimp only at hSw); go_simp; try with_reducible rfl
              (try simp only [Act.put]); (try simp only [List.setIfInBounds_toArray]); (try simp only [List.set_cons_succ]); (try simp only [List.set_cons_zero])
              refine wpAnyH_take (i := 15) (v := ?_) (by simp only [List.getElem?_toArray, List.getElem?_cons_succ, List.getElem?_cons_zero]; rfl) (by kernel_rfl) (by kernel_rfl) (by kernel_rfl) (by exact fun _ _ _ h => h) (Or.inl ⟨rfl, ?_⟩) (by assumption) ?_
              rotate_left
              · intro wz hSw; (try dsimp only at hSw); go_simp; try with_reducible rfl
              (try simp only [Act.put]); (try simp only [List.setIfInBounds_toArray]); (try simp only [List.set_cons_succ]); (try simp only [List.set_cons_zero])
              refine wpAnyH_take (i := 17) (v := ?_) (by simp only [List.getElem?_toArray, List.getElem?_cons_succ, List.getElem?_cons_zero]; rfl) (by kernel_rfl) (by kernel_rfl) (by kernel_rfl) (by exact fun _ _ _ h => h) (Or.inl ⟨rfl, ?_⟩) (by assumption) ?_
              rotate_left
              · intro wz hSw; (try dsimp only at hSw); go_simp; try with_reducible rfl
              (try simp only [Act.put]); (try simp only [List.setIfInBounds_toArray]); (try simp only [List.set_cons_succ]); (try simp only [List.set_cons_zero])
              refine wpAnyH_take (i := 18) (v := ?_) (by simp only [List.getElem?_toArray, List.getElem?_cons_succ, List.getElem?_cons_zero]; rfl) (by kernel_rfl) (by kernel_rfl) (by kernel_rfl) (by exact fun _ _ _ h => h) (Or.inl ⟨rfl, ?_⟩) (by assumption) ?_
              rotate_left
              · intro wz hSw; (try dsimp only at hSw); go_simp; try with_reducible rfl
              (try simp only [Act.put]); (try simp only [List.setIfInBounds_toArray]); (try simp only [List.set_cons_succ]); (try simp only [List.set_cons_zero])
              refine wpAnyH_take (i := 19) (v := ?_) (by simp only [List.getElem?_toArray, List.getElem?_cons_succ, List.getElem?_cons_zero]; rfl) (by kernel_rfl) (by kernel_rfl) (by kernel_rfl) (by exact fun _ _ _ h => h) (Or.inl ⟨rfl, ?_⟩) (by assumption) ?_
              rotate_left
              · intro wz hSw; (try dsimp only at hSw); go_simp; try with_reducible rfl
              (try simp only [Act.put]); (try simp only [List.setIfInBounds_toArray]); (try simp only [List.set_cons_succ]); (try simp only [List.set_cons_zero])
              refine wpAnyH_take (i := 20) (v := ?_) (by simp only [List.getElem?_toArray, List.getElem?_cons_succ, List.getElem?_cons_zero]; rfl) (by kernel_rfl) (by kernel_rfl) (by kernel_rfl) (by exact fun _ _ _ h => h) (Or.inl ⟨rfl, ?_⟩) (by assumption) ?_
              rotate_left
              · intro wz hSw; (try dsimp only at hSw); go_simp; try with_reducible rfl
              (try simp only [Act.put]); (try simp only [List.setIfInBounds_toArray]); (try simp only [List.set_cons_succ]); (try simp only [List.set_cons_zero])
              refine wpAnyH_take (i := 21) (v := ?_) (by simp only [List.getElem?_toArray, List.getElem?_cons_succ, List.getElem?_cons_zero]; rfl) (by kernel_rfl) (by kernel_rfl) (by kernel_rfl) (by exact fun _ _ _ h => h) (Or.inl ⟨rfl, ?_⟩) (by assumption) ?_
              rotate_left
              · intro wz hSw; (try dsimp only at hSw); go_simp; try with_reducible rfl
              (try simp only [Act.put]); (try simp only [List.setIfInBounds_toArray]); (try simp only [List.set_cons_succ]); (try simp only [List.set_cons_zero])
              refine wpAnyH_ready (rs := [16]) (by kernel_rfl) (by simp) ?_
              refine AllReadyH.cons (by simp only [List.getElem?_toArray, List.getElem?_cons_succ, List.getElem?_cons_zero]; rfl) (fun K9 hK9 => ?_) AllReadyH.nil
              go_simp
              with_reducible refine (cO _ hX_wd3).mono ?_
              rintro e wd4 ⟨A3, c3, rfl, hO1, -, bN⟩
              have qp_wd4 := qp_wd3.on bN
              have hX_wd4 := hX_wd3.on bN
              have hP1_wd4 := hP1_wd3.on bN
              have hP2_wd4 := hP2_wd3.on bN
              have B_wd4 := B_wd3.trans (bN.mono B_wd3.size)
              clear bN qp_wd3 hX_wd3 hP1_wd3 hP2_wd3 B_wd3
              go_simp
              clear hHeld
              refine hK9.out _ _ ⟨qp_wd4.cell 0, qp_wd4.cell 1⟩ (fun hHeld => ?_)
              clear hK9 K9
              (try simp only [Act.put]); (try simp only [List.setIfInBounds_toArray]); (try simp only [List.set_cons_succ]); (try simp only [List.set_cons_zero])
              refine wpAnyH_ready (rs := [22]) (by kernel_rfl) (by simp) ?_
              refine AllReadyH.cons (by simp only [List.getElem?_toArray, List.getElem?_cons_succ, List.getElem?_cons_zero]; rfl) (fun K9 hK9 => ?_) AllReadyH.nil
              go_simp
              with_reducible refine (rO _ hX_wd4).mono ?_
              rintro e wd5 ⟨A4, c4, rfl, hO2, -, bN⟩
              have qp_wd5 := qp_wd4.on bN
              have hX_wd5 := hX_wd4.on bN
              have hP1_wd5 := hP1_wd4.on bN
              have hP2_wd5 := hP2_wd4.on bN
              have hO1_wd5 := hO1.on bN
              have B_wd5 := B_wd4.trans (bN.mono B_wd4.size)
              clear bN qp_wd4 hX_wd4 hP1_wd4 hP2_wd4 hO1 B_wd4
              go_simp
              clear hHeld
              refine hK9.out _ _ ⟨qp_wd5.cell 0, qp_wd5.cell 1⟩ (fun hHeld => ?_)
              clear hK9 K9
              (try simp only [Act.put]); (try simp only [List.setIfInBounds_toArray]); (try simp only [List.set_cons_succ]); (try simp only [List.set_cons_zero])
              refine wpAnyH_ready (rs := [23]) (by kernel_rfl) (by simp) ?_
              refine AllReadyH.cons (by simp only [List.getElem?_toArray, List.getElem?_cons_succ, List.getElem?_cons_zero]; rfl) (fun K9 hK9 => ?_) AllReadyH.nil
              go_simp
              with_reducible refine (cIn _ _ _ _ _ hO1_wd5 hO2).mono ?_
              rintro e wd6 ⟨rfl, bN⟩
              have qp_wd6 := qp_wd5.on bN
              have hX_wd6 := hX_wd5.on bN
              have hP1_wd6 := hP1_wd5.on bN
              have hP2_wd6 := hP2_wd5.on bN
              have hO1_wd6 := hO1_wd5.on bN
              have hO2_wd6 := hO2.on bN
              have B_wd6 := B_wd5.trans (bN.mono B_wd5.size)
              clear bN qp_wd5 hX_wd5 hP1_wd5 hP2_wd5 hO1_wd5 hO2 B_wd5
              go_simp
              clear hHeld
              refine hK9.out _ _ ⟨qp_wd6.cell 0, qp_wd6.cell 1⟩ (fun hHeld => ?_)
              clear hK9 K9
              (try simp only [Act.put]); (try simp only [List.setIfInBounds_toArray]); (try simp only [List.set_cons_succ]); (try simp only [List.set_cons_zero])
              refine wpAnyH_take (i := 24) (v := ?_) (by simp only [List.getElem?_toArray, List.getElem?_cons_succ, List.getElem?_cons_zero]; rfl) (by kernel_rfl) (by kernel_rfl) (by kernel_rfl) (by exact fun _ _ _ h => h) (Or.inl ⟨rfl, ?_⟩) (by assumption) ?_
              rotate_left
              · intro wz hSw; (try dsimp only at hSw); go_simp; try with_reducible rfl
              (try simp only [Act.put]); (try simp only [List.setIfInBounds_toArray]); (try simp only [List.set_cons_succ]); (try simp only [List.set_cons_zero])
              refine wpAnyH_take (i := 25) (v := ?_) (by simp only [List.getElem?_toArray, List.getElem?_cons_succ, List.getElem?_cons_zero]; rfl) (by kernel_rfl) (by kernel_rfl) (by kernel_rfl) (by exact fun _ _ _ h => h) (Or.inl ⟨rfl, ?_⟩) (by assumption) ?_
              rotate_left
              · intro wz hSw; (try dsimp only at hSw); go_simp; try with_reducible rfl
              (try simp only [Act.put]); (try simp only [List.setIfInBounds_toArray]); (try simp only [List.set_cons_succ]); (try simp only [List.set_cons_zero])
              refine wpAnyH_done (by kernel_rfl) ?_ _
              have qp := qp_wd6
              clear qp_wd6
              have hX := hX_wd6
              clear hX_wd6
              have hP1 := hP1_wd6
              clear hP1_wd6
              have hP2 := hP2_wd6
              clear hP2_wd6
              have hO1 := hO1_wd6
              clear hO1_wd6
              have hO2 := hO2_wd6
              clear hO2_wd6
              have hb8 := B_wd6
              clear B_wd6
              go_simp
              go_wp2_with fail
              go_roundw
              case rel => exact ⟨m3 + 1, by omega, by go_num, hb8⟩
              case measure => simp [RowKit.intOf]; omega
            · obtain rfl : m3 = 2 := by omega
              have cS := fun W (h : Mks W W.heap.size (.slice Ax X.length cx) X) => sRight_any _ X W h (by unfold maxLen; omega)
              have cR := fun W (h : Mks W W.heap.size (.slice Ax X.length cx) X) => rRight_any _ X W h (by unfold maxLen; omega)
              generalize rightMB X = br at cS cR
              go_wp2_with fail
              with_reducible refine (cS _ hX).mono ?_
              rintro o v121_ ⟨rfl, bN⟩
              replace hX := hX.on bN
              replace hb8 := hb8.trans (bN.mono hb8.size)
              clear bN
              go_wp2_with fail
              with_reducible refine (cR _ hX).mono ?_
              rintro o v122_ ⟨rfl, bN⟩
              replace hX := hX.on bN
              replace hb8 := hb8.trans (bN.mono hb8.size)
              clear bN
              go_wp2_with fail
              go_roundw
              case rel => exact ⟨m + 1, by omega, by go_num, hb.trans ((hb6.trans (hb8.mono hb6.size)).mono hb.size)⟩
              case measure => simp [RowKit.intOf]; omega
    · obtain rfl : m = 2 := by omega
      go_wp2_with fail
      go_ret
      exact ⟨rfl, B0.trans (hb.mono B0.size)⟩
end Go.Proofs.Ytcamhaeelkjigaa
