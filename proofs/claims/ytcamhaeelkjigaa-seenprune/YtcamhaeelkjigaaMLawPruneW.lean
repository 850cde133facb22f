/- The walk of SeenPrune. -/
import Derived.Test.YtcamhaeelkjigaaSenH
import Derived.Test.YtcamhaeelkjigaaRegV
namespace Go.Proofs.Ytcamhaeelkjigaa
open Go.RowKit Go.Lib

theorem has_prune (a : Int) (L : List Mk) (m : Mk) (hL : RightM L) : hasMB (pruneM a L) m = (hasMB L m && decide (a ≤ m.1)) := by
  have h1 : RightM (pruneM a L) := prune_right hL
  have e1 : hasMB (pruneM a L) m = decide (m ∈ L ∧ a ≤ m.1) := decide_eq_decide.2 ⟨fun h => mem_prune.1 h.2, fun h => ⟨h1, mem_prune.2 h⟩⟩
  have e2 : hasMB L m = decide (m ∈ L) := decide_eq_decide.2 ⟨fun h => h.2, fun h => ⟨hL, h⟩⟩
  rw [e1, e2, Bool.decide_and]
set_option maxHeartbeats 8000000 in
set_option maxRecDepth 100000 in
theorem sprune_walk (v : Value) (rs : List Mk) (x y k0 k1 k2 : Int) (w : World) (hv : Mks w w.heap.size v rs) (h9 : rs.length ≤ maxLen) (hraw : ∀ r ∈ rs, RawM r) (hx : I64M x) (hy : I64M y) (hk : RawM (k0, k1, k2)) :
    Calls Try.prog 6 #[v, .int .i64 x, .int .i64 y, .agg #[.int .i64 k0, .int .i64 k1, .int .i64 k2]] w fun o w' => o = .returned (.bool true) ∧ Below w.heap.size w w' := by
  obtain ⟨A, c, rfl, hc⟩ := hv.form
  obtain ⟨L, hL⟩ : ∃ L, marksM rs = L := ⟨_, rfl⟩
  have hLr : RightM L := by rw [← hL]; exact marksM_right rs
  have hLl : L.length ≤ 40 := by rw [← hL]; exact marksM_len rs
  obtain ⟨p0, p1, p2, hp⟩ : ∃ p0 p1 p2, markOf (k0, k1, k2) = (p0, p1, p2) := ⟨_, _, _, rfl⟩
  obtain ⟨a, ha⟩ : ∃ a, pickM x 7 = a := ⟨_, rfl⟩
  obtain ⟨b, hb⟩ : ∃ b, pickM y 7 = b := ⟨_, rfl⟩
  have cMs := fun W (h : Mks W W.heap.size (.slice A rs.length c) rs) => Marks_any _ rs W h h9 hraw L hL
  have cMk := fun W => Mark_any k0 k1 k2 p0 p1 p2 W hk hp
  have cPa := fun W => pickM_same ha hx (by decide) (by decide) W
  have cPb := fun W => pickM_same hb hy (by decide) (by decide) W
  clear hL hp ha hb
  have hHP := has_prune a L (p0, p1, p2) hLr
  have hPr : RightM (pruneM a L) := prune_right hLr
  have hPQ := prune_prune a b L
  have hPl := pruneM_len a L
  have hQl := pruneM_len b (pruneM a L)
  have e1 : pruneR a L = pruneM a L := by unfold pruneR; rw [show rightMB L = true from decide_eq_true hLr, if_pos (by rfl)]
  have e2 : pruneR b (pruneM a L) = pruneM b (pruneM a L) := by unfold pruneR; rw [show rightMB (pruneM a L) = true from decide_eq_true hPr, if_pos (by rfl)]
  have e3 : pruneR (max a b) L = pruneM b (pruneM a L) := by unfold pruneR; rw [show rightMB L = true from decide_eq_true hLr, if_pos (by rfl), hPQ]
  have e4 : ofR p0 p1 L = ofM p0 p1 L := by unfold ofR; rw [show rightMB L = true from decide_eq_true hLr, if_pos (by rfl)]
  generalize pruneM b (pruneM a L) = Q at *
  generalize pruneM a L = P at *
  clear hPQ
  obtain ⟨bl, hbl⟩ : ∃ t, hasMB L (p0, p1, p2) = t := ⟨_, rfl⟩
  obtain ⟨mx, hmx⟩ : ∃ t, max a b = t := ⟨_, rfl⟩
  have cP0 := fun B C W (h : Mks W W.heap.size (.slice B L.length C) L) => sPrune_any _ L a W h (by omega) P e1
  have cP1 := fun B C W (h : Mks W W.heap.size (.slice B P.length C) P) => sPrune_any _ P b W h (by omega) Q e2
  have cP2 := fun B C W (h : Mks W W.heap.size (.slice B L.length C) L) => sPrune_any _ L mx W h (by omega) Q (by rw [← hmx]; exact e3)
  have cHp := fun B C W (h : Mks W W.heap.size (.slice B P.length C) P) => sHas_any _ P p0 p1 p2 W h (by omega)
  have cHl := fun B C W (h : Mks W W.heap.size (.slice B L.length C) L) => sHas_any _ L p0 p1 p2 W h (by omega)
  have cHw := fun B C q W (h : Mks W W.heap.size (.slice B L.length C) L) => sHas_any _ L p0 p1 q W h (by omega)
  have cSm := fun B C B' C' W (h : Mks W W.heap.size (.slice B Q.length C) Q) (h' : Mks W W.heap.size (.slice B' Q.length C') Q) => rSameM_any _ _ Q Q W h h' (by unfold maxLen; omega) (by unfold maxLen; omega)
  have cRp := fun B C W (h : Mks W W.heap.size (.slice B P.length C) P) => sRight_any _ P W h (by unfold maxLen; omega)
  obtain ⟨Wo, hWo⟩ : ∃ t, ofM p0 p1 L = t := ⟨_, rfl⟩
  have cOf := fun B C W (h : Mks W W.heap.size (.slice B L.length C) L) => sOf_any _ L p0 p1 W h (by omega) Wo (by rw [e4, hWo])
  have hWl : Wo.length ≤ 40 := by have := ofM_len p0 p1 L; rw [hWo] at this; omega
  have HWS := Lib.hid (show Wo.Pairwise (· < ·) by rw [← hWo]; exact of_sorted hLr)
  have HWM := Lib.hid (fun q => show q ∈ Wo ↔ (p0, p1, q) ∈ L by rw [← hWo]; exact mem_of)
  have HHL := Lib.hid (fun q (h : (p0, p1, q) ∈ L) => (show hasMB L (p0, p1, q) = true from hasM_yes (decide_eq_true hLr) h))
  have HBL := Lib.hid (show hasMB L (p0, p1, p2) = decide (p2 ∈ Wo) by
    exact decide_eq_decide.2 ⟨fun h => by rw [← hWo]; exact mem_of.2 h.2, fun h => ⟨hLr, by rw [← hWo] at h; exact mem_of.1 h⟩⟩)
  rw [hHP, hbl] at cHp
  rw [hbl] at cHl
  rw [show decide (Q = Q) = true from decide_eq_true rfl] at cSm
  rw [show rightMB P = true from decide_eq_true hPr] at cRp
  clear hHP hbl hPr hLr e1 e2 e3 e4 hWo
  have B0 := Below.refl w.heap.size w
  go_enter Try.func6, Try.ntmps6
  go_upto_region 1 with (fail)
  have q4 := RowAt.new w 26 #[.int .i64 k0, .int .i64 k1, .int .i64 k2]
  have bN := (Below.refl w.heap.size w).alloc (Nat.le_refl _) (.cells #[.int .i64 k0, .int .i64 k1, .int .i64 k2] 26)
  replace hv := hv.on bN
  replace B0 := B0.trans (bN.mono B0.size)
  clear bN
  generalize w.alloc (.cells #[.int .i64 k0, .int .i64 k1, .int .i64 k2] 26) = v1_ at *
  obtain ⟨g4, hg9⟩ : ∃ g4, g4 = w.heap.size := ⟨_, rfl⟩
  rw [← hg9] at q4  ⊢
  clear hg9
  go_wp2_with fail
  with_reducible refine (awake13_any _).mono ?_
  rintro o v2_ ⟨rfl, bN⟩
  replace q4 := q4.on bN
  replace hv := hv.on bN
  replace B0 := B0.trans (bN.mono B0.size)
  clear bN
  go_wp2_with fail
  with_reducible refine (cMs _ hv).mono ?_
  rintro o v3_ ⟨Al, cl, rfl, hl, bN⟩
  replace q4 := q4.on bN
  replace hv := hv.on bN
  replace B0 := B0.trans (bN.mono B0.size)
  clear bN
  clear hv cMs
  have q4_ := q4.cell
  have q4_0 := q4_ 0
  have q4_1 := q4_ 1
  have q4_2 := q4_ 2
  simp only [List.getElem?_cons_zero, List.getElem?_cons_succ] at q4_0 q4_1 q4_2
  clear q4_
  go_wp2_with (first | (with_reducible refine (cPa _).mono ?_; rintro o w_ ⟨rfl, rfl⟩) | (with_reducible refine (cPb _).mono ?_; rintro o w_ ⟨rfl, rfl⟩))
  clear cPa cPb
  with_reducible refine (cMk _).mono ?_
  rintro o v4_ ⟨rfl, bN⟩
  replace q4 := q4.on bN
  replace hl := hl.on bN
  replace B0 := B0.trans (bN.mono B0.size)
  clear bN
  clear q4 cMk q4_0 q4_1 q4_2
  go_upto_region 6 with (fail)
  have qm := RowAt.new v4_ 25 #[.int .i64 p0, .int .i64 p1, .int .i64 p2]
  have bN := (Below.refl v4_.heap.size v4_).alloc (Nat.le_refl _) (.cells #[.int .i64 p0, .int .i64 p1, .int .i64 p2] 25)
  replace hl := hl.on bN
  replace B0 := B0.trans (bN.mono B0.size)
  clear bN
  generalize v4_.alloc (.cells #[.int .i64 p0, .int .i64 p1, .int .i64 p2] 25) = v5_ at *
  obtain ⟨gM, hg9⟩ : ∃ gM, gM = v4_.heap.size := ⟨_, rfl⟩
  rw [← hg9] at qm  ⊢
  clear hg9
  go_wp2_with fail
  with_reducible refine (cP0 _ _ _ hl).mono ?_
  rintro o v6_ ⟨Ap, cp, rfl, hP, -, bN⟩
  replace qm := qm.on bN
  replace hl := hl.on bN
  replace B0 := B0.trans (bN.mono B0.size)
  clear bN
  clear cP0
  have bD := (Below.refl v6_.heap.size v6_).drew
  have BD := B0.trans (bD.mono B0.size)
  have qmD := qm.on bD
  have hlD := hl.on bD
  have hPD := hP.on bD
  obtain ⟨f0, f1, f2⟩ : v6_.cell? ⟨gM, 0, none⟩ = some (.int .i64 p0) ∧ v6_.cell? ⟨gM, 1, none⟩ = some (.int .i64 p1) ∧ v6_.cell? ⟨gM, 2, none⟩ = some (.int .i64 p2) := ⟨qm.cell 0, qm.cell 1, qm.cell 2⟩
  have HB2 := Lib.hid (show hasMB L (p0, p1, p2) = decide (p2 ∈ Wo) from HBL.out)
  clear HBL
  go_upto_region 7 with (fail)
  cases bl
  · rw [Bool.false_and] at cHp
    refine held_start (S := (fun w' => w'.cell? ⟨gM, 0, none⟩ = some (.int .i64 p0) ∧ w'.cell? ⟨gM, 1, none⟩ = some (.int .i64 p1) ∧ w'.cell? ⟨gM, 2, none⟩ = some (.int .i64 p2))) 30 #[false, false, false, false, false, false, false, false, false, false, false, false, false, false, false, false, false, false, false, false, false, false, false, false, false, false, false, false, false, false] (by kernel_rfl) (by kernel_rfl) (by kernel_rfl) ⟨qmD.cell 0, qmD.cell 1, qmD.cell 2⟩ (fun hHeld => ?_)
    refine wpAnyH_take (i := 0) (v := ?_) (by simp only [List.getElem?_toArray, List.getElem?_cons_zero]; rfl) (by kernel_rfl) (by kernel_rfl) (by kernel_rfl) (by exact fun _ _ _ h => h) (Or.inl ⟨rfl, ?_⟩) (by assumption) ?_
    rotate_left
    · intro wz hSw; (try dsimp only at hSw); go_simp; try with_reducible rfl
    try simp only [Act.put, List.setIfInBounds_toArray, List.set_cons_zero, List.set_cons_succ]
    refine wpAnyH_take (i := 1) (v := ?_) (by simp only [List.getElem?_toArray, List.getElem?_cons_succ, List.getElem?_cons_zero]; rfl) (by kernel_rfl) (by kernel_rfl) (by kernel_rfl) (by exact fun _ _ _ h => h) (Or.inl ⟨rfl, ?_⟩) (by assumption) ?_
    rotate_left
    · intro wz hSw; (try dsimp only at hSw); go_simp; try with_reducible rfl
    try simp only [Act.put, List.setIfInBounds_toArray, List.set_cons_zero, List.set_cons_succ]
    refine wpAnyH_take (i := 3) (v := ?_) (by simp only [List.getElem?_toArray, List.getElem?_cons_succ, List.getElem?_cons_zero]; rfl) (by kernel_rfl) (by kernel_rfl) (by kernel_rfl) (by exact fun _ _ _ h => h) (Or.inl ⟨rfl, ?_⟩) (by assumption) ?_
    rotate_left
    · intro wz hSw; (try dsimp only at hSw); go_simp; try with_reducible rfl
    try simp only [Act.put, List.setIfInBounds_toArray, List.set_cons_zero, List.set_cons_succ]
    refine wpAnyH_take (i := 4) (v := ?_) (by simp only [List.getElem?_toArray, List.getElem?_cons_succ, List.getElem?_cons_zero]; rfl) (by kernel_rfl) (by kernel_rfl) (by kernel_rfl) (by exact fun _ _ _ h => h) (Or.inl ⟨rfl, ?_⟩) (by assumption) ?_
    rotate_left
    · intro wz hSw; (try dsimp only at hSw); go_simp; try with_reducible rfl
    try simp only [Act.put, List.setIfInBounds_toArray, List.set_cons_zero, List.set_cons_succ]
    refine wpAnyH_ready (rs := [2]) (by kernel_rfl) (by simp) ?_
    refine AllReadyH.cons (by simp only [List.getElem?_toArray, List.getElem?_cons_succ, List.getElem?_cons_zero]; rfl) (fun K9 hK9 => ?_) AllReadyH.nil
    go_simp
    with_reducible refine (cHp _ _ _ hPD).mono ?_
    rintro e wA ⟨rfl, bN⟩
    have qm_wA := qmD.on bN
    have hl_wA := hlD.on bN
    have hP_wA := hPD.on bN
    have B_wA := BD.trans (bN.mono BD.size)
    clear bN
    go_simp
    clear hHeld
    refine hK9.out _ _ ⟨qm_wA.cell 0, qm_wA.cell 1, qm_wA.cell 2⟩ (fun hHeld => ?_)
    clear hK9 K9
    try simp only [Act.put, List.setIfInBounds_toArray, List.set_cons_zero, List.set_cons_succ]
    refine wpAnyH_ready (rs := [5]) (by kernel_rfl) (by simp) ?_
    refine AllReadyH.cons (by simp only [List.getElem?_toArray, List.getElem?_cons_succ, List.getElem?_cons_zero]; rfl) (fun K9 hK9 => ?_) AllReadyH.nil
    go_simp
    with_reducible refine (cHl _ _ _ hl_wA).mono ?_
    rintro e wB ⟨rfl, bN⟩
    have qm_wB := qm_wA.on bN
    have hl_wB := hl_wA.on bN
    have hP_wB := hP_wA.on bN
    have B_wB := B_wA.trans (bN.mono B_wA.size)
    clear bN
    go_simp
    clear hHeld
    refine hK9.out _ _ ⟨qm_wB.cell 0, qm_wB.cell 1, qm_wB.cell 2⟩ (fun hHeld => ?_)
    clear hK9 K9
    try simp only [Act.put, List.setIfInBounds_toArray, List.set_cons_zero, List.set_cons_succ]
    refine wpAnyH_take (i := 6) (v := ?_) (by simp only [List.getElem?_toArray, List.getElem?_cons_succ, List.getElem?_cons_zero]; rfl) (by kernel_rfl) (by kernel_rfl) (by kernel_rfl) (by exact fun _ _ _ h => h) (Or.inl ⟨rfl, ?_⟩) (by assumption) ?_
    rotate_left
    · intro wz hSw; (try dsimp only at hSw); go_simp; try with_reducible rfl
    try simp only [Act.put, List.setIfInBounds_toArray, List.set_cons_zero, List.set_cons_succ]
    refine wpAnyH_take (i := 7) (v := undef) (by simp only [List.getElem?_toArray, List.getElem?_cons_succ, List.getElem?_cons_zero]; rfl) (by kernel_rfl) (by kernel_rfl) (by kernel_rfl) (by exact fun _ _ _ h => h) (Or.inr ⟨rfl, rfl⟩) (by assumption) ?_
    try simp only [Act.put, List.setIfInBounds_toArray, List.set_cons_zero, List.set_cons_succ]
    refine wpAnyH_take (i := 8) (v := undef) (by simp only [List.getElem?_toArray, List.getElem?_cons_succ, List.getElem?_cons_zero]; rfl) (by kernel_rfl) (by kernel_rfl) (by kernel_rfl) (by exact fun _ _ _ h => h) (Or.inr ⟨rfl, rfl⟩) (by assumption) ?_
    try simp only [Act.put, List.setIfInBounds_toArray, List.set_cons_zero, List.set_cons_succ]
    refine wpAnyH_take (i := 9) (v := undef) (by simp only [List.getElem?_toArray, List.getElem?_cons_succ, List.getElem?_cons_zero]; rfl) (by kernel_rfl) (by kernel_rfl) (by kernel_rfl) (by exact fun _ _ _ h => h) (Or.inr ⟨rfl, rfl⟩) (by assumption) ?_
    try simp only [Act.put, List.setIfInBounds_toArray, List.set_cons_zero, List.set_cons_succ]
    refine wpAnyH_take (i := 10) (v := undef) (by simp only [List.getElem?_toArray, List.getElem?_cons_succ, List.getElem?_cons_zero]; rfl) (by kernel_rfl) (by kernel_rfl) (by kernel_rfl) (by exact fun _ _ _ h => h) (Or.inr ⟨rfl, rfl⟩) (by assumption) ?_
    try simp only [Act.put, List.setIfInBounds_toArray, List.set_cons_zero, List.set_cons_succ]
    refine wpAnyH_take (i := 11) (v := ?_) (by simp only [List.getElem?_toArray, List.getElem?_cons_succ, List.getElem?_cons_zero]; rfl) (by kernel_rfl) (by kernel_rfl) (by kernel_rfl) (by exact fun _ _ _ h => h) (Or.inl ⟨rfl, ?_⟩) (by assumption) ?_
    rotate_left
    · intro wz hSw; (try dsimp only at hSw); go_simp; try with_reducible rfl
    try simp only [Act.put, List.setIfInBounds_toArray, List.set_cons_zero, List.set_cons_succ]
    refine wpAnyH_take (i := 12) (v := ?_) (by simp only [List.getElem?_toArray, List.getElem?_cons_succ, List.getElem?_cons_zero]; rfl) (by kernel_rfl) (by kernel_rfl) (by kernel_rfl) (by exact fun _ _ _ h => h) (Or.inl ⟨rfl, ?_⟩) (by assumption) ?_
    rotate_left
    · intro wz hSw; (try dsimp only at hSw); go_simp; try with_reducible rfl
    try simp only [Act.put, List.setIfInBounds_toArray, List.set_cons_zero, List.set_cons_succ]
    refine wpAnyH_take (i := 13) (v := ?_) (by simp only [List.getElem?_toArray, List.getElem?_cons_succ, List.getElem?_cons_zero]; rfl) (by kernel_rfl) (by kernel_rfl) (by kernel_rfl) (by exact fun _ _ _ h => h) (Or.inl ⟨rfl, ?_⟩) (by assumption) ?_
    rotate_left
    · intro wz hSw; (try dsimp only at hSw); go_simp; try with_reducible rfl
    try simp only [Act.put, List.setIfInBounds_toArray, List.set_cons_zero, List.set_cons_succ]
    refine wpAnyH_take (i := 14) (v := ?_) (by simp only [List.getElem?_toArray, List.getElem?_cons_succ, List.getElem?_cons_zero]; rfl) (by kernel_rfl) (by kernel_rfl) (by kernel_rfl) (by exact fun _ _ _ h => h) (Or.inl ⟨rfl, ?_⟩) (by assumption) ?_
    rotate_left
    · intro wz hSw; (try dsimp only at hSw); go_simp; try with_reducible rfl
    try simp only [Act.put, List.setIfInBounds_toArray, List.set_cons_zero, List.set_cons_succ]
    refine wpAnyH_take (i := 15) (v := ?_) (by simp only [List.getElem?_toArray, List.getElem?_cons_succ, List.getElem?_cons_zero]; rfl) (by kernel_rfl) (by kernel_rfl) (by kernel_rfl) (by exact fun _ _ _ h => h) (Or.inl ⟨rfl, ?_⟩) (by assumption) ?_
    rotate_left
    · intro wz hSw; (try dsimp only at hSw); go_simp; try with_reducible rfl
    try simp only [Act.put, List.setIfInBounds_toArray, List.set_cons_zero, List.set_cons_succ]
    refine wpAnyH_take (i := 17) (v := ?_) (by simp only [List.getElem?_toArray, List.getElem?_cons_succ, List.getElem?_cons_zero]; rfl) (by kernel_rfl) (by kernel_rfl) (by kernel_rfl) (by exact fun _ _ _ h => h) (Or.inl ⟨rfl, ?_⟩) (by assumption) ?_
    rotate_left
    · intro wz hSw; (try dsimp only at hSw); go_simp; try with_reducible rfl
    try simp only [Act.put, List.setIfInBounds_toArray, List.set_cons_zero, List.set_cons_succ]
    refine wpAnyH_take (i := 18) (v := ?_) (by simp only [List.getElem?_toArray, List.getElem?_cons_succ, List.getElem?_cons_zero]; rfl) (by kernel_rfl) (by kernel_rfl) (by kernel_rfl) (by exact fun _ _ _ h => h) (Or.inl ⟨rfl, ?_⟩) (by assumption) ?_
    rotate_left
    · intro wz hSw; (try dsimp only at hSw); go_simp; try with_reducible rfl
    try simp only [Act.put, List.setIfInBounds_toArray, List.set_cons_zero, List.set_cons_succ]
    refine wpAnyH_take (i := 19) (v := ?_) (by simp only [List.getElem?_toArray, List.getElem?_cons_succ, List.getElem?_cons_zero]; rfl) (by kernel_rfl) (by kernel_rfl) (by kernel_rfl) (by exact fun _ _ _ h => h) (Or.inl ⟨rfl, ?_⟩) (by assumption) ?_
    rotate_left
    · intro wz hSw; (try dsimp only at hSw); go_simp; try with_reducible rfl
    try simp only [Act.put, List.setIfInBounds_toArray, List.set_cons_zero, List.set_cons_succ]
    refine wpAnyH_take (i := 20) (v := ?_) (by simp only [List.getElem?_toArray, List.getElem?_cons_succ, List.getElem?_cons_zero]; rfl) (by kernel_rfl) (by kernel_rfl) (by kernel_rfl) (by exact fun _ _ _ h => h) (Or.inl ⟨rfl, ?_⟩) (by assumption) ?_
    rotate_left
    · intro wz hSw; (try dsimp only at hSw); go_simp; try with_reducible rfl
    try simp only [Act.put, List.setIfInBounds_toArray, List.set_cons_zero, List.set_cons_succ]
    refine wpAnyH_ready (rs := [16]) (by kernel_rfl) (by simp) ?_
    refine AllReadyH.cons (by simp only [List.getElem?_toArray, List.getElem?_cons_succ, List.getElem?_cons_zero]; rfl) (fun K9 hK9 => ?_) AllReadyH.nil
    go_simp
    with_reducible refine (cP1 _ _ _ hP_wB).mono ?_
    rintro e wC ⟨A1, c1, rfl, hQ1, -, bN⟩
    have qm_wC := qm_wB.on bN
    have hl_wC := hl_wB.on bN
    have hP_wC := hP_wB.on bN
    have B_wC := B_wB.trans (bN.mono B_wB.size)
    clear bN
    go_simp
    clear hHeld
    refine hK9.out _ _ ⟨qm_wC.cell 0, qm_wC.cell 1, qm_wC.cell 2⟩ (fun hHeld => ?_)
    clear hK9 K9
    try simp only [Act.put, List.setIfInBounds_toArray, List.set_cons_zero, List.set_cons_succ]
    refine wpAnyH_ready (rs := [21]) (by kernel_rfl) (by simp) ?_
    refine AllReadyH.cons (by simp only [List.getElem?_toArray, List.getElem?_cons_succ, List.getElem?_cons_zero]; rfl) (fun K9 hK9 => ?_) AllReadyH.nil
    go_simp
    with_reducible refine (cP2 _ _ _ hl_wC).mono ?_
    rintro e wD ⟨A2, c2, rfl, hQ2, -, bN⟩
    have qm_wD := qm_wC.on bN
    have hl_wD := hl_wC.on bN
    have hP_wD := hP_wC.on bN
    have hQ1_wD := hQ1.on bN
    have B_wD := B_wC.trans (bN.mono B_wC.size)
    clear bN
    go_simp
    clear hHeld
    refine hK9.out _ _ ⟨qm_wD.cell 0, qm_wD.cell 1, qm_wD.cell 2⟩ (fun hHeld => ?_)
    clear hK9 K9
    try simp only [Act.put, List.setIfInBounds_toArray, List.set_cons_zero, List.set_cons_succ]
    refine wpAnyH_ready (rs := [22]) (by kernel_rfl) (by simp) ?_
    refine AllReadyH.cons (by simp only [List.getElem?_toArray, List.getElem?_cons_succ, List.getElem?_cons_zero]; rfl) (fun K9 hK9 => ?_) AllReadyH.nil
    go_simp
    with_reducible refine (cSm _ _ _ _ _ hQ1_wD hQ2).mono ?_
    rintro e wE ⟨rfl, bN⟩
    have qm_wE := qm_wD.on bN
    have hl_wE := hl_wD.on bN
    have hP_wE := hP_wD.on bN
    have B_wE := B_wD.trans (bN.mono B_wD.size)
    clear bN
    go_simp
    clear hHeld
    refine hK9.out _ _ ⟨qm_wE.cell 0, qm_wE.cell 1, qm_wE.cell 2⟩ (fun hHeld => ?_)
    clear hK9 K9
    try simp only [Act.put, List.setIfInBounds_toArray, List.set_cons_zero, List.set_cons_succ]
    refine wpAnyH_take (i := 23) (v := ?_) (by simp only [List.getElem?_toArray, List.getElem?_cons_succ, List.getElem?_cons_zero]; rfl) (by kernel_rfl) (by kernel_rfl) (by kernel_rfl) (by exact fun _ _ _ h => h) (Or.inl ⟨rfl, ?_⟩) (by assumption) ?_
    rotate_left
    · intro wz hSw; (try dsimp only at hSw); go_simp; try with_reducible rfl
    try simp only [Act.put, List.setIfInBounds_toArray, List.set_cons_zero, List.set_cons_succ]
    refine wpAnyH_take (i := 24) (v := ?_) (by simp only [List.getElem?_toArray, List.getElem?_cons_succ, List.getElem?_cons_zero]; rfl) (by kernel_rfl) (by kernel_rfl) (by kernel_rfl) (by exact fun _ _ _ h => h) (Or.inl ⟨rfl, ?_⟩) (by assumption) ?_
    rotate_left
    · intro wz hSw; (try dsimp only at hSw); go_simp; try with_reducible rfl
    try simp only [Act.put, List.setIfInBounds_toArray, List.set_cons_zero, List.set_cons_succ]
    refine wpAnyH_take (i := 25) (v := ?_) (by simp only [List.getElem?_toArray, List.getElem?_cons_succ, List.getElem?_cons_zero]; rfl) (by kernel_rfl) (by kernel_rfl) (by kernel_rfl) (by exact fun _ _ _ h => h) (Or.inl ⟨rfl, ?_⟩) (by assumption) ?_
    rotate_left
    · intro wz hSw; (try dsimp only at hSw); go_simp; try with_reducible rfl
    try simp only [Act.put, List.setIfInBounds_toArray, List.set_cons_zero, List.set_cons_succ]
    refine wpAnyH_take (i := 26) (v := ?_) (by simp only [List.getElem?_toArray, List.getElem?_cons_succ, List.getElem?_cons_zero]; rfl) (by kernel_rfl) (by kernel_rfl) (by kernel_rfl) (by exact fun _ _ _ h => h) (Or.inl ⟨rfl, ?_⟩) (by assumption) ?_
    rotate_left
    · intro wz hSw; (try dsimp only at hSw); go_simp; try with_reducible rfl
    try simp only [Act.put, List.setIfInBounds_toArray, List.set_cons_zero, List.set_cons_succ]
    refine wpAnyH_ready (rs := [27]) (by kernel_rfl) (by simp) ?_
    refine AllReadyH.cons (by simp only [List.getElem?_toArray, List.getElem?_cons_succ, List.getElem?_cons_zero]; rfl) (fun K9 hK9 => ?_) AllReadyH.nil
    go_simp
    with_reducible refine (cRp _ _ _ hP_wE).mono ?_
    rintro e wF ⟨rfl, bN⟩
    have qm_wF := qm_wE.on bN
    have hl_wF := hl_wE.on bN
    have hP_wF := hP_wE.on bN
    have B_wF := B_wE.trans (bN.mono B_wE.size)
    clear bN
    go_simp
    clear hHeld
    refine hK9.out _ _ ⟨qm_wF.cell 0, qm_wF.cell 1, qm_wF.cell 2⟩ (fun hHeld => ?_)
    clear hK9 K9
    try simp only [Act.put, List.setIfInBounds_toArray, List.set_cons_zero, List.set_cons_succ]
    refine wpAnyH_take (i := 28) (v := ?_) (by simp only [List.getElem?_toArray, List.getElem?_cons_succ, List.getElem?_cons_zero]; rfl) (by kernel_rfl) (by kernel_rfl) (by kernel_rfl) (by exact fun _ _ _ h => h) (Or.inl ⟨rfl, ?_⟩) (by assumption) ?_
    rotate_left
    · intro wz hSw; (try dsimp only at hSw); go_simp; try with_reducible rfl
    try simp only [Act.put, List.setIfInBounds_toArray, List.set_cons_zero, List.set_cons_succ]
    refine wpAnyH_take (i := 29) (v := ?_) (by simp only [List.getElem?_toArray, List.getElem?_cons_succ, List.getElem?_cons_zero]; rfl) (by kernel_rfl) (by kernel_rfl) (by kernel_rfl) (by exact fun _ _ _ h => h) (Or.inl ⟨rfl, ?_⟩) (by assumption) ?_
    rotate_left
    · intro wz hSw; (try dsimp only at hSw); go_simp; try with_reducible rfl
    try simp only [Act.put, List.setIfInBounds_toArray, List.set_cons_zero, List.set_cons_succ]
    refine wpAnyH_done (by kernel_rfl) ?_ _
    clear hP_wF cHp cHl cP1 cP2 cSm cRp bD BD qmD hlD hPD f0 f1 f2 qm hl hP hQ1 hQ2
    obtain ⟨f0, f1⟩ : wF.cell? ⟨gM, 0, none⟩ = some (.int .i64 p0) ∧ wF.cell? ⟨gM, 1, none⟩ = some (.int .i64 p1) := ⟨qm_wF.cell 0, qm_wF.cell 1⟩
    go_simp
    go_wp2_with fail
    with_reducible refine (cOf _ _ _ hl_wF).mono ?_
    rintro o wG ⟨Aw, cw, rfl, hW, -, bG⟩
    have qm := qm_wF.on bG
    have hl := hl_wF.on bG
    have B1 := B_wF.trans (bG.mono B_wF.size)
    clear f0 f1 bG qm_wF hl_wF B_wF cOf
    go_wp2_with fail
    go_loopw [16, 17] (fun hv iv wr => ∃ i : Nat, i ≤ Wo.length ∧ iv = .int .i64 i ∧ hv = .bool (decide (p2 ∈ Wo.take i)) ∧ Below wG.heap.size wG wr) (fun _ iv _ => Wo.length - (intOf iv).toNat)
    case atStart => exact ⟨0, Nat.zero_le _, rfl, by simp, Below.refl _ _⟩
    case round =>
      obtain ⟨i, hi, rfl, rfl, hb⟩ := hrel
      have qmr := qm.on hb
      have hlr := hl.on hb
      have hWr := hW.on hb
      by_cases hlt : i < Wo.length
      · have g1 : ((i : Int) < (Wo.length : Int)) = True := eq_true (by omega)
        have g2 : (i < Wo.length) = True := eq_true hlt
        have hmem : (p0, p1, Wo[i]) ∈ L := (HWM.out _).1 (List.getElem_mem hlt)
        have HC : ∀ p : Later wr, Calls Try.prog 15 #[.slice Al L.length cl, .agg #[.int .i64 p0, .int .i64 p1, .int .i64 Wo[i]]] p.W fun e w_ => e = .returned (.bool true) ∧ ∃ p : Later wr, w_ = p.W := fun p => later_of (by have := cHw _ _ Wo[i] p.W (hlr.on p.h); rwa [HHL.out _ hmem] at this)
        have HIN := Lib.hid (show decide (p2 ∈ Wo.take (i + 1)) = (decide (p2 ∈ Wo.take i) || (Wo[i] == p2)) by
          rw [List.take_succ_eq_append_getElem hlt]
          rw [Bool.eq_iff_iff]
          simp only [List.mem_append, List.mem_singleton, Bool.or_eq_true, decide_eq_true_eq, beq_iff_eq]
          constructor
          · rintro (h | h)
            · exact .inl h
            · exact .inr h.symm
          · rintro (h | h)
            · exact .inl h
            · exact .inr h.symm)
        have hcl : ∀ p : Later wr, Ints p.W p.W.heap.size (.slice Aw Wo.length cw) Wo := fun p => hWr.on p.h
        obtain ⟨ad, rfl, _, e0⟩ := hWr.at_ hlt
        have z0 : ∀ p : Later wr, p.W.cell? (ad.add i) = some (.int .i64 Wo[i]) := fun p => by obtain ⟨_, e, _, h1⟩ := (hcl p).at_ hlt; cases e; exact h1
        have y0 : ∀ p : Later wr, p.W.cell? ⟨gM, 0, none⟩ = some (.int .i64 p0) := fun p => ((qmr.on p.h).cell 0).trans rfl
        have y1 : ∀ p : Later wr, p.W.cell? ⟨gM, 1, none⟩ = some (.int .i64 p1) := fun p => ((qmr.on p.h).cell 1).trans rfl
        have hz := hb.size
        by_cases hi0 : 0 < i
        · obtain ⟨j, hj⟩ : ∃ j, j + 1 = i := ⟨i - 1, by omega⟩
          have hjl : j < Wo.length := by omega
          have ej : (i : Int) - 1 = (j : Int) := by omega
          have gz : ((0 : Int) < (i : Int)) = True := eq_true (by omega)
          have gz2 : (0 < i) = True := eq_true hi0
          have hlt2 : Wo[j] < Wo[i] := (List.pairwise_iff_getElem.1 HWS.out) j i hjl hlt (by omega)
          have gs : (Wo[i] ≤ Wo[j]) = False := eq_false (by omega)
          have z1 : ∀ p : Later wr, p.W.cell? (ad.add j) = some (.int .i64 Wo[j]) := fun p => by obtain ⟨_, e, _, h1⟩ := (hcl p).at_ hjl; cases e; exact h1
          clear hlt2 hmem e0 hj
          obtain ⟨wi, hwi⟩ : ∃ x, Wo[i] = x := ⟨_, rfl⟩
          rw [hwi] at gs z0 HC HIN
          have HWI := Lib.hid hwi
          clear hwi
          generalize Wo[j] = wj at *
          go_upto_region 14 with (fail)
          refine wp_region_later (by kernel_rfl) (by kernel_rfl) ?_
          repeat (go_big_quiet_step (first | (go_at_call 15; exact HC _)))
          refine wpQuiet_nil ?_
          intro _ hw'
          obtain ⟨pq, rfl⟩ := hw'
          have hbn : Below wG.heap.size wG pq.W := hb.trans (pq.h.mono hz)
          have qmn := qmr.on pq.h
          have hWn := hcl pq
          clear z0 z1 y0 y1 HC hcl
          generalize pq.W = wI at *
          have hcn : ∀ p : Later wI, Ints p.W p.W.heap.size (.slice (some ad) Wo.length cw) Wo := fun p => hWn.on p.h
          have z0 : ∀ p : Later wI, p.W.cell? (ad.add i) = some (.int .i64 wi) := fun p => by obtain ⟨_, e, _, h1⟩ := (hcn p).at_ hlt; cases e; exact h1.trans (by rw [HWI.out])
          have y2 : ∀ p : Later wI, p.W.cell? ⟨gM, 2, none⟩ = some (.int .i64 p2) := fun p => ((qmn.on p.h).cell 2).trans rfl
          have hIN := HIN.out
          generalize decide (p2 ∈ Wo.take i) = hs at *
          have HIN2 := Lib.hid hIN
          clear hIN hWn hcn HIN
          cases hs
          · by_cases hq : wi = p2
            · subst hq
              go_upto_region 16 with (fail)
              refine wp_region_later (by kernel_rfl) (by kernel_rfl) ?_
              repeat (go_big_quiet_step (fail))
              refine wpQuiet_nil ?_
              intro _ hw'
              obtain ⟨pr, rfl⟩ := hw'
              go_wp2_with fail
              go_roundw
              case rel => exact ⟨i + 1, by omega, by go_num, by rw [HIN2.out]; simp, hbn.trans (pr.h.mono hbn.size)⟩
              case measure => simp [intOf]; omega
            · have gq : (wi == p2) = false := by simpa using hq
              have HG := Lib.hid gq
              have gq2 : (wi = p2) = False := eq_false hq
              clear hq
              go_upto_region 16 with (fail)
              refine wp_region_later (by kernel_rfl) (by kernel_rfl) ?_
              repeat (go_big_quiet_step (fail))
              refine wpQuiet_nil ?_
              intro _ hw'
              obtain ⟨pr, rfl⟩ := hw'
              go_wp2_with fail
              go_roundw
              case rel => exact ⟨i + 1, by omega, by go_num, by rw [HIN2.out, HG.out]; rfl, hbn.trans (pr.h.mono hbn.size)⟩
              case measure => simp [intOf]; omega
          · go_upto_region 16 with (fail)
            refine wp_region_later (by kernel_rfl) (by kernel_rfl) ?_
            repeat (go_big_quiet_step (fail))
            refine wpQuiet_nil ?_
            intro _ hw'
            obtain ⟨pr, rfl⟩ := hw'
            go_wp2_with fail
            go_roundw
            case rel => exact ⟨i + 1, by omega, by go_num, by rw [HIN2.out]; simp, hbn.trans (pr.h.mono hbn.size)⟩
            case measure => simp [intOf]; omega
        · have gz : ((0 : Int) < (i : Int)) = False := eq_false (by omega)
          have gz2 : (0 < i) = False := eq_false hi0
          clear hmem e0
          obtain ⟨wi, hwi⟩ : ∃ x, Wo[i] = x := ⟨_, rfl⟩
          rw [hwi] at z0 HC HIN
          have HWI := Lib.hid hwi
          clear hwi
          go_upto_region 14 with (fail)
          refine wp_region_later (by kernel_rfl) (by kernel_rfl) ?_
          repeat (go_big_quiet_step (first | (go_at_call 15; exact HC _)))
          refine wpQuiet_nil ?_
          intro _ hw'
          obtain ⟨pq, rfl⟩ := hw'
          have hbn : Below wG.heap.size wG pq.W := hb.trans (pq.h.mono hz)
          have qmn := qmr.on pq.h
          have hWn := hcl pq
          clear z0 y0 y1 HC hcl
          generalize pq.W = wI at *
          have hcn : ∀ p : Later wI, Ints p.W p.W.heap.size (.slice (some ad) Wo.length cw) Wo := fun p => hWn.on p.h
          have z0 : ∀ p : Later wI, p.W.cell? (ad.add i) = some (.int .i64 wi) := fun p => by obtain ⟨_, e, _, h1⟩ := (hcn p).at_ hlt; cases e; exact h1.trans (by rw [HWI.out])
          have y2 : ∀ p : Later wI, p.W.cell? ⟨gM, 2, none⟩ = some (.int .i64 p2) := fun p => ((qmn.on p.h).cell 2).trans rfl
          have hIN := HIN.out
          generalize decide (p2 ∈ Wo.take i) = hs at *
          have HIN2 := Lib.hid hIN
          clear hIN hWn hcn HIN
          cases hs
          · by_cases hq : wi = p2
            · subst hq
              go_upto_region 16 with (fail)
              refine wp_region_later (by kernel_rfl) (by kernel_rfl) ?_
              repeat (go_big_quiet_step (fail))
              refine wpQuiet_nil ?_
              intro _ hw'
              obtain ⟨pr, rfl⟩ := hw'
              go_wp2_with fail
              go_roundw
              case rel => exact ⟨i + 1, by omega, by go_num, by rw [HIN2.out]; simp, hbn.trans (pr.h.mono hbn.size)⟩
              case measure => simp [intOf]; omega
            · have gq : (wi == p2) = false := by simpa using hq
              have HG := Lib.hid gq
              have gq2 : (wi = p2) = False := eq_false hq
              clear hq
              go_upto_region 16 with (fail)
              refine wp_region_later (by kernel_rfl) (by kernel_rfl) ?_
              repeat (go_big_quiet_step (fail))
              refine wpQuiet_nil ?_
              intro _ hw'
              obtain ⟨pr, rfl⟩ := hw'
              go_wp2_with fail
              go_roundw
              case rel => exact ⟨i + 1, by omega, by go_num, by rw [HIN2.out, HG.out]; rfl, hbn.trans (pr.h.mono hbn.size)⟩
              case measure => simp [intOf]; omega
          · go_upto_region 16 with (fail)
            refine wp_region_later (by kernel_rfl) (by kernel_rfl) ?_
            repeat (go_big_quiet_step (fail))
            refine wpQuiet_nil ?_
            intro _ hw'
            obtain ⟨pr, rfl⟩ := hw'
            go_wp2_with fail
            go_roundw
            case rel => exact ⟨i + 1, by omega, by go_num, by rw [HIN2.out]; simp, hbn.trans (pr.h.mono hbn.size)⟩
            case measure => simp [intOf]; omega
      · obtain rfl : i = Wo.length := by omega
        have g1 : ((Wo.length : Int) < (Wo.length : Int)) = False := eq_false (by omega)
        rw [List.take_length]
        have cHl2 := fun B C W (h : Mks W W.heap.size (.slice B L.length C) L) => cHw B C p2 W h
        rw [show hasMB L (p0, p1, p2) = decide (p2 ∈ Wo) from HB2.out] at cHl2
        generalize decide (p2 ∈ Wo) = bw at *
        obtain ⟨f0, f1, f2⟩ : wr.cell? ⟨gM, 0, none⟩ = some (.int .i64 p0) ∧ wr.cell? ⟨gM, 1, none⟩ = some (.int .i64 p1) ∧ wr.cell? ⟨gM, 2, none⟩ = some (.int .i64 p2) := ⟨qmr.cell 0, qmr.cell 1, qmr.cell 2⟩
        go_wp2_with fail
        with_reducible refine (cHl2 _ _ _ hlr).mono ?_
        rintro o wH ⟨rfl, bH⟩
        have eb : (bw == bw) = true := by simp
        go_wp2_with fail
        go_ret
        exact ⟨by simp, B1.trans ((hb.trans (bH.mono hb.size)).mono B1.size)⟩
  · rw [Bool.true_and] at cHp
    by_cases hge : a ≤ p0
    · have g3 : (a ≤ p0) = True := eq_true hge
      rw [decide_eq_true hge] at cHp
      clear hge
      refine held_start (S := (fun w' => w'.cell? ⟨gM, 0, none⟩ = some (.int .i64 p0) ∧ w'.cell? ⟨gM, 1, none⟩ = some (.int .i64 p1) ∧ w'.cell? ⟨gM, 2, none⟩ = some (.int .i64 p2))) 30 #[false, false, false, false, false, false, false, false, false, false, false, false, false, false, false, false, false, false, false, false, false, false, false, false, false, false, false, false, false, false] (by kernel_rfl) (by kernel_rfl) (by kernel_rfl) ⟨qmD.cell 0, qmD.cell 1, qmD.cell 2⟩ (fun hHeld => ?_)
      refine wpAnyH_take (i := 0) (v := ?_) (by simp only [List.getElem?_toArray, List.getElem?_cons_zero]; rfl) (by kernel_rfl) (by kernel_rfl) (by kernel_rfl) (by exact fun _ _ _ h => h) (Or.inl ⟨rfl, ?_⟩) (by assumption) ?_
      rotate_left
      · intro wz hSw; (try dsimp only at hSw); go_simp; try with_reducible rfl
      try simp only [Act.put, List.setIfInBounds_toArray, List.set_cons_zero, List.set_cons_succ]
      refine wpAnyH_take (i := 1) (v := ?_) (by simp only [List.getElem?_toArray, List.getElem?_cons_succ, List.getElem?_cons_zero]; rfl) (by kernel_rfl) (by kernel_rfl) (by kernel_rfl) (by exact fun _ _ _ h => h) (Or.inl ⟨rfl, ?_⟩) (by assumption) ?_
      rotate_left
      · intro wz hSw; (try dsimp only at hSw); go_simp; try with_reducible rfl
      try simp only [Act.put, List.setIfInBounds_toArray, List.set_cons_zero, List.set_cons_succ]
      refine wpAnyH_take (i := 3) (v := ?_) (by simp only [List.getElem?_toArray, List.getElem?_cons_succ, List.getElem?_cons_zero]; rfl) (by kernel_rfl) (by kernel_rfl) (by kernel_rfl) (by exact fun _ _ _ h => h) (Or.inl ⟨rfl, ?_⟩) (by assumption) ?_
      rotate_left
      · intro wz hSw; (try dsimp only at hSw); go_simp; try with_reducible rfl
      try simp only [Act.put, List.setIfInBounds_toArray, List.set_cons_zero, List.set_cons_succ]
      refine wpAnyH_take (i := 4) (v := ?_) (by simp only [List.getElem?_toArray, List.getElem?_cons_succ, List.getElem?_cons_zero]; rfl) (by kernel_rfl) (by kernel_rfl) (by kernel_rfl) (by exact fun _ _ _ h => h) (Or.inl ⟨rfl, ?_⟩) (by assumption) ?_
      rotate_left
      · intro wz hSw; (try dsimp only at hSw); go_simp; try with_reducible rfl
      try simp only [Act.put, List.setIfInBounds_toArray, List.set_cons_zero, List.set_cons_succ]
      refine wpAnyH_ready (rs := [2]) (by kernel_rfl) (by simp) ?_
      refine AllReadyH.cons (by simp only [List.getElem?_toArray, List.getElem?_cons_succ, List.getElem?_cons_zero]; rfl) (fun K9 hK9 => ?_) AllReadyH.nil
      go_simp
      with_reducible refine (cHp _ _ _ hPD).mono ?_
      rintro e wA ⟨rfl, bN⟩
      have qm_wA := qmD.on bN
      have hl_wA := hlD.on bN
      have hP_wA := hPD.on bN
      have B_wA := BD.trans (bN.mono BD.size)
      clear bN
      go_simp
      clear hHeld
      refine hK9.out _ _ ⟨qm_wA.cell 0, qm_wA.cell 1, qm_wA.cell 2⟩ (fun hHeld => ?_)
      clear hK9 K9
      try simp only [Act.put, List.setIfInBounds_toArray, List.set_cons_zero, List.set_cons_succ]
      refine wpAnyH_ready (rs := [5]) (by kernel_rfl) (by simp) ?_
      refine AllReadyH.cons (by simp only [List.getElem?_toArray, List.getElem?_cons_succ, List.getElem?_cons_zero]; rfl) (fun K9 hK9 => ?_) AllReadyH.nil
      go_simp
      with_reducible refine (cHl _ _ _ hl_wA).mono ?_
      rintro e wB ⟨rfl, bN⟩
      have qm_wB := qm_wA.on bN
      have hl_wB := hl_wA.on bN
      have hP_wB := hP_wA.on bN
      have B_wB := B_wA.trans (bN.mono B_wA.size)
      clear bN
      go_simp
      clear hHeld
      refine hK9.out _ _ ⟨qm_wB.cell 0, qm_wB.cell 1, qm_wB.cell 2⟩ (fun hHeld => ?_)
      clear hK9 K9
      try simp only [Act.put, List.setIfInBounds_toArray, List.set_cons_zero, List.set_cons_succ]
      refine wpAnyH_take (i := 6) (v := ?_) (by simp only [List.getElem?_toArray, List.getElem?_cons_succ, List.getElem?_cons_zero]; rfl) (by kernel_rfl) (by kernel_rfl) (by kernel_rfl) (by exact fun _ _ _ h => h) (Or.inl ⟨rfl, ?_⟩) (by assumption) ?_
      rotate_left
      · intro wz hSw; (try dsimp only at hSw); go_simp; try with_reducible rfl
      try simp only [Act.put, List.setIfInBounds_toArray, List.set_cons_zero, List.set_cons_succ]
      refine wpAnyH_take (i := 7) (v := ?_) (by simp only [List.getElem?_toArray, List.getElem?_cons_succ, List.getElem?_cons_zero]; rfl) (by kernel_rfl) (by kernel_rfl) (by kernel_rfl) (by exact fun _ _ _ h => h) (Or.inl ⟨rfl, ?_⟩) (by assumption) ?_
      rotate_left
      · intro wz hSw; (try dsimp only at hSw); go_simp; try with_reducible rfl
      try simp only [Act.put, List.setIfInBounds_toArray, List.set_cons_zero, List.set_cons_succ]
      refine wpAnyH_take (i := 8) (v := ?_) (by simp only [List.getElem?_toArray, List.getElem?_cons_succ, List.getElem?_cons_zero]; rfl) (by kernel_rfl) (by kernel_rfl) (by kernel_rfl) (by exact fun _ _ _ h => h) (Or.inl ⟨rfl, ?_⟩) (by assumption) ?_
      rotate_left
      · intro wz hSw; (try dsimp only at hSw); go_simp; try with_reducible rfl
      try simp only [Act.put, List.setIfInBounds_toArray, List.set_cons_zero, List.set_cons_succ]
      refine wpAnyH_take (i := 9) (v := ?_) (by simp only [List.getElem?_toArray, List.getElem?_cons_succ, List.getElem?_cons_zero]; rfl) (by kernel_rfl) (by kernel_rfl) (by kernel_rfl) (by exact fun _ _ _ h => h) (Or.inl ⟨rfl, ?_⟩) (by assumption) ?_
      rotate_left
      · intro wz hSw; (try dsimp only at hSw); go_simp; try with_reducible rfl
      try simp only [Act.put, List.setIfInBounds_toArray, List.set_cons_zero, List.set_cons_succ]
      refine wpAnyH_take (i := 10) (v := ?_) (by simp only [List.getElem?_toArray, List.getElem?_cons_succ, List.getElem?_cons_zero]; rfl) (by kernel_rfl) (by kernel_rfl) (by kernel_rfl) (by exact fun _ _ _ h => h) (Or.inl ⟨rfl, ?_⟩) (by assumption) ?_
      rotate_left
      · intro wz hSw; (try dsimp only at hSw); go_simp; try with_reducible rfl
      try simp only [Act.put, List.setIfInBounds_toArray, List.set_cons_zero, List.set_cons_succ]
      refine wpAnyH_take (i := 11) (v := ?_) (by simp only [List.getElem?_toArray, List.getElem?_cons_succ, List.getElem?_cons_zero]; rfl) (by kernel_rfl) (by kernel_rfl) (by kernel_rfl) (by exact fun _ _ _ h => h) (Or.inl ⟨rfl, ?_⟩) (by assumption) ?_
      rotate_left
      · intro wz hSw; (try dsimp only at hSw); go_simp; try with_reducible rfl
      try simp only [Act.put, List.setIfInBounds_toArray, List.set_cons_zero, List.set_cons_succ]
      refine wpAnyH_take (i := 12) (v := ?_) (by simp only [List.getElem?_toArray, List.getElem?_cons_succ, List.getElem?_cons_zero]; rfl) (by kernel_rfl) (by kernel_rfl) (by kernel_rfl) (by exact fun _ _ _ h => h) (Or.inl ⟨rfl, ?_⟩) (by assumption) ?_
      rotate_left
      · intro wz hSw; (try dsimp only at hSw); go_simp; try with_reducible rfl
      try simp only [Act.put, List.setIfInBounds_toArray, List.set_cons_zero, List.set_cons_succ]
      refine wpAnyH_take (i := 13) (v := ?_) (by simp only [List.getElem?_toArray, List.getElem?_cons_succ, List.getElem?_cons_zero]; rfl) (by kernel_rfl) (by kernel_rfl) (by kernel_rfl) (by exact fun _ _ _ h => h) (Or.inl ⟨rfl, ?_⟩) (by assumption) ?_
      rotate_left
      · intro wz hSw; (try dsimp only at hSw); go_simp; try with_reducible rfl
      try simp only [Act.put, List.setIfInBounds_toArray, List.set_cons_zero, List.set_cons_succ]
      refine wpAnyH_take (i := 14) (v := ?_) (by simp only [List.getElem?_toArray, List.getElem?_cons_succ, List.getElem?_cons_zero]; rfl) (by kernel_rfl) (by kernel_rfl) (by kernel_rfl) (by exact fun _ _ _ h => h) (Or.inl ⟨rfl, ?_⟩) (by assumption) ?_
      rotate_left
      · intro wz hSw; (try dsimp only at hSw); go_simp; try with_reducible rfl
      try simp only [Act.put, List.setIfInBounds_toArray, List.set_cons_zero, List.set_cons_succ]
      refine wpAnyH_take (i := 15) (v := ?_) (by simp only [List.getElem?_toArray, List.getElem?_cons_succ, List.getElem?_cons_zero]; rfl) (by kernel_rfl) (by kernel_rfl) (by kernel_rfl) (by exact fun _ _ _ h => h) (Or.inl ⟨rfl, ?_⟩) (by assumption) ?_
      rotate_left
      · intro wz hSw; (try dsimp only at hSw); go_simp; try with_reducible rfl
      try simp only [Act.put, List.setIfInBounds_toArray, List.set_cons_zero, List.set_cons_succ]
      refine wpAnyH_take (i := 17) (v := ?_) (by simp only [List.getElem?_toArray, List.getElem?_cons_succ, List.getElem?_cons_zero]; rfl) (by kernel_rfl) (by kernel_rfl) (by kernel_rfl) (by exact fun _ _ _ h => h) (Or.inl ⟨rfl, ?_⟩) (by assumption) ?_
      rotate_left
      · intro wz hSw; (try dsimp only at hSw); go_simp; try with_reducible rfl
      try simp only [Act.put, List.setIfInBounds_toArray, List.set_cons_zero, List.set_cons_succ]
      refine wpAnyH_take (i := 18) (v := ?_) (by simp only [List.getElem?_toArray, List.getElem?_cons_succ, List.getElem?_cons_zero]; rfl) (by kernel_rfl) (by kernel_rfl) (by kernel_rfl) (by exact fun _ _ _ h => h) (Or.inl ⟨rfl, ?_⟩) (by assumption) ?_
      rotate_left
      · intro wz hSw; (try dsimp only at hSw); go_simp; try with_reducible rfl
      try simp only [Act.put, List.setIfInBounds_toArray, List.set_cons_zero, List.set_cons_succ]
      refine wpAnyH_take (i := 19) (v := ?_) (by simp only [List.getElem?_toArray, List.getElem?_cons_succ, List.getElem?_cons_zero]; rfl) (by kernel_rfl) (by kernel_rfl) (by kernel_rfl) (by exact fun _ _ _ h => h) (Or.inl ⟨rfl, ?_⟩) (by assumption) ?_
      rotate_left
      · intro wz hSw; (try dsimp only at hSw); go_simp; try with_reducible rfl
      try simp only [Act.put, List.setIfInBounds_toArray, List.set_cons_zero, List.set_cons_succ]
      refine wpAnyH_take (i := 20) (v := ?_) (by simp only [List.getElem?_toArray, List.getElem?_cons_succ, List.getElem?_cons_zero]; rfl) (by kernel_rfl) (by kernel_rfl) (by kernel_rfl) (by exact fun _ _ _ h => h) (Or.inl ⟨rfl, ?_⟩) (by assumption) ?_
      rotate_left
      · intro wz hSw; (try dsimp only at hSw); go_simp; try with_reducible rfl
      try simp only [Act.put, List.setIfInBounds_toArray, List.set_cons_zero, List.set_cons_succ]
      refine wpAnyH_ready (rs := [16]) (by kernel_rfl) (by simp) ?_
      refine AllReadyH.cons (by simp only [List.getElem?_toArray, List.getElem?_cons_succ, List.getElem?_cons_zero]; rfl) (fun K9 hK9 => ?_) AllReadyH.nil
      go_simp
      with_reducible refine (cP1 _ _ _ hP_wB).mono ?_
      rintro e wC ⟨A1, c1, rfl, hQ1, -, bN⟩
      have qm_wC := qm_wB.on bN
      have hl_wC := hl_wB.on bN
      have hP_wC := hP_wB.on bN
      have B_wC := B_wB.trans (bN.mono B_wB.size)
      clear bN
      go_simp
      clear hHeld
      refine hK9.out _ _ ⟨qm_wC.cell 0, qm_wC.cell 1, qm_wC.cell 2⟩ (fun hHeld => ?_)
      clear hK9 K9
      try simp only [Act.put, List.setIfInBounds_toArray, List.set_cons_zero, List.set_cons_succ]
      refine wpAnyH_ready (rs := [21]) (by kernel_rfl) (by simp) ?_
      refine AllReadyH.cons (by simp only [List.getElem?_toArray, List.getElem?_cons_succ, List.getElem?_cons_zero]; rfl) (fun K9 hK9 => ?_) AllReadyH.nil
      go_simp
      with_reducible refine (cP2 _ _ _ hl_wC).mono ?_
      rintro e wD ⟨A2, c2, rfl, hQ2, -, bN⟩
      have qm_wD := qm_wC.on bN
      have hl_wD := hl_wC.on bN
      have hP_wD := hP_wC.on bN
      have hQ1_wD := hQ1.on bN
      have B_wD := B_wC.trans (bN.mono B_wC.size)
      clear bN
      go_simp
      clear hHeld
      refine hK9.out _ _ ⟨qm_wD.cell 0, qm_wD.cell 1, qm_wD.cell 2⟩ (fun hHeld => ?_)
      clear hK9 K9
      try simp only [Act.put, List.setIfInBounds_toArray, List.set_cons_zero, List.set_cons_succ]
      refine wpAnyH_ready (rs := [22]) (by kernel_rfl) (by simp) ?_
      refine AllReadyH.cons (by simp only [List.getElem?_toArray, List.getElem?_cons_succ, List.getElem?_cons_zero]; rfl) (fun K9 hK9 => ?_) AllReadyH.nil
      go_simp
      with_reducible refine (cSm _ _ _ _ _ hQ1_wD hQ2).mono ?_
      rintro e wE ⟨rfl, bN⟩
      have qm_wE := qm_wD.on bN
      have hl_wE := hl_wD.on bN
      have hP_wE := hP_wD.on bN
      have B_wE := B_wD.trans (bN.mono B_wD.size)
      clear bN
      go_simp
      clear hHeld
      refine hK9.out _ _ ⟨qm_wE.cell 0, qm_wE.cell 1, qm_wE.cell 2⟩ (fun hHeld => ?_)
      clear hK9 K9
      try simp only [Act.put, List.setIfInBounds_toArray, List.set_cons_zero, List.set_cons_succ]
      refine wpAnyH_take (i := 23) (v := ?_) (by simp only [List.getElem?_toArray, List.getElem?_cons_succ, List.getElem?_cons_zero]; rfl) (by kernel_rfl) (by kernel_rfl) (by kernel_rfl) (by exact fun _ _ _ h => h) (Or.inl ⟨rfl, ?_⟩) (by assumption) ?_
      rotate_left
      · intro wz hSw; (try dsimp only at hSw); go_simp; try with_reducible rfl
      try simp only [Act.put, List.setIfInBounds_toArray, List.set_cons_zero, List.set_cons_succ]
      refine wpAnyH_take (i := 24) (v := ?_) (by simp only [List.getElem?_toArray, List.getElem?_cons_succ, List.getElem?_cons_zero]; rfl) (by kernel_rfl) (by kernel_rfl) (by kernel_rfl) (by exact fun _ _ _ h => h) (Or.inl ⟨rfl, ?_⟩) (by assumption) ?_
      rotate_left
      · intro wz hSw; (try dsimp only at hSw); go_simp; try with_reducible rfl
      try simp only [Act.put, List.setIfInBounds_toArray, List.set_cons_zero, List.set_cons_succ]
      refine wpAnyH_take (i := 25) (v := ?_) (by simp only [List.getElem?_toArray, List.getElem?_cons_succ, List.getElem?_cons_zero]; rfl) (by kernel_rfl) (by kernel_rfl) (by kernel_rfl) (by exact fun _ _ _ h => h) (Or.inl ⟨rfl, ?_⟩) (by assumption) ?_
      rotate_left
      · intro wz hSw; (try dsimp only at hSw); go_simp; try with_reducible rfl
      try simp only [Act.put, List.setIfInBounds_toArray, List.set_cons_zero, List.set_cons_succ]
      refine wpAnyH_take (i := 26) (v := ?_) (by simp only [List.getElem?_toArray, List.getElem?_cons_succ, List.getElem?_cons_zero]; rfl) (by kernel_rfl) (by kernel_rfl) (by kernel_rfl) (by exact fun _ _ _ h => h) (Or.inl ⟨rfl, ?_⟩) (by assumption) ?_
      rotate_left
      · intro wz hSw; (try dsimp only at hSw); go_simp; try with_reducible rfl
      try simp only [Act.put, List.setIfInBounds_toArray, List.set_cons_zero, List.set_cons_succ]
      refine wpAnyH_ready (rs := [27]) (by kernel_rfl) (by simp) ?_
      refine AllReadyH.cons (by simp only [List.getElem?_toArray, List.getElem?_cons_succ, List.getElem?_cons_zero]; rfl) (fun K9 hK9 => ?_) AllReadyH.nil
      go_simp
      with_reducible refine (cRp _ _ _ hP_wE).mono ?_
      rintro e wF ⟨rfl, bN⟩
      have qm_wF := qm_wE.on bN
      have hl_wF := hl_wE.on bN
      have hP_wF := hP_wE.on bN
      have B_wF := B_wE.trans (bN.mono B_wE.size)
      clear bN
      go_simp
      clear hHeld
      refine hK9.out _ _ ⟨qm_wF.cell 0, qm_wF.cell 1, qm_wF.cell 2⟩ (fun hHeld => ?_)
      clear hK9 K9
      try simp only [Act.put, List.setIfInBounds_toArray, List.set_cons_zero, List.set_cons_succ]
      refine wpAnyH_take (i := 28) (v := ?_) (by simp only [List.getElem?_toArray, List.getElem?_cons_succ, List.getElem?_cons_zero]; rfl) (by kernel_rfl) (by kernel_rfl) (by kernel_rfl) (by exact fun _ _ _ h => h) (Or.inl ⟨rfl, ?_⟩) (by assumption) ?_
      rotate_left
      · intro wz hSw; (try dsimp only at hSw); go_simp; try with_reducible rfl
      try simp only [Act.put, List.setIfInBounds_toArray, List.set_cons_zero, List.set_cons_succ]
      refine wpAnyH_take (i := 29) (v := ?_) (by simp only [List.getElem?_toArray, List.getElem?_cons_succ, List.getElem?_cons_zero]; rfl) (by kernel_rfl) (by kernel_rfl) (by kernel_rfl) (by exact fun _ _ _ h => h) (Or.inl ⟨rfl, ?_⟩) (by assumption) ?_
      rotate_left
      · intro wz hSw; (try dsimp only at hSw); go_simp; try with_reducible rfl
      try simp only [Act.put, List.setIfInBounds_toArray, List.set_cons_zero, List.set_cons_succ]
      refine wpAnyH_done (by kernel_rfl) ?_ _
      clear hP_wF cHp cHl cP1 cP2 cSm cRp bD BD qmD hlD hPD f0 f1 f2 qm hl hP hQ1 hQ2
      obtain ⟨f0, f1⟩ : wF.cell? ⟨gM, 0, none⟩ = some (.int .i64 p0) ∧ wF.cell? ⟨gM, 1, none⟩ = some (.int .i64 p1) := ⟨qm_wF.cell 0, qm_wF.cell 1⟩
      go_simp
      go_wp2_with fail
      with_reducible refine (cOf _ _ _ hl_wF).mono ?_
      rintro o wG ⟨Aw, cw, rfl, hW, -, bG⟩
      have qm := qm_wF.on bG
      have hl := hl_wF.on bG
      have B1 := B_wF.trans (bG.mono B_wF.size)
      clear f0 f1 bG qm_wF hl_wF B_wF cOf
      go_wp2_with fail
      go_loopw [16, 17] (fun hv iv wr => ∃ i : Nat, i ≤ Wo.length ∧ iv = .int .i64 i ∧ hv = .bool (decide (p2 ∈ Wo.take i)) ∧ Below wG.heap.size wG wr) (fun _ iv _ => Wo.length - (intOf iv).toNat)
      case atStart => exact ⟨0, Nat.zero_le _, rfl, by simp, Below.refl _ _⟩
      case round =>
        obtain ⟨i, hi, rfl, rfl, hb⟩ := hrel
        have qmr := qm.on hb
        have hlr := hl.on hb
        have hWr := hW.on hb
        by_cases hlt : i < Wo.length
        · have g1 : ((i : Int) < (Wo.length : Int)) = True := eq_true (by omega)
          have g2 : (i < Wo.length) = True := eq_true hlt
          have hmem : (p0, p1, Wo[i]) ∈ L := (HWM.out _).1 (List.getElem_mem hlt)
          have HC : ∀ p : Later wr, Calls Try.prog 15 #[.slice Al L.length cl, .agg #[.int .i64 p0, .int .i64 p1, .int .i64 Wo[i]]] p.W fun e w_ => e = .returned (.bool true) ∧ ∃ p : Later wr, w_ = p.W := fun p => later_of (by have := cHw _ _ Wo[i] p.W (hlr.on p.h); rwa [HHL.out _ hmem] at this)
          have HIN := Lib.hid (show decide (p2 ∈ Wo.take (i + 1)) = (decide (p2 ∈ Wo.take i) || (Wo[i] == p2)) by
            rw [List.take_succ_eq_append_getElem hlt]
            rw [Bool.eq_iff_iff]
            simp only [List.mem_append, List.mem_singleton, Bool.or_eq_true, decide_eq_true_eq, beq_iff_eq]
            constructor
            · rintro (h | h)
              · exact .inl h
              · exact .inr h.symm
            · rintro (h | h)
              · exact .inl h
              · exact .inr h.symm)
          have hcl : ∀ p : Later wr, Ints p.W p.W.heap.size (.slice Aw Wo.length cw) Wo := fun p => hWr.on p.h
          obtain ⟨ad, rfl, _, e0⟩ := hWr.at_ hlt
          have z0 : ∀ p : Later wr, p.W.cell? (ad.add i) = some (.int .i64 Wo[i]) := fun p => by obtain ⟨_, e, _, h1⟩ := (hcl p).at_ hlt; cases e; exact h1
          have y0 : ∀ p : Later wr, p.W.cell? ⟨gM, 0, none⟩ = some (.int .i64 p0) := fun p => ((qmr.on p.h).cell 0).trans rfl
          have y1 : ∀ p : Later wr, p.W.cell? ⟨gM, 1, none⟩ = some (.int .i64 p1) := fun p => ((qmr.on p.h).cell 1).trans rfl
          have hz := hb.size
          by_cases hi0 : 0 < i
          · obtain ⟨j, hj⟩ : ∃ j, j + 1 = i := ⟨i - 1, by omega⟩
            have hjl : j < Wo.length := by omega
            have ej : (i : Int) - 1 = (j : Int) := by omega
            have gz : ((0 : Int) < (i : Int)) = True := eq_true (by omega)
            have gz2 : (0 < i) = True := eq_true hi0
            have hlt2 : Wo[j] < Wo[i] := (List.pairwise_iff_getElem.1 HWS.out) j i hjl hlt (by omega)
            have gs : (Wo[i] ≤ Wo[j]) = False := eq_false (by omega)
            have z1 : ∀ p : Later wr, p.W.cell? (ad.add j) = some (.int .i64 Wo[j]) := fun p => by obtain ⟨_, e, _, h1⟩ := (hcl p).at_ hjl; cases e; exact h1
            clear hlt2 hmem e0 hj
            obtain ⟨wi, hwi⟩ : ∃ x, Wo[i] = x := ⟨_, rfl⟩
            rw [hwi] at gs z0 HC HIN
            have HWI := Lib.hid hwi
            clear hwi
            generalize Wo[j] = wj at *
            go_upto_region 14 with (fail)
            refine wp_region_later (by kernel_rfl) (by kernel_rfl) ?_
            repeat (go_big_quiet_step (first | (go_at_call 15; exact HC _)))
            refine wpQuiet_nil ?_
            intro _ hw'
            obtain ⟨pq, rfl⟩ := hw'
            have hbn : Below wG.heap.size wG pq.W := hb.trans (pq.h.mono hz)
            have qmn := qmr.on pq.h
            have hWn := hcl pq
            clear z0 z1 y0 y1 HC hcl
            generalize pq.W = wI at *
            have hcn : ∀ p : Later wI, Ints p.W p.W.heap.size (.slice (some ad) Wo.length cw) Wo := fun p => hWn.on p.h
            have z0 : ∀ p : Later wI, p.W.cell? (ad.add i) = some (.int .i64 wi) := fun p => by obtain ⟨_, e, _, h1⟩ := (hcn p).at_ hlt; cases e; exact h1.trans (by rw [HWI.out])
            have y2 : ∀ p : Later wI, p.W.cell? ⟨gM, 2, none⟩ = some (.int .i64 p2) := fun p => ((qmn.on p.h).cell 2).trans rfl
            have hIN := HIN.out
            generalize decide (p2 ∈ Wo.take i) = hs at *
            have HIN2 := Lib.hid hIN
            clear hIN hWn hcn HIN
            cases hs
            · by_cases hq : wi = p2
              · subst hq
                go_upto_region 16 with (fail)
                refine wp_region_later (by kernel_rfl) (by kernel_rfl) ?_
                repeat (go_big_quiet_step (fail))
                refine wpQuiet_nil ?_
                intro _ hw'
                obtain ⟨pr, rfl⟩ := hw'
                go_wp2_with fail
                go_roundw
                case rel => exact ⟨i + 1, by omega, by go_num, by rw [HIN2.out]; simp, hbn.trans (pr.h.mono hbn.size)⟩
                case measure => simp [intOf]; omega
              · have gq : (wi == p2) = false := by simpa using hq
                have HG := Lib.hid gq
                have gq2 : (wi = p2) = False := eq_false hq
                clear hq
                go_upto_region 16 with (fail)
                refine wp_region_later (by kernel_rfl) (by kernel_rfl) ?_
                repeat (go_big_quiet_step (fail))
                refine wpQuiet_nil ?_
                intro _ hw'
                obtain ⟨pr, rfl⟩ := hw'
                go_wp2_with fail
                go_roundw
                case rel => exact ⟨i + 1, by omega, by go_num, by rw [HIN2.out, HG.out]; rfl, hbn.trans (pr.h.mono hbn.size)⟩
                case measure => simp [intOf]; omega
            · go_upto_region 16 with (fail)
              refine wp_region_later (by kernel_rfl) (by kernel_rfl) ?_
              repeat (go_big_quiet_step (fail))
              refine wpQuiet_nil ?_
              intro _ hw'
              obtain ⟨pr, rfl⟩ := hw'
              go_wp2_with fail
              go_roundw
              case rel => exact ⟨i + 1, by omega, by go_num, by rw [HIN2.out]; simp, hbn.trans (pr.h.mono hbn.size)⟩
              case measure => simp [intOf]; omega
          · have gz : ((0 : Int) < (i : Int)) = False := eq_false (by omega)
            have gz2 : (0 < i) = False := eq_false hi0
            clear hmem e0
            obtain ⟨wi, hwi⟩ : ∃ x, Wo[i] = x := ⟨_, rfl⟩
            rw [hwi] at z0 HC HIN
            have HWI := Lib.hid hwi
            clear hwi
            go_upto_region 14 with (fail)
            refine wp_region_later (by kernel_rfl) (by kernel_rfl) ?_
            repeat (go_big_quiet_step (first | (go_at_call 15; exact HC _)))
            refine wpQuiet_nil ?_
            intro _ hw'
            obtain ⟨pq, rfl⟩ := hw'
            have hbn : Below wG.heap.size wG pq.W := hb.trans (pq.h.mono hz)
            have qmn := qmr.on pq.h
            have hWn := hcl pq
            clear z0 y0 y1 HC hcl
            generalize pq.W = wI at *
            have hcn : ∀ p : Later wI, Ints p.W p.W.heap.size (.slice (some ad) Wo.length cw) Wo := fun p => hWn.on p.h
            have z0 : ∀ p : Later wI, p.W.cell? (ad.add i) = some (.int .i64 wi) := fun p => by obtain ⟨_, e, _, h1⟩ := (hcn p).at_ hlt; cases e; exact h1.trans (by rw [HWI.out])
            have y2 : ∀ p : Later wI, p.W.cell? ⟨gM, 2, none⟩ = some (.int .i64 p2) := fun p => ((qmn.on p.h).cell 2).trans rfl
            have hIN := HIN.out
            generalize decide (p2 ∈ Wo.take i) = hs at *
            have HIN2 := Lib.hid hIN
            clear hIN hWn hcn HIN
            cases hs
            · by_cases hq : wi = p2
              · subst hq
                go_upto_region 16 with (fail)
                refine wp_region_later (by kernel_rfl) (by kernel_rfl) ?_
                repeat (go_big_quiet_step (fail))
                refine wpQuiet_nil ?_
                intro _ hw'
                obtain ⟨pr, rfl⟩ := hw'
                go_wp2_with fail
                go_roundw
                case rel => exact ⟨i + 1, by omega, by go_num, by rw [HIN2.out]; simp, hbn.trans (pr.h.mono hbn.size)⟩
                case measure => simp [intOf]; omega
              · have gq : (wi == p2) = false := by simpa using hq
                have HG := Lib.hid gq
                have gq2 : (wi = p2) = False := eq_false hq
                clear hq
                go_upto_region 16 with (fail)
                refine wp_region_later (by kernel_rfl) (by kernel_rfl) ?_
                repeat (go_big_quiet_step (fail))
                refine wpQuiet_nil ?_
                intro _ hw'
                obtain ⟨pr, rfl⟩ := hw'
                go_wp2_with fail
                go_roundw
                case rel => exact ⟨i + 1, by omega, by go_num, by rw [HIN2.out, HG.out]; rfl, hbn.trans (pr.h.mono hbn.size)⟩
                case measure => simp [intOf]; omega
            · go_upto_region 16 with (fail)
              refine wp_region_later (by kernel_rfl) (by kernel_rfl) ?_
              repeat (go_big_quiet_step (fail))
              refine wpQuiet_nil ?_
              intro _ hw'
              obtain ⟨pr, rfl⟩ := hw'
              go_wp2_with fail
              go_roundw
              case rel => exact ⟨i + 1, by omega, by go_num, by rw [HIN2.out]; simp, hbn.trans (pr.h.mono hbn.size)⟩
              case measure => simp [intOf]; omega
        · obtain rfl : i = Wo.length := by omega
          have g1 : ((Wo.length : Int) < (Wo.length : Int)) = False := eq_false (by omega)
          rw [List.take_length]
          have cHl2 := fun B C W (h : Mks W W.heap.size (.slice B L.length C) L) => cHw B C p2 W h
          rw [show hasMB L (p0, p1, p2) = decide (p2 ∈ Wo) from HB2.out] at cHl2
          generalize decide (p2 ∈ Wo) = bw at *
          obtain ⟨f0, f1, f2⟩ : wr.cell? ⟨gM, 0, none⟩ = some (.int .i64 p0) ∧ wr.cell? ⟨gM, 1, none⟩ = some (.int .i64 p1) ∧ wr.cell? ⟨gM, 2, none⟩ = some (.int .i64 p2) := ⟨qmr.cell 0, qmr.cell 1, qmr.cell 2⟩
          go_wp2_with fail
          with_reducible refine (cHl2 _ _ _ hlr).mono ?_
          rintro o wH ⟨rfl, bH⟩
          have eb : (bw == bw) = true := by simp
          go_wp2_with fail
          go_ret
          exact ⟨by simp, B1.trans ((hb.trans (bH.mono hb.size)).mono B1.size)⟩
    · have g3 : (a ≤ p0) = False := eq_false hge
      rw [decide_eq_false hge] at cHp
      clear hge
      refine held_start (S := (fun w' => w'.cell? ⟨gM, 0, none⟩ = some (.int .i64 p0) ∧ w'.cell? ⟨gM, 1, none⟩ = some (.int .i64 p1) ∧ w'.cell? ⟨gM, 2, none⟩ = some (.int .i64 p2))) 30 #[false, false, false, false, false, false, false, false, false, false, false, false, false, false, false, false, false, false, false, false, false, false, false, false, false, false, false, false, false, false] (by kernel_rfl) (by kernel_rfl) (by kernel_rfl) ⟨qmD.cell 0, qmD.cell 1, qmD.cell 2⟩ (fun hHeld => ?_)
      refine wpAnyH_take (i := 0) (v := ?_) (by simp only [List.getElem?_toArray, List.getElem?_cons_zero]; rfl) (by kernel_rfl) (by kernel_rfl) (by kernel_rfl) (by exact fun _ _ _ h => h) (Or.inl ⟨rfl, ?_⟩) (by assumption) ?_
      rotate_left
      · intro wz hSw; (try dsimp only at hSw); go_simp; try with_reducible rfl
      try simp only [Act.put, List.setIfInBounds_toArray, List.set_cons_zero, List.set_cons_succ]
      refine wpAnyH_take (i := 1) (v := ?_) (by simp only [List.getElem?_toArray, List.getElem?_cons_succ, List.getElem?_cons_zero]; rfl) (by kernel_rfl) (by kernel_rfl) (by kernel_rfl) (by exact fun _ _ _ h => h) (Or.inl ⟨rfl, ?_⟩) (by assumption) ?_
      rotate_left
      · intro wz hSw; (try dsimp only at hSw); go_simp; try with_reducible rfl
      try simp only [Act.put, List.setIfInBounds_toArray, List.set_cons_zero, List.set_cons_succ]
      refine wpAnyH_take (i := 3) (v := ?_) (by simp only [List.getElem?_toArray, List.getElem?_cons_succ, List.getElem?_cons_zero]; rfl) (by kernel_rfl) (by kernel_rfl) (by kernel_rfl) (by exact fun _ _ _ h => h) (Or.inl ⟨rfl, ?_⟩) (by assumption) ?_
      rotate_left
      · intro wz hSw; (try dsimp only at hSw); go_simp; try with_reducible rfl
      try simp only [Act.put, List.setIfInBounds_toArray, List.set_cons_zero, List.set_cons_succ]
      refine wpAnyH_take (i := 4) (v := ?_) (by simp only [List.getElem?_toArray, List.getElem?_cons_succ, List.getElem?_cons_zero]; rfl) (by kernel_rfl) (by kernel_rfl) (by kernel_rfl) (by exact fun _ _ _ h => h) (Or.inl ⟨rfl, ?_⟩) (by assumption) ?_
      rotate_left
      · intro wz hSw; (try dsimp only at hSw); go_simp; try with_reducible rfl
      try simp only [Act.put, List.setIfInBounds_toArray, List.set_cons_zero, List.set_cons_succ]
      refine wpAnyH_ready (rs := [2]) (by kernel_rfl) (by simp) ?_
      refine AllReadyH.cons (by simp only [List.getElem?_toArray, List.getElem?_cons_succ, List.getElem?_cons_zero]; rfl) (fun K9 hK9 => ?_) AllReadyH.nil
      go_simp
      with_reducible refine (cHp _ _ _ hPD).mono ?_
      rintro e wA ⟨rfl, bN⟩
      have qm_wA := qmD.on bN
      have hl_wA := hlD.on bN
      have hP_wA := hPD.on bN
      have B_wA := BD.trans (bN.mono BD.size)
      clear bN
      go_simp
      clear hHeld
      refine hK9.out _ _ ⟨qm_wA.cell 0, qm_wA.cell 1, qm_wA.cell 2⟩ (fun hHeld => ?_)
      clear hK9 K9
      try simp only [Act.put, List.setIfInBounds_toArray, List.set_cons_zero, List.set_cons_succ]
      refine wpAnyH_ready (rs := [5]) (by kernel_rfl) (by simp) ?_
      refine AllReadyH.cons (by simp only [List.getElem?_toArray, List.getElem?_cons_succ, List.getElem?_cons_zero]; rfl) (fun K9 hK9 => ?_) AllReadyH.nil
      go_simp
      with_reducible refine (cHl _ _ _ hl_wA).mono ?_
      rintro e wB ⟨rfl, bN⟩
      have qm_wB := qm_wA.on bN
      have hl_wB := hl_wA.on bN
      have hP_wB := hP_wA.on bN
      have B_wB := B_wA.trans (bN.mono B_wA.size)
      clear bN
      go_simp
      clear hHeld
      refine hK9.out _ _ ⟨qm_wB.cell 0, qm_wB.cell 1, qm_wB.cell 2⟩ (fun hHeld => ?_)
      clear hK9 K9
      try simp only [Act.put, List.setIfInBounds_toArray, List.set_cons_zero, List.set_cons_succ]
      refine wpAnyH_take (i := 6) (v := ?_) (by simp only [List.getElem?_toArray, List.getElem?_cons_succ, List.getElem?_cons_zero]; rfl) (by kernel_rfl) (by kernel_rfl) (by kernel_rfl) (by exact fun _ _ _ h => h) (Or.inl ⟨rfl, ?_⟩) (by assumption) ?_
      rotate_left
      · intro wz hSw; (try dsimp only at hSw); go_simp; try with_reducible rfl
      try simp only [Act.put, List.setIfInBounds_toArray, List.set_cons_zero, List.set_cons_succ]
      refine wpAnyH_take (i := 7) (v := ?_) (by simp only [List.getElem?_toArray, List.getElem?_cons_succ, List.getElem?_cons_zero]; rfl) (by kernel_rfl) (by kernel_rfl) (by kernel_rfl) (by exact fun _ _ _ h => h) (Or.inl ⟨rfl, ?_⟩) (by assumption) ?_
      rotate_left
      · intro wz hSw; (try dsimp only at hSw); go_simp; try with_reducible rfl
      try simp only [Act.put, List.setIfInBounds_toArray, List.set_cons_zero, List.set_cons_succ]
      refine wpAnyH_take (i := 8) (v := ?_) (by simp only [List.getElem?_toArray, List.getElem?_cons_succ, List.getElem?_cons_zero]; rfl) (by kernel_rfl) (by kernel_rfl) (by kernel_rfl) (by exact fun _ _ _ h => h) (Or.inl ⟨rfl, ?_⟩) (by assumption) ?_
      rotate_left
      · intro wz hSw; (try dsimp only at hSw); go_simp; try with_reducible rfl
      try simp only [Act.put, List.setIfInBounds_toArray, List.set_cons_zero, List.set_cons_succ]
      refine wpAnyH_take (i := 9) (v := ?_) (by simp only [List.getElem?_toArray, List.getElem?_cons_succ, List.getElem?_cons_zero]; rfl) (by kernel_rfl) (by kernel_rfl) (by kernel_rfl) (by exact fun _ _ _ h => h) (Or.inl ⟨rfl, ?_⟩) (by assumption) ?_
      rotate_left
      · intro wz hSw; (try dsimp only at hSw); go_simp; try with_reducible rfl
      try simp only [Act.put, List.setIfInBounds_toArray, List.set_cons_zero, List.set_cons_succ]
      refine wpAnyH_take (i := 10) (v := ?_) (by simp only [List.getElem?_toArray, List.getElem?_cons_succ, List.getElem?_cons_zero]; rfl) (by kernel_rfl) (by kernel_rfl) (by kernel_rfl) (by exact fun _ _ _ h => h) (Or.inl ⟨rfl, ?_⟩) (by assumption) ?_
      rotate_left
      · intro wz hSw; (try dsimp only at hSw); go_simp; try with_reducible rfl
      try simp only [Act.put, List.setIfInBounds_toArray, List.set_cons_zero, List.set_cons_succ]
      refine wpAnyH_take (i := 11) (v := ?_) (by simp only [List.getElem?_toArray, List.getElem?_cons_succ, List.getElem?_cons_zero]; rfl) (by kernel_rfl) (by kernel_rfl) (by kernel_rfl) (by exact fun _ _ _ h => h) (Or.inl ⟨rfl, ?_⟩) (by assumption) ?_
      rotate_left
      · intro wz hSw; (try dsimp only at hSw); go_simp; try with_reducible rfl
      try simp only [Act.put, List.setIfInBounds_toArray, List.set_cons_zero, List.set_cons_succ]
      refine wpAnyH_take (i := 12) (v := ?_) (by simp only [List.getElem?_toArray, List.getElem?_cons_succ, List.getElem?_cons_zero]; rfl) (by kernel_rfl) (by kernel_rfl) (by kernel_rfl) (by exact fun _ _ _ h => h) (Or.inl ⟨rfl, ?_⟩) (by assumption) ?_
      rotate_left
      · intro wz hSw; (try dsimp only at hSw); go_simp; try with_reducible rfl
      try simp only [Act.put, List.setIfInBounds_toArray, List.set_cons_zero, List.set_cons_succ]
      refine wpAnyH_take (i := 13) (v := ?_) (by simp only [List.getElem?_toArray, List.getElem?_cons_succ, List.getElem?_cons_zero]; rfl) (by kernel_rfl) (by kernel_rfl) (by kernel_rfl) (by exact fun _ _ _ h => h) (Or.inl ⟨rfl, ?_⟩) (by assumption) ?_
      rotate_left
      · intro wz hSw; (try dsimp only at hSw); go_simp; try with_reducible rfl
      try simp only [Act.put, List.setIfInBounds_toArray, List.set_cons_zero, List.set_cons_succ]
      refine wpAnyH_take (i := 14) (v := ?_) (by simp only [List.getElem?_toArray, List.getElem?_cons_succ, List.getElem?_cons_zero]; rfl) (by kernel_rfl) (by kernel_rfl) (by kernel_rfl) (by exact fun _ _ _ h => h) (Or.inl ⟨rfl, ?_⟩) (by assumption) ?_
      rotate_left
      · intro wz hSw; (try dsimp only at hSw); go_simp; try with_reducible rfl
      try simp only [Act.put, List.setIfInBounds_toArray, List.set_cons_zero, List.set_cons_succ]
      refine wpAnyH_take (i := 15) (v := ?_) (by simp only [List.getElem?_toArray, List.getElem?_cons_succ, List.getElem?_cons_zero]; rfl) (by kernel_rfl) (by kernel_rfl) (by kernel_rfl) (by exact fun _ _ _ h => h) (Or.inl ⟨rfl, ?_⟩) (by assumption) ?_
      rotate_left
      · intro wz hSw; (try dsimp only at hSw); go_simp; try with_reducible rfl
      try simp only [Act.put, List.setIfInBounds_toArray, List.set_cons_zero, List.set_cons_succ]
      refine wpAnyH_take (i := 17) (v := ?_) (by simp only [List.getElem?_toArray, List.getElem?_cons_succ, List.getElem?_cons_zero]; rfl) (by kernel_rfl) (by kernel_rfl) (by kernel_rfl) (by exact fun _ _ _ h => h) (Or.inl ⟨rfl, ?_⟩) (by assumption) ?_
      rotate_left
      · intro wz hSw; (try dsimp only at hSw); go_simp; try with_reducible rfl
      try simp only [Act.put, List.setIfInBounds_toArray, List.set_cons_zero, List.set_cons_succ]
      refine wpAnyH_take (i := 18) (v := ?_) (by simp only [List.getElem?_toArray, List.getElem?_cons_succ, List.getElem?_cons_zero]; rfl) (by kernel_rfl) (by kernel_rfl) (by kernel_rfl) (by exact fun _ _ _ h => h) (Or.inl ⟨rfl, ?_⟩) (by assumption) ?_
      rotate_left
      · intro wz hSw; (try dsimp only at hSw); go_simp; try with_reducible rfl
      try simp only [Act.put, List.setIfInBounds_toArray, List.set_cons_zero, List.set_cons_succ]
      refine wpAnyH_take (i := 19) (v := ?_) (by simp only [List.getElem?_toArray, List.getElem?_cons_succ, List.getElem?_cons_zero]; rfl) (by kernel_rfl) (by kernel_rfl) (by kernel_rfl) (by exact fun _ _ _ h => h) (Or.inl ⟨rfl, ?_⟩) (by assumption) ?_
      rotate_left
      · intro wz hSw; (try dsimp only at hSw); go_simp; try with_reducible rfl
      try simp only [Act.put, List.setIfInBounds_toArray, List.set_cons_zero, List.set_cons_succ]
      refine wpAnyH_take (i := 20) (v := ?_) (by simp only [List.getElem?_toArray, List.getElem?_cons_succ, List.getElem?_cons_zero]; rfl) (by kernel_rfl) (by kernel_rfl) (by kernel_rfl) (by exact fun _ _ _ h => h) (Or.inl ⟨rfl, ?_⟩) (by assumption) ?_
      rotate_left
      · intro wz hSw; (try dsimp only at hSw); go_simp; try with_reducible rfl
      try simp only [Act.put, List.setIfInBounds_toArray, List.set_cons_zero, List.set_cons_succ]
      refine wpAnyH_ready (rs := [16]) (by kernel_rfl) (by simp) ?_
      refine AllReadyH.cons (by simp only [List.getElem?_toArray, List.getElem?_cons_succ, List.getElem?_cons_zero]; rfl) (fun K9 hK9 => ?_) AllReadyH.nil
      go_simp
      with_reducible refine (cP1 _ _ _ hP_wB).mono ?_
      rintro e wC ⟨A1, c1, rfl, hQ1, -, bN⟩
      have qm_wC := qm_wB.on bN
      have hl_wC := hl_wB.on bN
      have hP_wC := hP_wB.on bN
      have B_wC := B_wB.trans (bN.mono B_wB.size)
      clear bN
      go_simp
      clear hHeld
      refine hK9.out _ _ ⟨qm_wC.cell 0, qm_wC.cell 1, qm_wC.cell 2⟩ (fun hHeld => ?_)
      clear hK9 K9
      try simp only [Act.put, List.setIfInBounds_toArray, List.set_cons_zero, List.set_cons_succ]
      refine wpAnyH_ready (rs := [21]) (by kernel_rfl) (by simp) ?_
      refine AllReadyH.cons (by simp only [List.getElem?_toArray, List.getElem?_cons_succ, List.getElem?_cons_zero]; rfl) (fun K9 hK9 => ?_) AllReadyH.nil
      go_simp
      with_reducible refine (cP2 _ _ _ hl_wC).mono ?_
      rintro e wD ⟨A2, c2, rfl, hQ2, -, bN⟩
      have qm_wD := qm_wC.on bN
      have hl_wD := hl_wC.on bN
      have hP_wD := hP_wC.on bN
      have hQ1_wD := hQ1.on bN
      have B_wD := B_wC.trans (bN.mono B_wC.size)
      clear bN
      go_simp
      clear hHeld
      refine hK9.out _ _ ⟨qm_wD.cell 0, qm_wD.cell 1, qm_wD.cell 2⟩ (fun hHeld => ?_)
      clear hK9 K9
      try simp only [Act.put, List.setIfInBounds_toArray, List.set_cons_zero, List.set_cons_succ]
      refine wpAnyH_ready (rs := [22]) (by kernel_rfl) (by simp) ?_
      refine AllReadyH.cons (by simp only [List.getElem?_toArray, List.getElem?_cons_succ, List.getElem?_cons_zero]; rfl) (fun K9 hK9 => ?_) AllReadyH.nil
      go_simp
      with_reducible refine (cSm _ _ _ _ _ hQ1_wD hQ2).mono ?_
      rintro e wE ⟨rfl, bN⟩
      have qm_wE := qm_wD.on bN
      have hl_wE := hl_wD.on bN
      have hP_wE := hP_wD.on bN
      have B_wE := B_wD.trans (bN.mono B_wD.size)
      clear bN
      go_simp
      clear hHeld
      refine hK9.out _ _ ⟨qm_wE.cell 0, qm_wE.cell 1, qm_wE.cell 2⟩ (fun hHeld => ?_)
      clear hK9 K9
      try simp only [Act.put, List.setIfInBounds_toArray, List.set_cons_zero, List.set_cons_succ]
      refine wpAnyH_take (i := 23) (v := ?_) (by simp only [List.getElem?_toArray, List.getElem?_cons_succ, List.getElem?_cons_zero]; rfl) (by kernel_rfl) (by kernel_rfl) (by kernel_rfl) (by exact fun _ _ _ h => h) (Or.inl ⟨rfl, ?_⟩) (by assumption) ?_
      rotate_left
      · intro wz hSw; (try dsimp only at hSw); go_simp; try with_reducible rfl
      try simp only [Act.put, List.setIfInBounds_toArray, List.set_cons_zero, List.set_cons_succ]
      refine wpAnyH_take (i := 24) (v := ?_) (by simp only [List.getElem?_toArray, List.getElem?_cons_succ, List.getElem?_cons_zero]; rfl) (by kernel_rfl) (by kernel_rfl) (by kernel_rfl) (by exact fun _ _ _ h => h) (Or.inl ⟨rfl, ?_⟩) (by assumption) ?_
      rotate_left
      · intro wz hSw; (try dsimp only at hSw); go_simp; try with_reducible rfl
      try simp only [Act.put, List.setIfInBounds_toArray, List.set_cons_zero, List.set_cons_succ]
      refine wpAnyH_take (i := 25) (v := ?_) (by simp only [List.getElem?_toArray, List.getElem?_cons_succ, List.getElem?_cons_zero]; rfl) (by kernel_rfl) (by kernel_rfl) (by kernel_rfl) (by exact fun _ _ _ h => h) (Or.inl ⟨rfl, ?_⟩) (by assumption) ?_
      rotate_left
      · intro wz hSw; (try dsimp only at hSw); go_simp; try with_reducible rfl
      try simp only [Act.put, List.setIfInBounds_toArray, List.set_cons_zero, List.set_cons_succ]
      refine wpAnyH_take (i := 26) (v := ?_) (by simp only [List.getElem?_toArray, List.getElem?_cons_succ, List.getElem?_cons_zero]; rfl) (by kernel_rfl) (by kernel_rfl) (by kernel_rfl) (by exact fun _ _ _ h => h) (Or.inl ⟨rfl, ?_⟩) (by assumption) ?_
      rotate_left
      · intro wz hSw; (try dsimp only at hSw); go_simp; try with_reducible rfl
      try simp only [Act.put, List.setIfInBounds_toArray, List.set_cons_zero, List.set_cons_succ]
      refine wpAnyH_ready (rs := [27]) (by kernel_rfl) (by simp) ?_
      refine AllReadyH.cons (by simp only [List.getElem?_toArray, List.getElem?_cons_succ, List.getElem?_cons_zero]; rfl) (fun K9 hK9 => ?_) AllReadyH.nil
      go_simp
      with_reducible refine (cRp _ _ _ hP_wE).mono ?_
      rintro e wF ⟨rfl, bN⟩
      have qm_wF := qm_wE.on bN
      have hl_wF := hl_wE.on bN
      have hP_wF := hP_wE.on bN
      have B_wF := B_wE.trans (bN.mono B_wE.size)
      clear bN
      go_simp
      clear hHeld
      refine hK9.out _ _ ⟨qm_wF.cell 0, qm_wF.cell 1, qm_wF.cell 2⟩ (fun hHeld => ?_)
      clear hK9 K9
      try simp only [Act.put, List.setIfInBounds_toArray, List.set_cons_zero, List.set_cons_succ]
      refine wpAnyH_take (i := 28) (v := ?_) (by simp only [List.getElem?_toArray, List.getElem?_cons_succ, List.getElem?_cons_zero]; rfl) (by kernel_rfl) (by kernel_rfl) (by kernel_rfl) (by exact fun _ _ _ h => h) (Or.inl ⟨rfl, ?_⟩) (by assumption) ?_
      rotate_left
      · intro wz hSw; (try dsimp only at hSw); go_simp; try with_reducible rfl
      try simp only [Act.put, List.setIfInBounds_toArray, List.set_cons_zero, List.set_cons_succ]
      refine wpAnyH_take (i := 29) (v := ?_) (by simp only [List.getElem?_toArray, List.getElem?_cons_succ, List.getElem?_cons_zero]; rfl) (by kernel_rfl) (by kernel_rfl) (by kernel_rfl) (by exact fun _ _ _ h => h) (Or.inl ⟨rfl, ?_⟩) (by assumption) ?_
      rotate_left
      · intro wz hSw; (try dsimp only at hSw); go_simp; try with_reducible rfl
      try simp only [Act.put, List.setIfInBounds_toArray, List.set_cons_zero, List.set_cons_succ]
      refine wpAnyH_done (by kernel_rfl) ?_ _
      clear hP_wF cHp cHl cP1 cP2 cSm cRp bD BD qmD hlD hPD f0 f1 f2 qm hl hP hQ1 hQ2
      obtain ⟨f0, f1⟩ : wF.cell? ⟨gM, 0, none⟩ = some (.int .i64 p0) ∧ wF.cell? ⟨gM, 1, none⟩ = some (.int .i64 p1) := ⟨qm_wF.cell 0, qm_wF.cell 1⟩
      go_simp
      go_wp2_with fail
      with_reducible refine (cOf _ _ _ hl_wF).mono ?_
      rintro o wG ⟨Aw, cw, rfl, hW, -, bG⟩
      have qm := qm_wF.on bG
      have hl := hl_wF.on bG
      have B1 := B_wF.trans (bG.mono B_wF.size)
      clear f0 f1 bG qm_wF hl_wF B_wF cOf
      go_wp2_with fail
      go_loopw [16, 17] (fun hv iv wr => ∃ i : Nat, i ≤ Wo.length ∧ iv = .int .i64 i ∧ hv = .bool (decide (p2 ∈ Wo.take i)) ∧ Below wG.heap.size wG wr) (fun _ iv _ => Wo.length - (intOf iv).toNat)
      case atStart => exact ⟨0, Nat.zero_le _, rfl, by simp, Below.refl _ _⟩
      case round =>
        obtain ⟨i, hi, rfl, rfl, hb⟩ := hrel
        have qmr := qm.on hb
        have hlr := hl.on hb
        have hWr := hW.on hb
        by_cases hlt : i < Wo.length
        · have g1 : ((i : Int) < (Wo.length : Int)) = True := eq_true (by omega)
          have g2 : (i < Wo.length) = True := eq_true hlt
          have hmem : (p0, p1, Wo[i]) ∈ L := (HWM.out _).1 (List.getElem_mem hlt)
          have HC : ∀ p : Later wr, Calls Try.prog 15 #[.slice Al L.length cl, .agg #[.int .i64 p0, .int .i64 p1, .int .i64 Wo[i]]] p.W fun e w_ => e = .returned (.bool true) ∧ ∃ p : Later wr, w_ = p.W := fun p => later_of (by have := cHw _ _ Wo[i] p.W (hlr.on p.h); rwa [HHL.out _ hmem] at this)
          have HIN := Lib.hid (show decide (p2 ∈ Wo.take (i + 1)) = (decide (p2 ∈ Wo.take i) || (Wo[i] == p2)) by
            rw [List.take_succ_eq_append_getElem hlt]
            rw [Bool.eq_iff_iff]
            simp only [List.mem_append, List.mem_singleton, Bool.or_eq_true, decide_eq_true_eq, beq_iff_eq]
            constructor
            · rintro (h | h)
              · exact .inl h
              · exact .inr h.symm
            · rintro (h | h)
              · exact .inl h
              · exact .inr h.symm)
          have hcl : ∀ p : Later wr, Ints p.W p.W.heap.size (.slice Aw Wo.length cw) Wo := fun p => hWr.on p.h
          obtain ⟨ad, rfl, _, e0⟩ := hWr.at_ hlt
          have z0 : ∀ p : Later wr, p.W.cell? (ad.add i) = some (.int .i64 Wo[i]) := fun p => by obtain ⟨_, e, _, h1⟩ := (hcl p).at_ hlt; cases e; exact h1
          have y0 : ∀ p : Later wr, p.W.cell? ⟨gM, 0, none⟩ = some (.int .i64 p0) := fun p => ((qmr.on p.h).cell 0).trans rfl
          have y1 : ∀ p : Later wr, p.W.cell? ⟨gM, 1, none⟩ = some (.int .i64 p1) := fun p => ((qmr.on p.h).cell 1).trans rfl
          have hz := hb.size
          by_cases hi0 : 0 < i
          · obtain ⟨j, hj⟩ : ∃ j, j + 1 = i := ⟨i - 1, by omega⟩
            have hjl : j < Wo.length := by omega
            have ej : (i : Int) - 1 = (j : Int) := by omega
            have gz : ((0 : Int) < (i : Int)) = True := eq_true (by omega)
            have gz2 : (0 < i) = True := eq_true hi0
            have hlt2 : Wo[j] < Wo[i] := (List.pairwise_iff_getElem.1 HWS.out) j i hjl hlt (by omega)
            have gs : (Wo[i] ≤ Wo[j]) = False := eq_false (by omega)
            have z1 : ∀ p : Later wr, p.W.cell? (ad.add j) = some (.int .i64 Wo[j]) := fun p => by obtain ⟨_, e, _, h1⟩ := (hcl p).at_ hjl; cases e; exact h1
            clear hlt2 hmem e0 hj
            obtain ⟨wi, hwi⟩ : ∃ x, Wo[i] = x := ⟨_, rfl⟩
            rw [hwi] at gs z0 HC HIN
            have HWI := Lib.hid hwi
            clear hwi
            generalize Wo[j] = wj at *
            go_upto_region 14 with (fail)
            refine wp_region_later (by kernel_rfl) (by kernel_rfl) ?_
            repeat (go_big_quiet_step (first | (go_at_call 15; exact HC _)))
            refine wpQuiet_nil ?_
            intro _ hw'
            obtain ⟨pq, rfl⟩ := hw'
            have hbn : Below wG.heap.size wG pq.W := hb.trans (pq.h.mono hz)
            have qmn := qmr.on pq.h
            have hWn := hcl pq
            clear z0 z1 y0 y1 HC hcl
            generalize pq.W = wI at *
            have hcn : ∀ p : Later wI, Ints p.W p.W.heap.size (.slice (some ad) Wo.length cw) Wo := fun p => hWn.on p.h
            have z0 : ∀ p : Later wI, p.W.cell? (ad.add i) = some (.int .i64 wi) := fun p => by obtain ⟨_, e, _, h1⟩ := (hcn p).at_ hlt; cases e; exact h1.trans (by rw [HWI.out])
            have y2 : ∀ p : Later wI, p.W.cell? ⟨gM, 2, none⟩ = some (.int .i64 p2) := fun p => ((qmn.on p.h).cell 2).trans rfl
            have hIN := HIN.out
            generalize decide (p2 ∈ Wo.take i) = hs at *
            have HIN2 := Lib.hid hIN
            clear hIN hWn hcn HIN
            cases hs
            · by_cases hq : wi = p2
              · subst hq
                go_upto_region 16 with (fail)
                refine wp_region_later (by kernel_rfl) (by kernel_rfl) ?_
                repeat (go_big_quiet_step (fail))
                refine wpQuiet_nil ?_
                intro _ hw'
                obtain ⟨pr, rfl⟩ := hw'
                go_wp2_with fail
                go_roundw
                case rel => exact ⟨i + 1, by omega, by go_num, by rw [HIN2.out]; simp, hbn.trans (pr.h.mono hbn.size)⟩
                case measure => simp [intOf]; omega
              · have gq : (wi == p2) = false := by simpa using hq
                have HG := Lib.hid gq
                have gq2 : (wi = p2) = False := eq_false hq
                clear hq
                go_upto_region 16 with (fail)
                refine wp_region_later (by kernel_rfl) (by kernel_rfl) ?_
                repeat (go_big_quiet_step (fail))
                refine wpQuiet_nil ?_
                intro _ hw'
                obtain ⟨pr, rfl⟩ := hw'
                go_wp2_with fail
                go_roundw
                case rel => exact ⟨i + 1, by omega, by go_num, by rw [HIN2.out, HG.out]; rfl, hbn.trans (pr.h.mono hbn.size)⟩
                case measure => simp [intOf]; omega
            · go_upto_region 16 with (fail)
              refine wp_region_later (by kernel_rfl) (by kernel_rfl) ?_
              repeat (go_big_quiet_step (fail))
              refine wpQuiet_nil ?_
              intro _ hw'
              obtain ⟨pr, rfl⟩ := hw'
              go_wp2_with fail
              go_roundw
              case rel => exact ⟨i + 1, by omega, by go_num, by rw [HIN2.out]; simp, hbn.trans (pr.h.mono hbn.size)⟩
              case measure => simp [intOf]; omega
          · have gz : ((0 : Int) < (i : Int)) = False := eq_false (by omega)
            have gz2 : (0 < i) = False := eq_false hi0
            clear hmem e0
            obtain ⟨wi, hwi⟩ : ∃ x, Wo[i] = x := ⟨_, rfl⟩
            rw [hwi] at z0 HC HIN
            have HWI := Lib.hid hwi
            clear hwi
            go_upto_region 14 with (fail)
            refine wp_region_later (by kernel_rfl) (by kernel_rfl) ?_
            repeat (go_big_quiet_step (first | (go_at_call 15; exact HC _)))
            refine wpQuiet_nil ?_
            intro _ hw'
            obtain ⟨pq, rfl⟩ := hw'
            have hbn : Below wG.heap.size wG pq.W := hb.trans (pq.h.mono hz)
            have qmn := qmr.on pq.h
            have hWn := hcl pq
            clear z0 y0 y1 HC hcl
            generalize pq.W = wI at *
            have hcn : ∀ p : Later wI, Ints p.W p.W.heap.size (.slice (some ad) Wo.length cw) Wo := fun p => hWn.on p.h
            have z0 : ∀ p : Later wI, p.W.cell? (ad.add i) = some (.int .i64 wi) := fun p => by obtain ⟨_, e, _, h1⟩ := (hcn p).at_ hlt; cases e; exact h1.trans (by rw [HWI.out])
            have y2 : ∀ p : Later wI, p.W.cell? ⟨gM, 2, none⟩ = some (.int .i64 p2) := fun p => ((qmn.on p.h).cell 2).trans rfl
            have hIN := HIN.out
            generalize decide (p2 ∈ Wo.take i) = hs at *
            have HIN2 := Lib.hid hIN
            clear hIN hWn hcn HIN
            cases hs
            · by_cases hq : wi = p2
              · subst hq
                go_upto_region 16 with (fail)
                refine wp_region_later (by kernel_rfl) (by kernel_rfl) ?_
                repeat (go_big_quiet_step (fail))
                refine wpQuiet_nil ?_
                intro _ hw'
                obtain ⟨pr, rfl⟩ := hw'
                go_wp2_with fail
                go_roundw
                case rel => exact ⟨i + 1, by omega, by go_num, by rw [HIN2.out]; simp, hbn.trans (pr.h.mono hbn.size)⟩
                case measure => simp [intOf]; omega
              · have gq : (wi == p2) = false := by simpa using hq
                have HG := Lib.hid gq
                have gq2 : (wi = p2) = False := eq_false hq
                clear hq
                go_upto_region 16 with (fail)
                refine wp_region_later (by kernel_rfl) (by kernel_rfl) ?_
                repeat (go_big_quiet_step (fail))
                refine wpQuiet_nil ?_
                intro _ hw'
                obtain ⟨pr, rfl⟩ := hw'
                go_wp2_with fail
                go_roundw
                case rel => exact ⟨i + 1, by omega, by go_num, by rw [HIN2.out, HG.out]; rfl, hbn.trans (pr.h.mono hbn.size)⟩
                case measure => simp [intOf]; omega
            · go_upto_region 16 with (fail)
              refine wp_region_later (by kernel_rfl) (by kernel_rfl) ?_
              repeat (go_big_quiet_step (fail))
              refine wpQuiet_nil ?_
              intro _ hw'
              obtain ⟨pr, rfl⟩ := hw'
              go_wp2_with fail
              go_roundw
              case rel => exact ⟨i + 1, by omega, by go_num, by rw [HIN2.out]; simp, hbn.trans (pr.h.mono hbn.size)⟩
              case measure => simp [intOf]; omega
        · obtain rfl : i = Wo.length := by omega
          have g1 : ((Wo.length : Int) < (Wo.length : Int)) = False := eq_false (by omega)
          rw [List.take_length]
          have cHl2 := fun B C W (h : Mks W W.heap.size (.slice B L.length C) L) => cHw B C p2 W h
          rw [show hasMB L (p0, p1, p2) = decide (p2 ∈ Wo) from HB2.out] at cHl2
          generalize decide (p2 ∈ Wo) = bw at *
          obtain ⟨f0, f1, f2⟩ : wr.cell? ⟨gM, 0, none⟩ = some (.int .i64 p0) ∧ wr.cell? ⟨gM, 1, none⟩ = some (.int .i64 p1) ∧ wr.cell? ⟨gM, 2, none⟩ = some (.int .i64 p2) := ⟨qmr.cell 0, qmr.cell 1, qmr.cell 2⟩
          go_wp2_with fail
          with_reducible refine (cHl2 _ _ _ hlr).mono ?_
          rintro o wH ⟨rfl, bH⟩
          have eb : (bw == bw) = true := by simp
          go_wp2_with fail
          go_ret
          exact ⟨by simp, B1.trans ((hb.trans (bH.mono hb.size)).mono B1.size)⟩
end Go.Proofs.Ytcamhaeelkjigaa
