/- The walk of SeenFull. -/
import Derived.Test.YtcamhaeelkjigaaSenH
import Derived.Deep.RegionHeld3
namespace Go.Proofs.Ytcamhaeelkjigaa
open Go.RowKit Go.Lib

set_option maxHeartbeats 4000000 in
set_option maxRecDepth 100000 in
theorem sfull_walk (v : Value) (rs : List Mk) (k0 k1 k2 rm : Int) (w : World) (hv : Mks w w.heap.size v rs) (h9 : rs.length ≤ maxLen) (hraw : ∀ r ∈ rs, RawM r) (hk : RawM (k0, k1, k2)) (hrm : I64M rm) :
    Calls Try.prog 7 #[v, .agg #[.int .i64 k0, .int .i64 k1, .int .i64 k2], .int .i64 rm] w fun o w' => o = .returned (.bool true) ∧ Below w.heap.size w w' := by
  obtain ⟨A, c, rfl, hc⟩ := hv.form
  obtain ⟨L, hL⟩ : ∃ L, marksM rs = L := ⟨_, rfl⟩
  have hLr : RightM L := by rw [← hL]; exact marksM_right rs
  have hLl : L.length ≤ 40 := by rw [← hL]; exact marksM_len rs
  obtain ⟨p0, p1, p2, hp⟩ : ∃ p0 p1 p2, markOf (k0, k1, k2) = (p0, p1, p2) := ⟨_, _, _, rfl⟩
  have hfew := markOf_few (k0, k1, k2)
  rw [hp] at hfew
  obtain ⟨x, hx⟩ : ∃ x, pickM rm 5 = x := ⟨_, rfl⟩
  have hxb := pickM_bd rm 5 (by decide)
  rw [hx] at hxb
  have cMs := fun W (h : Mks W W.heap.size (.slice A rs.length c) rs) => Marks_any _ rs W h h9 hraw L hL
  have cMk := fun W => Mark_any k0 k1 k2 p0 p1 p2 W hk hp
  have cPk := fun W => pickM_same hx hrm (by decide) (by decide) W
  clear hL hp hx
  have hmay := hfew.may
  obtain ⟨R1, E1, h1⟩ : ∃ R E, addR L ((L.length : Int) - x) (p0, p1, p2) = (R, E) := ⟨_, _, rfl⟩
  obtain ⟨R2, E2, h2⟩ : ∃ R E, addR L ((L.length : Int) + 1 + x) (p0, p1, p2) = (R, E) := ⟨_, _, rfl⟩
  obtain ⟨hb, hh⟩ : ∃ b, hasMB L (p0, p1, p2) = b := ⟨_, rfl⟩
  have HH := Lib.hid (show (hb = true ∧ R1 = [] ∧ E1 = 7 ∧ R2 = [] ∧ E2 = 7) ∨ (hb = false ∧ R1 = [] ∧ E1 = 5 ∧ R2.length = L.length + 1 ∧ E2 = 0) by
    by_cases hin : (p0, p1, p2) ∈ L
    · rw [addR_in hLr hmay hin] at h1 h2
      rw [hasM_yes (decide_eq_true hLr) hin] at hh
      obtain ⟨rfl, rfl⟩ := Prod.mk.inj h1
      obtain ⟨rfl, rfl⟩ := Prod.mk.inj h2
      exact .inl ⟨hh.symm, rfl, rfl, rfl, rfl⟩
    · rw [addR_full (decide_eq_true hLr) hmay hin (by omega)] at h1
      rw [addR_ok (decide_eq_true hLr) hmay hin (by omega)] at h2
      rw [hasM_no hin] at hh
      obtain ⟨rfl, rfl⟩ := Prod.mk.inj h1
      obtain ⟨rfl, rfl⟩ := Prod.mk.inj h2
      exact .inr ⟨hh.symm, rfl, rfl, len_ins _ _, rfl⟩)
  have cA1 := fun B C W (h : Mks W W.heap.size (.slice B L.length C) L) => sAdd_any _ L ((L.length : Int) - x) p0 p1 p2 W h (by omega) (by omega) R1 E1 h1
  have cA2 := fun B C W (h : Mks W W.heap.size (.slice B L.length C) L) => sAdd_any _ L ((L.length : Int) + 1 + x) p0 p1 p2 W h (by omega) (by omega) R2 E2 h2
  have cHs := fun B C W (h : Mks W W.heap.size (.slice B L.length C) L) => sHas_any _ L p0 p1 p2 W h (by omega)
  rw [hh] at cHs
  have e1 : IntKind.i64.wrap ((L.length : Int) - x) = (L.length : Int) - x := IntWalk.i64_in _ (by omega)
  have e2 : IntKind.i64.wrap ((L.length : Int) + 1) = (L.length : Int) + 1 := IntWalk.i64_in _ (by omega)
  have e3 : IntKind.i64.wrap ((L.length : Int) + 1 + x) = (L.length : Int) + 1 + x := IntWalk.i64_in _ (by omega)
  clear h1 h2 hh hLr
  have B0 := Below.refl w.heap.size w
  go_enter Try.func7, Try.ntmps7
  go_upto_region 1 with (fail)
  have q4 := RowAt.new w 26 #[.int .i64 k0, .int .i64 k1, .int .i64 k2]
  have bN := (Below.refl w.heap.size w).alloc (Nat.le_refl _) (.cells #[.int .i64 k0, .int .i64 k1, .int .i64 k2] 26)
  replace hv := hv.on bN
  replace B0 := B0.trans (bN.mono B0.size)
  clear bN
  generalize w.alloc (.cells #[.int .i64 k0, .int .i64 k1, .int .i64 k2] 26) = v1_ at *
  obtain ⟨g4, hg9⟩ : ∃ g4, g4 = w.heap.size := ⟨_, rfl⟩
  rw [← hg9] at q4  ⊢
  clear hg9
  go_wp2_with fail
  with_reducible refine (awake13_any _).mono ?_
  rintro o v2_ ⟨rfl, bN⟩
  replace q4 := q4.on bN
  replace hv := hv.on bN
  replace B0 := B0.trans (bN.mono B0.size)
  clear bN
  go_wp2_with fail
  with_reducible refine (cMs _ hv).mono ?_
  rintro o v3_ ⟨Al, cl, rfl, hl, bN⟩
  replace q4 := q4.on bN
  replace hv := hv.on bN
  replace B0 := B0.trans (bN.mono B0.size)
  clear bN
  clear hv cMs
  have q4_ := q4.cell
  have q4_0 := q4_ 0
  have q4_1 := q4_ 1
  have q4_2 := q4_ 2
  simp only [List.getElem?_cons_zero, List.getElem?_cons_succ] at q4_0 q4_1 q4_2
  clear q4_
  go_wp2_with fail
  with_reducible refine (cMk _).mono ?_
  rintro o v4_ ⟨rfl, bN⟩
  clear q4_0 q4_1 q4_2
  replace q4 := q4.on bN
  replace hl := hl.on bN
  replace B0 := B0.trans (bN.mono B0.size)
  clear bN
  clear q4 cMk
  go_upto_region 4 with (fail)
  have qm := RowAt.new v4_ 25 #[.int .i64 p0, .int .i64 p1, .int .i64 p2]
  have bN := (Below.refl v4_.heap.size v4_).alloc (Nat.le_refl _) (.cells #[.int .i64 p0, .int .i64 p1, .int .i64 p2] 25)
  replace hl := hl.on bN
  replace B0 := B0.trans (bN.mono B0.size)
  clear bN
  generalize v4_.alloc (.cells #[.int .i64 p0, .int .i64 p1, .int .i64 p2] 25) = v5_ at *
  obtain ⟨gM, hg9⟩ : ∃ gM, gM = v4_.heap.size := ⟨_, rfl⟩
  rw [← hg9] at qm  ⊢
  clear hg9
  obtain ⟨f0, f1, f2⟩ : v5_.cell? ⟨gM, 0, none⟩ = some (.int .i64 p0) ∧ v5_.cell? ⟨gM, 1, none⟩ = some (.int .i64 p1) ∧ v5_.cell? ⟨gM, 2, none⟩ = some (.int .i64 p2) := ⟨qm.cell 0, qm.cell 1, qm.cell 2⟩
  have bD := (Below.refl v5_.heap.size v5_).drew
  have hlD := hl.on bD
  go_region_held3 (fun w' => w'.cell? ⟨gM, 0, none⟩ = some (.int .i64 p0) ∧ w'.cell? ⟨gM, 1, none⟩ = some (.int .i64 p1) ∧ w'.cell? ⟨gM, 2, none⟩ = some (.int .i64 p2))
    (first | with_reducible exact ⟨f0, f1, f2⟩ | exact ⟨qX.cell 0, qX.cell 1, qX.cell 2⟩ | go_keep)
    (first
      | (with_reducible refine (cPk _).mono ?_; rintro e w_ ⟨rfl, rfl⟩)
      | (with_reducible refine (cA1 _ _ _ hlD).mono ?_; rintro e wA ⟨A1, c1, rfl, -, -, bN⟩; have qX : RowAt wA gM 25 [.int .i64 p0, .int .i64 p1, .int .i64 p2] := qm.on (bD.trans (bN.mono bD.size))))
  have bN' : Below v5_.heap.size v5_ wA := bD.trans (bN.mono bD.size)
  clear bN qX f0 f1 f2 bD hlD
  replace qm := qm.on bN'
  replace hl := hl.on bN'
  replace B0 := B0.trans (bN'.mono B0.size)
  clear bN'
  go_simp
  obtain ⟨v6_, hw9⟩ : ∃ x, x = wA := ⟨_, rfl⟩
  subst hw9
  obtain ⟨f0, f1, f2⟩ : v6_.cell? ⟨gM, 0, none⟩ = some (.int .i64 p0) ∧ v6_.cell? ⟨gM, 1, none⟩ = some (.int .i64 p1) ∧ v6_.cell? ⟨gM, 2, none⟩ = some (.int .i64 p2) := ⟨qm.cell 0, qm.cell 1, qm.cell 2⟩
  have bD := (Below.refl v6_.heap.size v6_).drew
  have hlD := hl.on bD
  go_upto_region 5 with (fail)
  go_region_held3 (fun w' => w'.cell? ⟨gM, 0, none⟩ = some (.int .i64 p0) ∧ w'.cell? ⟨gM, 1, none⟩ = some (.int .i64 p1) ∧ w'.cell? ⟨gM, 2, none⟩ = some (.int .i64 p2))
    (first | with_reducible exact ⟨f0, f1, f2⟩ | exact ⟨qX.cell 0, qX.cell 1, qX.cell 2⟩ | go_keep)
    (first
      | (with_reducible refine (cPk _).mono ?_; rintro e w_ ⟨rfl, rfl⟩)
      | (with_reducible refine (cA2 _ _ _ hlD).mono ?_; rintro e wA ⟨A2, c2, rfl, -, -, bN⟩; have qX : RowAt wA gM 25 [.int .i64 p0, .int .i64 p1, .int .i64 p2] := qm.on (bD.trans (bN.mono bD.size))))
  have bN' : Below v6_.heap.size v6_ wA := bD.trans (bN.mono bD.size)
  clear bN qX f0 f1 f2 bD hlD
  replace qm := qm.on bN'
  replace hl := hl.on bN'
  replace B0 := B0.trans (bN'.mono B0.size)
  clear bN'
  go_simp
  obtain ⟨v7_, hw9⟩ : ∃ x, x = wA := ⟨_, rfl⟩
  subst hw9
  clear cPk cA1 cA2 e1 e2 e3
  have qm_ := qm.cell
  have qm_0 := qm_ 0
  have qm_1 := qm_ 1
  have qm_2 := qm_ 2
  simp only [List.getElem?_cons_zero, List.getElem?_cons_succ] at qm_0 qm_1 qm_2
  clear qm_
  go_wp2_with fail
  with_reducible refine (cHs _ _ _ hl).mono ?_
  rintro o v8_ ⟨rfl, bN⟩
  clear qm_0 qm_1 qm_2
  replace qm := qm.on bN
  replace hl := hl.on bN
  replace B0 := B0.trans (bN.mono B0.size)
  clear bN
  obtain ⟨rfl, rfl, rfl, rfl, rfl⟩ | ⟨rfl, rfl, rfl, hR2, rfl⟩ := HH.out
  · go_wp2_with fail
    go_ret
    exact ⟨rfl, B0⟩
  · have e4 : ((R2.length : Int) = (L.length : Int) + 1) = True := eq_true (by omega)
    have e5 : IntKind.i64.wrap ((L.length : Int) + 1) = (L.length : Int) + 1 := IntWalk.i64_in _ (by omega)
    have e6 : ((R2.length : Int) == (L.length : Int) + 1) = true := by rw [beq_iff_eq]; omega
    clear hR2
    go_wp2_with fail
    go_ret
    exact ⟨rfl, B0⟩
end Go.Proofs.Ytcamhaeelkjigaa
