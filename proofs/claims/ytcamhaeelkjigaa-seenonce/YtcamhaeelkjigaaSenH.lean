/- Layer 13: awake. -/
import Derived.Test.YtcamhaeelkjigaaSenG
import Derived.Test.YtcamhaeelkjigaaSenQ
import Derived.Test.YtcamhaeelkjigaaRegV
namespace Go.Proofs.Ytcamhaeelkjigaa
open Go.RowKit Go.Lib

theorem aw13_add (B : Option Addr) (C : Nat) (W : World) (h : Mks W W.heap.size (.slice B 2 C) [(2, 1, 4), (3, 0, 0)]) :
    Calls Try.prog 12 #[.slice B 2 C, .int .i64 3, .agg #[.int .i64 2, .int .i64 1, .int .i64 5]] W fun o w' => ∃ A c, o = .returned (.tuple #[.slice A 3 c, .int .i64 0]) ∧ Mks w' w'.heap.size (.slice A 3 c) [(2, 1, 4), (2, 1, 5), (3, 0, 0)] ∧ Below W.heap.size W w' :=
  (sAdd_any _ [(2, 1, 4), (3, 0, 0)] 3 2 1 5 W h (by decide) (by decide) [(2, 1, 4), (2, 1, 5), (3, 0, 0)] 0 (by decide)).mono fun _ _ ⟨A, c, h1, h2, _, h3⟩ => ⟨A, c, h1, h2, h3⟩
theorem aw13_twice (B : Option Addr) (C : Nat) (W : World) (h : Mks W W.heap.size (.slice B 3 C) [(2, 1, 4), (2, 1, 5), (3, 0, 0)]) :
    Calls Try.prog 12 #[.slice B 3 C, .int .i64 9, .agg #[.int .i64 2, .int .i64 1, .int .i64 5]] W fun o w' => ∃ A c, o = .returned (.tuple #[.slice A 0 c, .int .i64 7]) ∧ Below W.heap.size W w' :=
  (sAdd_any _ [(2, 1, 4), (2, 1, 5), (3, 0, 0)] 9 2 1 5 W h (by decide) (by decide) [] 7 (by decide)).mono fun _ _ ⟨A, c, h1, _, _, h3⟩ => ⟨A, c, h1, h3⟩
theorem aw13_full (B : Option Addr) (C : Nat) (W : World) (h : Mks W W.heap.size (.slice B 3 C) [(2, 1, 4), (2, 1, 5), (3, 0, 0)]) :
    Calls Try.prog 12 #[.slice B 3 C, .int .i64 3, .agg #[.int .i64 0, .int .i64 0, .int .i64 0]] W fun o w' => ∃ A c, o = .returned (.tuple #[.slice A 0 c, .int .i64 5]) ∧ Below W.heap.size W w' :=
  (sAdd_any _ [(2, 1, 4), (2, 1, 5), (3, 0, 0)] 3 0 0 0 W h (by decide) (by decide) [] 5 (by decide)).mono fun _ _ ⟨A, c, h1, _, _, h3⟩ => ⟨A, c, h1, h3⟩
theorem aw13_arg (W : World) :
    Calls Try.prog 12 #[.slice none 0 0, .int .i64 3, .agg #[.int .i64 0, .int .i64 0, .int .i64 (-1)]] W fun o w' => ∃ A c, o = .returned (.tuple #[.slice A 0 c, .int .i64 1]) ∧ Below W.heap.size W w' :=
  (sAdd_any _ [] 3 0 0 (-1) W (Mks.nil _ _) (by decide) (by decide) [] 1 (by decide)).mono fun _ _ ⟨A, c, h1, _, _, h3⟩ => ⟨A, c, h1, h3⟩
theorem aw13_same (B B' : Option Addr) (n C C' : Nat) (l : List Mk) (W : World) (hn : l.length = n) (h9 : l.length ≤ 100) (h : Mks W W.heap.size (.slice B n C) l) (h' : Mks W W.heap.size (.slice B' n C') l) :
    Calls Try.prog 14 #[.slice B n C, .slice B' n C'] W fun o w' => o = .returned (.bool true) ∧ Below W.heap.size W w' := by
  have := rSameM_any _ _ l l W h h' (by unfold maxLen; omega) (by unfold maxLen; omega)
  rwa [show decide (l = l) = true from decide_eq_true rfl] at this
theorem aw13_has (B : Option Addr) (C : Nat) (W : World) (h : Mks W W.heap.size (.slice B 3 C) [(2, 1, 4), (2, 1, 5), (3, 0, 0)]) :
    Calls Try.prog 15 #[.slice B 3 C, .agg #[.int .i64 2, .int .i64 1, .int .i64 5]] W fun o w' => o = .returned (.bool true) ∧ Below W.heap.size W w' := sHas_any _ [(2, 1, 4), (2, 1, 5), (3, 0, 0)] 2 1 5 W h (by decide)
theorem aw13_hasnot (B : Option Addr) (C : Nat) (W : World) (h : Mks W W.heap.size (.slice B 2 C) [(2, 1, 4), (3, 0, 0)]) :
    Calls Try.prog 15 #[.slice B 2 C, .agg #[.int .i64 2, .int .i64 1, .int .i64 5]] W fun o w' => o = .returned (.bool false) ∧ Below W.heap.size W w' := sHas_any _ [(2, 1, 4), (3, 0, 0)] 2 1 5 W h (by decide)
theorem aw13_right (B : Option Addr) (C : Nat) (W : World) (h : Mks W W.heap.size (.slice B 2 C) [(2, 1, 4), (3, 0, 0)]) :
    Calls Try.prog 22 #[.slice B 2 C] W fun o w' => o = .returned (.bool true) ∧ Below W.heap.size W w' := sRight_any _ [(2, 1, 4), (3, 0, 0)] W h (by decide)
theorem aw13_prune (B : Option Addr) (C : Nat) (W : World) (h : Mks W W.heap.size (.slice B 3 C) [(2, 1, 4), (2, 1, 5), (3, 0, 0)]) :
    Calls Try.prog 17 #[.slice B 3 C, .int .i64 3] W fun o w' => ∃ A c, o = .returned (.slice A 1 c) ∧ Mks w' w'.heap.size (.slice A 1 c) [(3, 0, 0)] ∧ Below W.heap.size W w' :=
  (sPrune_any _ [(2, 1, 4), (2, 1, 5), (3, 0, 0)] 3 W h (by decide) [(3, 0, 0)] (by decide)).mono fun _ _ ⟨A, c, h1, h2, _, h3⟩ => ⟨A, c, h1, h2, h3⟩
theorem aw13_of (B : Option Addr) (C : Nat) (W : World) (h : Mks W W.heap.size (.slice B 3 C) [(2, 1, 4), (2, 1, 5), (3, 0, 0)]) :
    Calls Try.prog 20 #[.slice B 3 C, .int .i64 2, .int .i64 1] W fun o w' => ∃ A c, o = .returned (.slice A 2 c) ∧ Ints w' w'.heap.size (.slice A 2 c) [4, 5] ∧ Below W.heap.size W w' :=
  (sOf_any _ [(2, 1, 4), (2, 1, 5), (3, 0, 0)] 2 1 W h (by decide) [4, 5] (by decide)).mono fun _ _ ⟨A, c, h1, h2, _, h3⟩ => ⟨A, c, h1, h2, h3⟩
theorem aw13_ints (B B' : Option Addr) (n C C' : Nat) (l : List Int) (W : World) (hn : l.length = n) (h9 : l.length ≤ 100) (h : Ints W W.heap.size (.slice B n C) l) (h' : Ints W W.heap.size (.slice B' n C') l) :
    Calls Try.prog 19 #[.slice B n C, .slice B' n C'] W fun o w' => o = .returned (.bool true) ∧ Below W.heap.size W w' := IntsM_same _ _ l W h h' (by omega)
set_option maxHeartbeats 8000000 in
set_option maxRecDepth 100000 in
theorem awake13_any (w : World) :
    Calls Try.prog 8 #[] w fun e w' => e = .returned (.bool true) ∧ Below w.heap.size w w' := by
  have B0 := Below.refl w.heap.size w
  go_enter Try.func8, Try.ntmps8
  go_upto_region 2 with (fail)
  have ql := RowAt.new w 25 #[.int .i64 2, .int .i64 1, .int .i64 4, .int .i64 3, .int .i64 0, .int .i64 0]
  have bN := (Below.refl w.heap.size w).alloc (Nat.le_refl _) (.cells #[.int .i64 2, .int .i64 1, .int .i64 4, .int .i64 3, .int .i64 0, .int .i64 0] 25)
  replace B0 := B0.trans (bN.mono B0.size)
  clear bN
  generalize w.alloc (.cells #[.int .i64 2, .int .i64 1, .int .i64 4, .int .i64 3, .int .i64 0, .int .i64 0] 25) = v1_ at *
  obtain ⟨gL, hg9⟩ : ∃ gL, gL = w.heap.size := ⟨_, rfl⟩
  rw [← hg9] at ql  ⊢
  clear hg9
  go_upto_region 3 with (fail)
  have qm := RowAt.new v1_ 25 #[.int .i64 2, .int .i64 1, .int .i64 5]
  have bN := (Below.refl v1_.heap.size v1_).alloc (Nat.le_refl _) (.cells #[.int .i64 2, .int .i64 1, .int .i64 5] 25)
  replace ql := ql.on bN
  replace B0 := B0.trans (bN.mono B0.size)
  clear bN
  generalize v1_.alloc (.cells #[.int .i64 2, .int .i64 1, .int .i64 5] 25) = v2_ at *
  obtain ⟨gM, hg9⟩ : ∃ gM, gM = v1_.heap.size := ⟨_, rfl⟩
  rw [← hg9] at qm  ⊢
  clear hg9
  have hl : Mks v2_ v2_.heap.size (.slice (some ⟨gL, 0, none⟩) 2 2) [(2, 1, 4), (3, 0, 0)] := Mks.row (l := [(2, 1, 4), (3, 0, 0)]) ql
  have qm_ := qm.cell
  have qm_0 := qm_ 0
  have qm_1 := qm_ 1
  have qm_2 := qm_ 2
  simp only [List.getElem?_cons_zero, List.getElem?_cons_succ] at qm_0 qm_1 qm_2
  clear qm_
  go_wp2_with fail
  with_reducible refine (aw13_add _ _ _ hl).mono ?_
  rintro o v3_ ⟨Aa, ca, rfl, ha, bN⟩
  clear qm_0 qm_1 qm_2
  replace ql := ql.on bN
  replace qm := qm.on bN
  replace hl := hl.on bN
  replace B0 := B0.trans (bN.mono B0.size)
  clear bN
  have qm_ := qm.cell
  have qm_0 := qm_ 0
  have qm_1 := qm_ 1
  have qm_2 := qm_ 2
  simp only [List.getElem?_cons_zero, List.getElem?_cons_succ] at qm_0 qm_1 qm_2
  clear qm_
  go_wp2_with fail
  with_reducible refine (aw13_twice _ _ _ ha).mono ?_
  rintro o v4_ ⟨A2, c2, rfl, bN⟩
  clear qm_0 qm_1 qm_2
  replace ql := ql.on bN
  replace qm := qm.on bN
  replace hl := hl.on bN
  replace ha := ha.on bN
  replace B0 := B0.trans (bN.mono B0.size)
  clear bN
  go_wp2_with fail
  with_reducible refine (aw13_full _ _ _ ha).mono ?_
  rintro o v5_ ⟨A3, c3, rfl, bN⟩
  replace ql := ql.on bN
  replace qm := qm.on bN
  replace hl := hl.on bN
  replace ha := ha.on bN
  replace B0 := B0.trans (bN.mono B0.size)
  clear bN
  go_wp2_with fail
  with_reducible refine (aw13_arg _).mono ?_
  rintro o v6_ ⟨A4, c4, rfl, bN⟩
  replace ql := ql.on bN
  replace qm := qm.on bN
  replace hl := hl.on bN
  replace ha := ha.on bN
  replace B0 := B0.trans (bN.mono B0.size)
  clear bN
  have bD := (Below.refl v6_.heap.size v6_).drew
  have qlD := ql.on bD
  have qmD := qm.on bD
  have hlD := hl.on bD
  have haD := ha.on bD
  have BD := B0.trans (bD.mono B0.size)
  go_upto_region 7 with (fail)
  refine held_start (S := (fun W => W.cell? ⟨gM, 0, none⟩ = some (.int .i64 2) ∧ W.cell? ⟨gM, 1, none⟩ = some (.int .i64 1) ∧ W.cell? ⟨gM, 2, none⟩ = some (.int .i64 5) ∧ W.cell? ⟨gL, 0, none⟩ = some (.int .i64 2) ∧ W.cell? ⟨gL, 1, none⟩ = some (.int .i64 1) ∧ W.cell? ⟨gL, 2, none⟩ = some (.int .i64 4) ∧ W.cell? ⟨gL, 3, none⟩ = some (.int .i64 3) ∧ W.cell? ⟨gL, 4, none⟩ = some (.int .i64 0) ∧ W.cell? ⟨gL, 5, none⟩ = some (.int .i64 0))) 57 #[false, false, false, false, false, false, false, false, false, false, false, false, false, false, false, false, false, false, false, false, false, false, false, false, false, false, false, false, false, false, false, false, false, false, false, false, false, false, false, false, false, false, false, false, false, false, false, false, false, false, false, false, false, false, false, false, false] (by kernel_rfl) (by kernel_rfl) (by kernel_rfl) ⟨qmD.cell 0, qmD.cell 1, qmD.cell 2, qlD.cell 0, qlD.cell 1, qlD.cell 2, qlD.cell 3, qlD.cell 4, qlD.cell 5⟩ (fun hHeld => ?_)
  generalize v6_.drew = wD at *
  refine wpAnyH_take (i := 0) (v := ?_) (by simp only [List.getElem?_toArray, List.getElem?_cons_zero]; rfl) (by kernel_rfl) (by kernel_rfl) (by kernel_rfl) (by exact fun _ _ _ h => h) (Or.inl ⟨rfl, ?_⟩) (by assumption) ?_
  rotate_left
  · intro wz hSw; (try dsimp only at hSw); go_simp; try with_reducible rfl
  try simp only [Act.put, List.setIfInBounds_toArray, List.set_cons_zero, List.set_cons_succ]
  refine wpAnyH_take (i := 1) (v := ?_) (by simp only [List.getElem?_toArray, List.getElem?_cons_succ, List.getElem?_cons_zero]; rfl) (by kernel_rfl) (by kernel_rfl) (by kernel_rfl) (by exact fun _ _ _ h => h) (Or.inl ⟨rfl, ?_⟩) (by assumption) ?_
  rotate_left
  · intro wz hSw; (try dsimp only at hSw); go_simp; try with_reducible rfl
  try simp only [Act.put, List.setIfInBounds_toArray, List.set_cons_zero, List.set_cons_succ]
  refine wpAnyH_take (i := 2) (v := ?_) (by simp only [List.getElem?_toArray, List.getElem?_cons_succ, List.getElem?_cons_zero]; rfl) (by kernel_rfl) (by kernel_rfl) (by kernel_rfl) (by exact fun _ _ _ h => h) (Or.inl ⟨rfl, ?_⟩) (by assumption) ?_
  rotate_left
  · intro wz hSw; (try dsimp only at hSw); go_simp; try with_reducible rfl
  try simp only [Act.put, List.setIfInBounds_toArray, List.set_cons_zero, List.set_cons_succ]
  refine wpAnyH_take (i := 3) (v := ?_) (by simp only [List.getElem?_toArray, List.getElem?_cons_succ, List.getElem?_cons_zero]; rfl) (by kernel_rfl) (by kernel_rfl) (by kernel_rfl) (by exact fun _ _ _ h => h) (Or.inl ⟨rfl, ?_⟩) (by assumption) ?_
  rotate_left
  · intro wz hSw; (try dsimp only at hSw); go_simp; try with_reducible rfl
  try simp only [Act.put, List.setIfInBounds_toArray, List.set_cons_zero, List.set_cons_succ]
  refine wpAnyH_take (i := 4) (v := ?_) (by simp only [List.getElem?_toArray, List.getElem?_cons_succ, List.getElem?_cons_zero]; rfl) (by kernel_rfl) (by kernel_rfl) (by kernel_rfl) (by exact fun _ _ _ h => h) (Or.inl ⟨rfl, ?_⟩) (by assumption) ?_
  rotate_left
  · intro wz hSw; (try dsimp only at hSw); go_simp; try with_reducible rfl
  try simp only [Act.put, List.setIfInBounds_toArray, List.set_cons_zero, List.set_cons_succ]
  refine wpAnyH_take (i := 5) (v := ?_) (by simp only [List.getElem?_toArray, List.getElem?_cons_succ, List.getElem?_cons_zero]; rfl) (by kernel_rfl) (by kernel_rfl) (by kernel_rfl) (by exact fun _ _ _ h => h) (Or.inl ⟨rfl, ?_⟩) (by assumption) ?_
  rotate_left
  · intro wz hSw; (try dsimp only at hSw); go_simp; try with_reducible rfl
  try simp only [Act.put, List.setIfInBounds_toArray, List.set_cons_zero, List.set_cons_succ]
  refine wpAnyH_take (i := 6) (v := ?_) (by simp only [List.getElem?_toArray, List.getElem?_cons_succ, List.getElem?_cons_zero]; rfl) (by kernel_rfl) (by kernel_rfl) (by kernel_rfl) (by exact fun _ _ _ h => h) (Or.inl ⟨rfl, ?_⟩) (by assumption) ?_
  rotate_left
  · intro wz hSw; (try dsimp only at hSw); go_simp; try with_reducible rfl
  try simp only [Act.put, List.setIfInBounds_toArray, List.set_cons_zero, List.set_cons_succ]
  refine wpAnyH_take (i := 7) (v := ?_) (by simp only [List.getElem?_toArray, List.getElem?_cons_succ, List.getElem?_cons_zero]; rfl) (by kernel_rfl) (by kernel_rfl) (by kernel_rfl) (by exact fun _ _ _ h => h) (Or.inl ⟨rfl, ?_⟩) (by assumption) ?_
  rotate_left
  · intro wz hSw; (try dsimp only at hSw); go_simp; try with_reducible rfl
  try simp only [Act.put, List.setIfInBounds_toArray, List.set_cons_zero, List.set_cons_succ]
  refine wpAnyH_take (i := 8) (v := ?_) (by simp only [List.getElem?_toArray, List.getElem?_cons_succ, List.getElem?_cons_zero]; rfl) (by kernel_rfl) (by kernel_rfl) (by kernel_rfl) (by exact fun _ _ _ h => h) (Or.inl ⟨rfl, ?_⟩) (by assumption) ?_
  rotate_left
  · intro wz hSw; (try dsimp only at hSw); go_simp; try with_reducible rfl
  try simp only [Act.put, List.setIfInBounds_toArray, List.set_cons_zero, List.set_cons_succ]
  refine wpAnyH_take (i := 9) (v := ?_) (by simp only [List.getElem?_toArray, List.getElem?_cons_succ, List.getElem?_cons_zero]; rfl) (by kernel_rfl) (by kernel_rfl) (by kernel_rfl) (by exact fun _ _ _ h => h) (Or.inl ⟨rfl, ?_⟩) (by assumption) ?_
  rotate_left
  · intro wz hSw; (try dsimp only at hSw); go_simp; try with_reducible rfl
  try simp only [Act.put, List.setIfInBounds_toArray, List.set_cons_zero, List.set_cons_succ]
  refine wpAnyH_take (i := 10) (v := ?_) (by simp only [List.getElem?_toArray, List.getElem?_cons_succ, List.getElem?_cons_zero]; rfl) (by kernel_rfl) (by kernel_rfl) (by kernel_rfl) (by exact fun _ _ _ h => h) (Or.inl ⟨rfl, ?_⟩) (by assumption) ?_
  rotate_left
  · intro wz hSw; (try dsimp only at hSw); go_simp; try with_reducible rfl
  try simp only [Act.put, List.setIfInBounds_toArray, List.set_cons_zero, List.set_cons_succ]
  refine wpAnyH_ready (rs := [11]) (by kernel_rfl) (by simp) ?_
  refine AllReadyH.cons (by simp only [List.getElem?_toArray, List.getElem?_cons_succ, List.getElem?_cons_zero]; rfl) (fun K9 hK9 => ?_) AllReadyH.nil
  have bN := (Below.refl wD.heap.size wD).alloc (Nat.le_refl _) (.cells #[.int .i64 2, .int .i64 1, .int .i64 4, .int .i64 2, .int .i64 1, .int .i64 5, .int .i64 3, .int .i64 0, .int .i64 0] 25)
  have qA_wh1 := RowAt.new wD 25 #[.int .i64 2, .int .i64 1, .int .i64 4, .int .i64 2, .int .i64 1, .int .i64 5, .int .i64 3, .int .i64 0, .int .i64 0]
  have ql_wh1 := qlD.on bN
  have qm_wh1 := qmD.on bN
  have hl_wh1 := hlD.on bN
  have ha_wh1 := haD.on bN
  have B_wh1 := BD.trans (bN.mono BD.size)
  clear bN qlD qmD hlD haD BD
  go_simp
  clear hHeld
  generalize wD.alloc (.cells #[.int .i64 2, .int .i64 1, .int .i64 4, .int .i64 2, .int .i64 1, .int .i64 5, .int .i64 3, .int .i64 0, .int .i64 0] 25) = wh1 at *
  obtain ⟨gwh1, hg9⟩ : ∃ gwh1, gwh1 = wD.heap.size := ⟨_, rfl⟩
  rw [← hg9] at qA_wh1 ⊢
  clear hg9
  refine hK9.out _ _ ⟨qm_wh1.cell 0, qm_wh1.cell 1, qm_wh1.cell 2, ql_wh1.cell 0, ql_wh1.cell 1, ql_wh1.cell 2, ql_wh1.cell 3, ql_wh1.cell 4, ql_wh1.cell 5⟩ (fun hHeld => ?_)
  clear hK9 K9
  try simp only [Act.put, List.setIfInBounds_toArray, List.set_cons_zero, List.set_cons_succ]
  refine wpAnyH_ready (rs := [12]) (by kernel_rfl) (by simp) ?_
  refine AllReadyH.cons (by simp only [List.getElem?_toArray, List.getElem?_cons_succ, List.getElem?_cons_zero]; rfl) (fun K9 hK9 => ?_) AllReadyH.nil
  go_simp
  with_reducible refine (aw13_same _ _ 3 _ _ [(2, 1, 4), (2, 1, 5), (3, 0, 0)] _ rfl (by decide) ha_wh1 (Mks.row (l := [(2, 1, 4), (2, 1, 5), (3, 0, 0)]) qA_wh1)).mono ?_
  rintro e wh2 ⟨rfl, bN⟩
  have ql_wh2 := ql_wh1.on bN
  have qm_wh2 := qm_wh1.on bN
  have hl_wh2 := hl_wh1.on bN
  have ha_wh2 := ha_wh1.on bN
  have qA_wh2 := qA_wh1.on bN
  have B_wh2 := B_wh1.trans (bN.mono B_wh1.size)
  clear bN ql_wh1 qm_wh1 hl_wh1 ha_wh1 qA_wh1 B_wh1
  go_simp
  clear hHeld
  refine hK9.out _ _ ⟨qm_wh2.cell 0, qm_wh2.cell 1, qm_wh2.cell 2, ql_wh2.cell 0, ql_wh2.cell 1, ql_wh2.cell 2, ql_wh2.cell 3, ql_wh2.cell 4, ql_wh2.cell 5⟩ (fun hHeld => ?_)
  clear hK9 K9
  try simp only [Act.put, List.setIfInBounds_toArray, List.set_cons_zero, List.set_cons_succ]
  refine wpAnyH_take (i := 13) (v := ?_) (by simp only [List.getElem?_toArray, List.getElem?_cons_succ, List.getElem?_cons_zero]; rfl) (by kernel_rfl) (by kernel_rfl) (by kernel_rfl) (by exact fun _ _ _ h => h) (Or.inl ⟨rfl, ?_⟩) (by assumption) ?_
  rotate_left
  · intro wz hSw; (try dsimp only at hSw); go_simp; try with_reducible rfl
  try simp only [Act.put, List.setIfInBounds_toArray, List.set_cons_zero, List.set_cons_succ]
  refine wpAnyH_take (i := 14) (v := ?_) (by simp only [List.getElem?_toArray, List.getElem?_cons_succ, List.getElem?_cons_zero]; rfl) (by kernel_rfl) (by kernel_rfl) (by kernel_rfl) (by exact fun _ _ _ h => h) (Or.inl ⟨rfl, ?_⟩) (by assumption) ?_
  rotate_left
  · intro wz hSw; (try dsimp only at hSw); go_simp; try with_reducible rfl
  try simp only [Act.put, List.setIfInBounds_toArray, List.set_cons_zero, List.set_cons_succ]
  refine wpAnyH_take (i := 15) (v := ?_) (by simp only [List.getElem?_toArray, List.getElem?_cons_succ, List.getElem?_cons_zero]; rfl) (by kernel_rfl) (by kernel_rfl) (by kernel_rfl) (by exact fun _ _ _ h => h) (Or.inl ⟨rfl, ?_⟩) (by assumption) ?_
  rotate_left
  · intro wz hSw; (try dsimp only at hSw); go_simp; try with_reducible rfl
  try simp only [Act.put, List.setIfInBounds_toArray, List.set_cons_zero, List.set_cons_succ]
  refine wpAnyH_take (i := 16) (v := ?_) (by simp only [List.getElem?_toArray, List.getElem?_cons_succ, List.getElem?_cons_zero]; rfl) (by kernel_rfl) (by kernel_rfl) (by kernel_rfl) (by exact fun _ _ _ h => h) (Or.inl ⟨rfl, ?_⟩) (by assumption) ?_
  rotate_left
  · intro wz hSw; (try dsimp only at hSw); go_simp; try with_reducible rfl
  try simp only [Act.put, List.setIfInBounds_toArray, List.set_cons_zero, List.set_cons_succ]
  refine wpAnyH_take (i := 17) (v := ?_) (by simp only [List.getElem?_toArray, List.getElem?_cons_succ, List.getElem?_cons_zero]; rfl) (by kernel_rfl) (by kernel_rfl) (by kernel_rfl) (by exact fun _ _ _ h => h) (Or.inl ⟨rfl, ?_⟩) (by assumption) ?_
  rotate_left
  · intro wz hSw; (try dsimp only at hSw); go_simp; try with_reducible rfl
  try simp only [Act.put, List.setIfInBounds_toArray, List.set_cons_zero, List.set_cons_succ]
  refine wpAnyH_take (i := 18) (v := ?_) (by simp only [List.getElem?_toArray, List.getElem?_cons_succ, List.getElem?_cons_zero]; rfl) (by kernel_rfl) (by kernel_rfl) (by kernel_rfl) (by exact fun _ _ _ h => h) (Or.inl ⟨rfl, ?_⟩) (by assumption) ?_
  rotate_left
  · intro wz hSw; (try dsimp only at hSw); go_simp; try with_reducible rfl
  try simp only [Act.put, List.setIfInBounds_toArray, List.set_cons_zero, List.set_cons_succ]
  refine wpAnyH_take (i := 19) (v := ?_) (by simp only [List.getElem?_toArray, List.getElem?_cons_succ, List.getElem?_cons_zero]; rfl) (by kernel_rfl) (by kernel_rfl) (by kernel_rfl) (by exact fun _ _ _ h => h) (Or.inl ⟨rfl, ?_⟩) (by assumption) ?_
  rotate_left
  · intro wz hSw; (try dsimp only at hSw); go_simp; try with_reducible rfl
  try simp only [Act.put, List.setIfInBounds_toArray, List.set_cons_zero, List.set_cons_succ]
  refine wpAnyH_take (i := 20) (v := ?_) (by simp only [List.getElem?_toArray, List.getElem?_cons_succ, List.getElem?_cons_zero]; rfl) (by kernel_rfl) (by kernel_rfl) (by kernel_rfl) (by exact fun _ _ _ h => h) (Or.inl ⟨rfl, ?_⟩) (by assumption) ?_
  rotate_left
  · intro wz hSw; (try dsimp only at hSw); go_simp; try with_reducible rfl
  try simp only [Act.put, List.setIfInBounds_toArray, List.set_cons_zero, List.set_cons_succ]
  refine wpAnyH_take (i := 21) (v := ?_) (by simp only [List.getElem?_toArray, List.getElem?_cons_succ, List.getElem?_cons_zero]; rfl) (by kernel_rfl) (by kernel_rfl) (by kernel_rfl) (by exact fun _ _ _ h => h) (Or.inl ⟨rfl, ?_⟩) (by assumption) ?_
  rotate_left
  · intro wz hSw; (try dsimp only at hSw); go_simp; try with_reducible rfl
  try simp only [Act.put, List.setIfInBounds_toArray, List.set_cons_zero, List.set_cons_succ]
  refine wpAnyH_take (i := 22) (v := ?_) (by simp only [List.getElem?_toArray, List.getElem?_cons_succ, List.getElem?_cons_zero]; rfl) (by kernel_rfl) (by kernel_rfl) (by kernel_rfl) (by exact fun _ _ _ h => h) (Or.inl ⟨rfl, ?_⟩) (by assumption) ?_
  rotate_left
  · intro wz hSw; (try dsimp only at hSw); go_simp; try with_reducible rfl
  try simp only [Act.put, List.setIfInBounds_toArray, List.set_cons_zero, List.set_cons_succ]
  refine wpAnyH_take (i := 23) (v := ?_) (by simp only [List.getElem?_toArray, List.getElem?_cons_succ, List.getElem?_cons_zero]; rfl) (by kernel_rfl) (by kernel_rfl) (by kernel_rfl) (by exact fun _ _ _ h => h) (Or.inl ⟨rfl, ?_⟩) (by assumption) ?_
  rotate_left
  · intro wz hSw; (try dsimp only at hSw); go_simp; try with_reducible rfl
  try simp only [Act.put, List.setIfInBounds_toArray, List.set_cons_zero, List.set_cons_succ]
  refine wpAnyH_take (i := 24) (v := ?_) (by simp only [List.getElem?_toArray, List.getElem?_cons_succ, List.getElem?_cons_zero]; rfl) (by kernel_rfl) (by kernel_rfl) (by kernel_rfl) (by exact fun _ _ _ h => h) (Or.inl ⟨rfl, ?_⟩) (by assumption) ?_
  rotate_left
  · intro wz hSw; (try dsimp only at hSw); go_simp; try with_reducible rfl
  try simp only [Act.put, List.setIfInBounds_toArray, List.set_cons_zero, List.set_cons_succ]
  refine wpAnyH_take (i := 25) (v := ?_) (by simp only [List.getElem?_toArray, List.getElem?_cons_succ, List.getElem?_cons_zero]; rfl) (by kernel_rfl) (by kernel_rfl) (by kernel_rfl) (by exact fun _ _ _ h => h) (Or.inl ⟨rfl, ?_⟩) (by assumption) ?_
  rotate_left
  · intro wz hSw; (try dsimp only at hSw); go_simp; try with_reducible rfl
  try simp only [Act.put, List.setIfInBounds_toArray, List.set_cons_zero, List.set_cons_succ]
  refine wpAnyH_take (i := 26) (v := ?_) (by simp only [List.getElem?_toArray, List.getElem?_cons_succ, List.getElem?_cons_zero]; rfl) (by kernel_rfl) (by kernel_rfl) (by kernel_rfl) (by exact fun _ _ _ h => h) (Or.inl ⟨rfl, ?_⟩) (by assumption) ?_
  rotate_left
  · intro wz hSw; (try dsimp only at hSw); go_simp; try with_reducible rfl
  try simp only [Act.put, List.setIfInBounds_toArray, List.set_cons_zero, List.set_cons_succ]
  refine wpAnyH_take (i := 27) (v := ?_) (by simp only [List.getElem?_toArray, List.getElem?_cons_succ, List.getElem?_cons_zero]; rfl) (by kernel_rfl) (by kernel_rfl) (by kernel_rfl) (by exact fun _ _ _ h => h) (Or.inl ⟨rfl, ?_⟩) (by assumption) ?_
  rotate_left
  · intro wz hSw; (try dsimp only at hSw); go_simp; try with_reducible rfl
  try simp only [Act.put, List.setIfInBounds_toArray, List.set_cons_zero, List.set_cons_succ]
  refine wpAnyH_take (i := 28) (v := ?_) (by simp only [List.getElem?_toArray, List.getElem?_cons_succ, List.getElem?_cons_zero]; rfl) (by kernel_rfl) (by kernel_rfl) (by kernel_rfl) (by exact fun _ _ _ h => h) (Or.inl ⟨rfl, ?_⟩) (by assumption) ?_
  rotate_left
  · intro wz hSw; (try dsimp only at hSw); go_simp; try with_reducible rfl
  try simp only [Act.put, List.setIfInBounds_toArray, List.set_cons_zero, List.set_cons_succ]
  refine wpAnyH_ready (rs := [29]) (by kernel_rfl) (by simp) ?_
  refine AllReadyH.cons (by simp only [List.getElem?_toArray, List.getElem?_cons_succ, List.getElem?_cons_zero]; rfl) (fun K9 hK9 => ?_) AllReadyH.nil
  go_simp
  with_reducible refine (aw13_has _ _ _ ha_wh2).mono ?_
  rintro e wh3 ⟨rfl, bN⟩
  have ql_wh3 := ql_wh2.on bN
  have qm_wh3 := qm_wh2.on bN
  have hl_wh3 := hl_wh2.on bN
  have ha_wh3 := ha_wh2.on bN
  have qA_wh3 := qA_wh2.on bN
  have B_wh3 := B_wh2.trans (bN.mono B_wh2.size)
  clear bN ql_wh2 qm_wh2 hl_wh2 ha_wh2 qA_wh2 B_wh2
  go_simp
  clear hHeld
  refine hK9.out _ _ ⟨qm_wh3.cell 0, qm_wh3.cell 1, qm_wh3.cell 2, ql_wh3.cell 0, ql_wh3.cell 1, ql_wh3.cell 2, ql_wh3.cell 3, ql_wh3.cell 4, ql_wh3.cell 5⟩ (fun hHeld => ?_)
  clear hK9 K9
  try simp only [Act.put, List.setIfInBounds_toArray, List.set_cons_zero, List.set_cons_succ]
  refine wpAnyH_take (i := 30) (v := ?_) (by simp only [List.getElem?_toArray, List.getElem?_cons_succ, List.getElem?_cons_zero]; rfl) (by kernel_rfl) (by kernel_rfl) (by kernel_rfl) (by exact fun _ _ _ h => h) (Or.inl ⟨rfl, ?_⟩) (by assumption) ?_
  rotate_left
  · intro wz hSw; (try dsimp only at hSw); go_simp; try with_reducible rfl
  try simp only [Act.put, List.setIfInBounds_toArray, List.set_cons_zero, List.set_cons_succ]
  refine wpAnyH_take (i := 31) (v := ?_) (by simp only [List.getElem?_toArray, List.getElem?_cons_succ, List.getElem?_cons_zero]; rfl) (by kernel_rfl) (by kernel_rfl) (by kernel_rfl) (by exact fun _ _ _ h => h) (Or.inl ⟨rfl, ?_⟩) (by assumption) ?_
  rotate_left
  · intro wz hSw; (try dsimp only at hSw); go_simp; try with_reducible rfl
  try simp only [Act.put, List.setIfInBounds_toArray, List.set_cons_zero, List.set_cons_succ]
  refine wpAnyH_take (i := 32) (v := ?_) (by simp only [List.getElem?_toArray, List.getElem?_cons_succ, List.getElem?_cons_zero]; rfl) (by kernel_rfl) (by kernel_rfl) (by kernel_rfl) (by exact fun _ _ _ h => h) (Or.inl ⟨rfl, ?_⟩) (by assumption) ?_
  rotate_left
  · intro wz hSw; (try dsimp only at hSw); go_simp; try with_reducible rfl
  try simp only [Act.put, List.setIfInBounds_toArray, List.set_cons_zero, List.set_cons_succ]
  refine wpAnyH_take (i := 33) (v := ?_) (by simp only [List.getElem?_toArray, List.getElem?_cons_succ, List.getElem?_cons_zero]; rfl) (by kernel_rfl) (by kernel_rfl) (by kernel_rfl) (by exact fun _ _ _ h => h) (Or.inl ⟨rfl, ?_⟩) (by assumption) ?_
  rotate_left
  · intro wz hSw; (try dsimp only at hSw); go_simp; try with_reducible rfl
  try simp only [Act.put, List.setIfInBounds_toArray, List.set_cons_zero, List.set_cons_succ]
  refine wpAnyH_ready (rs := [34]) (by kernel_rfl) (by simp) ?_
  refine AllReadyH.cons (by simp only [List.getElem?_toArray, List.getElem?_cons_succ, List.getElem?_cons_zero]; rfl) (fun K9 hK9 => ?_) AllReadyH.nil
  go_simp
  with_reducible refine (aw13_hasnot _ _ _ hl_wh3).mono ?_
  rintro e wh4 ⟨rfl, bN⟩
  have ql_wh4 := ql_wh3.on bN
  have qm_wh4 := qm_wh3.on bN
  have hl_wh4 := hl_wh3.on bN
  have ha_wh4 := ha_wh3.on bN
  have qA_wh4 := qA_wh3.on bN
  have B_wh4 := B_wh3.trans (bN.mono B_wh3.size)
  clear bN ql_wh3 qm_wh3 hl_wh3 ha_wh3 qA_wh3 B_wh3
  go_simp
  clear hHeld
  refine hK9.out _ _ ⟨qm_wh4.cell 0, qm_wh4.cell 1, qm_wh4.cell 2, ql_wh4.cell 0, ql_wh4.cell 1, ql_wh4.cell 2, ql_wh4.cell 3, ql_wh4.cell 4, ql_wh4.cell 5⟩ (fun hHeld => ?_)
  clear hK9 K9
  try simp only [Act.put, List.setIfInBounds_toArray, List.set_cons_zero, List.set_cons_succ]
  refine wpAnyH_take (i := 35) (v := ?_) (by simp only [List.getElem?_toArray, List.getElem?_cons_succ, List.getElem?_cons_zero]; rfl) (by kernel_rfl) (by kernel_rfl) (by kernel_rfl) (by exact fun _ _ _ h => h) (Or.inl ⟨rfl, ?_⟩) (by assumption) ?_
  rotate_left
  · intro wz hSw; (try dsimp only at hSw); go_simp; try with_reducible rfl
  try simp only [Act.put, List.setIfInBounds_toArray, List.set_cons_zero, List.set_cons_succ]
  refine wpAnyH_take (i := 36) (v := ?_) (by simp only [List.getElem?_toArray, List.getElem?_cons_succ, List.getElem?_cons_zero]; rfl) (by kernel_rfl) (by kernel_rfl) (by kernel_rfl) (by exact fun _ _ _ h => h) (Or.inl ⟨rfl, ?_⟩) (by assumption) ?_
  rotate_left
  · intro wz hSw; (try dsimp only at hSw); go_simp; try with_reducible rfl
  try simp only [Act.put, List.setIfInBounds_toArray, List.set_cons_zero, List.set_cons_succ]
  refine wpAnyH_take (i := 37) (v := ?_) (by simp only [List.getElem?_toArray, List.getElem?_cons_succ, List.getElem?_cons_zero]; rfl) (by kernel_rfl) (by kernel_rfl) (by kernel_rfl) (by exact fun _ _ _ h => h) (Or.inl ⟨rfl, ?_⟩) (by assumption) ?_
  rotate_left
  · intro wz hSw; (try dsimp only at hSw); go_simp; try with_reducible rfl
  try simp only [Act.put, List.setIfInBounds_toArray, List.set_cons_zero, List.set_cons_succ]
  refine wpAnyH_take (i := 38) (v := ?_) (by simp only [List.getElem?_toArray, List.getElem?_cons_succ, List.getElem?_cons_zero]; rfl) (by kernel_rfl) (by kernel_rfl) (by kernel_rfl) (by exact fun _ _ _ h => h) (Or.inl ⟨rfl, ?_⟩) (by assumption) ?_
  rotate_left
  · intro wz hSw; (try dsimp only at hSw); go_simp; try with_reducible rfl
  try simp only [Act.put, List.setIfInBounds_toArray, List.set_cons_zero, List.set_cons_succ]
  refine wpAnyH_ready (rs := [39]) (by kernel_rfl) (by simp) ?_
  refine AllReadyH.cons (by simp only [List.getElem?_toArray, List.getElem?_cons_succ, List.getElem?_cons_zero]; rfl) (fun K9 hK9 => ?_) AllReadyH.nil
  go_simp
  with_reducible refine (aw13_right _ _ _ hl_wh4).mono ?_
  rintro e wh5 ⟨rfl, bN⟩
  have ql_wh5 := ql_wh4.on bN
  have qm_wh5 := qm_wh4.on bN
  have hl_wh5 := hl_wh4.on bN
  have ha_wh5 := ha_wh4.on bN
  have qA_wh5 := qA_wh4.on bN
  have B_wh5 := B_wh4.trans (bN.mono B_wh4.size)
  clear bN ql_wh4 qm_wh4 hl_wh4 ha_wh4 qA_wh4 B_wh4
  go_simp
  clear hHeld
  refine hK9.out _ _ ⟨qm_wh5.cell 0, qm_wh5.cell 1, qm_wh5.cell 2, ql_wh5.cell 0, ql_wh5.cell 1, ql_wh5.cell 2, ql_wh5.cell 3, ql_wh5.cell 4, ql_wh5.cell 5⟩ (fun hHeld => ?_)
  clear hK9 K9
  try simp only [Act.put, List.setIfInBounds_toArray, List.set_cons_zero, List.set_cons_succ]
  refine wpAnyH_take (i := 40) (v := ?_) (by simp only [List.getElem?_toArray, List.getElem?_cons_succ, List.getElem?_cons_zero]; rfl) (by kernel_rfl) (by kernel_rfl) (by kernel_rfl) (by exact fun _ _ _ h => h) (Or.inl ⟨rfl, ?_⟩) (by assumption) ?_
  rotate_left
  · intro wz hSw; (try dsimp only at hSw); go_simp; try with_reducible rfl
  try simp only [Act.put, List.setIfInBounds_toArray, List.set_cons_zero, List.set_cons_succ]
  refine wpAnyH_take (i := 41) (v := ?_) (by simp only [List.getElem?_toArray, List.getElem?_cons_succ, List.getElem?_cons_zero]; rfl) (by kernel_rfl) (by kernel_rfl) (by kernel_rfl) (by exact fun _ _ _ h => h) (Or.inl ⟨rfl, ?_⟩) (by assumption) ?_
  rotate_left
  · intro wz hSw; (try dsimp only at hSw); go_simp; try with_reducible rfl
  try simp only [Act.put, List.setIfInBounds_toArray, List.set_cons_zero, List.set_cons_succ]
  refine wpAnyH_take (i := 42) (v := ?_) (by simp only [List.getElem?_toArray, List.getElem?_cons_succ, List.getElem?_cons_zero]; rfl) (by kernel_rfl) (by kernel_rfl) (by kernel_rfl) (by exact fun _ _ _ h => h) (Or.inl ⟨rfl, ?_⟩) (by assumption) ?_
  rotate_left
  · intro wz hSw; (try dsimp only at hSw); go_simp; try with_reducible rfl
  try simp only [Act.put, List.setIfInBounds_toArray, List.set_cons_zero, List.set_cons_succ]
  refine wpAnyH_take (i := 44) (v := ?_) (by simp only [List.getElem?_toArray, List.getElem?_cons_succ, List.getElem?_cons_zero]; rfl) (by kernel_rfl) (by kernel_rfl) (by kernel_rfl) (by exact fun _ _ _ h => h) (Or.inl ⟨rfl, ?_⟩) (by assumption) ?_
  rotate_left
  · intro wz hSw; (try dsimp only at hSw); go_simp; try with_reducible rfl
  try simp only [Act.put, List.setIfInBounds_toArray, List.set_cons_zero, List.set_cons_succ]
  refine wpAnyH_take (i := 45) (v := ?_) (by simp only [List.getElem?_toArray, List.getElem?_cons_succ, List.getElem?_cons_zero]; rfl) (by kernel_rfl) (by kernel_rfl) (by kernel_rfl) (by exact fun _ _ _ h => h) (Or.inl ⟨rfl, ?_⟩) (by assumption) ?_
  rotate_left
  · intro wz hSw; (try dsimp only at hSw); go_simp; try with_reducible rfl
  try simp only [Act.put, List.setIfInBounds_toArray, List.set_cons_zero, List.set_cons_succ]
  refine wpAnyH_take (i := 46) (v := ?_) (by simp only [List.getElem?_toArray, List.getElem?_cons_succ, List.getElem?_cons_zero]; rfl) (by kernel_rfl) (by kernel_rfl) (by kernel_rfl) (by exact fun _ _ _ h => h) (Or.inl ⟨rfl, ?_⟩) (by assumption) ?_
  rotate_left
  · intro wz hSw; (try dsimp only at hSw); go_simp; try with_reducible rfl
  try simp only [Act.put, List.setIfInBounds_toArray, List.set_cons_zero, List.set_cons_succ]
  refine wpAnyH_ready (rs := [43, 47]) (by kernel_rfl) (by simp) ?_
  refine AllReadyH.cons (by simp only [List.getElem?_toArray, List.getElem?_cons_succ, List.getElem?_cons_zero]; rfl) (fun K9 hK9 => ?_) ?_
  · go_simp
    with_reducible refine (aw13_prune _ _ _ ha_wh5).mono ?_
    rintro e wha6 ⟨Ap, cp, rfl, hp, bN⟩
    have ql_wha6 := ql_wh5.on bN
    have qm_wha6 := qm_wh5.on bN
    have hl_wha6 := hl_wh5.on bN
    have ha_wha6 := ha_wh5.on bN
    have qA_wha6 := qA_wh5.on bN
    have B_wha6 := B_wh5.trans (bN.mono B_wh5.size)
    clear bN ql_wh5 qm_wh5 hl_wh5 ha_wh5 qA_wh5 B_wh5
    go_simp
    clear hHeld
    refine hK9.out _ _ ⟨qm_wha6.cell 0, qm_wha6.cell 1, qm_wha6.cell 2, ql_wha6.cell 0, ql_wha6.cell 1, ql_wha6.cell 2, ql_wha6.cell 3, ql_wha6.cell 4, ql_wha6.cell 5⟩ (fun hHeld => ?_)
    clear hK9 K9
    try simp only [Act.put, List.setIfInBounds_toArray, List.set_cons_zero, List.set_cons_succ]
    refine wpAnyH_ready (rs := [47]) (by kernel_rfl) (by simp) ?_
    refine AllReadyH.cons (by simp only [List.getElem?_toArray, List.getElem?_cons_succ, List.getElem?_cons_zero]; rfl) (fun K9 hK9 => ?_) AllReadyH.nil
    have bN := (Below.refl wha6.heap.size wha6).alloc (Nat.le_refl _) (.cells #[.int .i64 3, .int .i64 0, .int .i64 0] 25)
    have qB_wha7 := RowAt.new wha6 25 #[.int .i64 3, .int .i64 0, .int .i64 0]
    have ql_wha7 := ql_wha6.on bN
    have qm_wha7 := qm_wha6.on bN
    have hl_wha7 := hl_wha6.on bN
    have ha_wha7 := ha_wha6.on bN
    have qA_wha7 := qA_wha6.on bN
    have hp_wha7 := hp.on bN
    have B_wha7 := B_wha6.trans (bN.mono B_wha6.size)
    clear bN ql_wha6 qm_wha6 hl_wha6 ha_wha6 qA_wha6 hp B_wha6
    go_simp
    clear hHeld
    generalize wha6.alloc (.cells #[.int .i64 3, .int .i64 0, .int .i64 0] 25) = wha7 at *
    obtain ⟨gwha7, hg9⟩ : ∃ gwha7, gwha7 = wha6.heap.size := ⟨_, rfl⟩
    rw [← hg9] at qB_wha7 ⊢
    clear hg9
    refine hK9.out _ _ ⟨qm_wha7.cell 0, qm_wha7.cell 1, qm_wha7.cell 2, ql_wha7.cell 0, ql_wha7.cell 1, ql_wha7.cell 2, ql_wha7.cell 3, ql_wha7.cell 4, ql_wha7.cell 5⟩ (fun hHeld => ?_)
    clear hK9 K9
    try simp only [Act.put, List.setIfInBounds_toArray, List.set_cons_zero, List.set_cons_succ]
    refine wpAnyH_ready (rs := [48]) (by kernel_rfl) (by simp) ?_
    refine AllReadyH.cons (by simp only [List.getElem?_toArray, List.getElem?_cons_succ, List.getElem?_cons_zero]; rfl) (fun K9 hK9 => ?_) AllReadyH.nil
    go_simp
    with_reducible refine (aw13_same _ _ 1 _ _ [(3, 0, 0)] _ rfl (by decide) hp_wha7 (Mks.row (l := [(3, 0, 0)]) qB_wha7)).mono ?_
    rintro e wha8 ⟨rfl, bN⟩
    have ql_wha8 := ql_wha7.on bN
    have qm_wha8 := qm_wha7.on bN
    have hl_wha8 := hl_wha7.on bN
    have ha_wha8 := ha_wha7.on bN
    have qA_wha8 := qA_wha7.on bN
    have hp_wha8 := hp_wha7.on bN
    have qB_wha8 := qB_wha7.on bN
    have B_wha8 := B_wha7.trans (bN.mono B_wha7.size)
    clear bN ql_wha7 qm_wha7 hl_wha7 ha_wha7 qA_wha7 hp_wha7 qB_wha7 B_wha7
    go_simp
    clear hHeld
    refine hK9.out _ _ ⟨qm_wha8.cell 0, qm_wha8.cell 1, qm_wha8.cell 2, ql_wha8.cell 0, ql_wha8.cell 1, ql_wha8.cell 2, ql_wha8.cell 3, ql_wha8.cell 4, ql_wha8.cell 5⟩ (fun hHeld => ?_)
    clear hK9 K9
    try simp only [Act.put, List.setIfInBounds_toArray, List.set_cons_zero, List.set_cons_succ]
    refine wpAnyH_take (i := 49) (v := ?_) (by simp only [List.getElem?_toArray, List.getElem?_cons_succ, List.getElem?_cons_zero]; rfl) (by kernel_rfl) (by kernel_rfl) (by kernel_rfl) (by exact fun _ _ _ h => h) (Or.inl ⟨rfl, ?_⟩) (by assumption) ?_
    rotate_left
    · intro wz hSw; (try dsimp only at hSw); go_simp; try with_reducible rfl
    try simp only [Act.put, List.setIfInBounds_toArray, List.set_cons_zero, List.set_cons_succ]
    refine wpAnyH_take (i := 50) (v := ?_) (by simp only [List.getElem?_toArray, List.getElem?_cons_succ, List.getElem?_cons_zero]; rfl) (by kernel_rfl) (by kernel_rfl) (by kernel_rfl) (by exact fun _ _ _ h => h) (Or.inl ⟨rfl, ?_⟩) (by assumption) ?_
    rotate_left
    · intro wz hSw; (try dsimp only at hSw); go_simp; try with_reducible rfl
    try simp only [Act.put, List.setIfInBounds_toArray, List.set_cons_zero, List.set_cons_succ]
    refine wpAnyH_take (i := 51) (v := ?_) (by simp only [List.getElem?_toArray, List.getElem?_cons_succ, List.getElem?_cons_zero]; rfl) (by kernel_rfl) (by kernel_rfl) (by kernel_rfl) (by exact fun _ _ _ h => h) (Or.inl ⟨rfl, ?_⟩) (by assumption) ?_
    rotate_left
    · intro wz hSw; (try dsimp only at hSw); go_simp; try with_reducible rfl
    try simp only [Act.put, List.setIfInBounds_toArray, List.set_cons_zero, List.set_cons_succ]
    refine wpAnyH_ready (rs := [52, 53]) (by kernel_rfl) (by simp) ?_
    refine AllReadyH.cons (by simp only [List.getElem?_toArray, List.getElem?_cons_succ, List.getElem?_cons_zero]; rfl) (fun K9 hK9 => ?_) ?_
    · go_simp
      with_reducible refine (aw13_of _ _ _ ha_wha8).mono ?_
      rintro e whaa9 ⟨Ao, co, rfl, ho, bN⟩
      have ql_whaa9 := ql_wha8.on bN
      have qm_whaa9 := qm_wha8.on bN
      have hl_whaa9 := hl_wha8.on bN
      have ha_whaa9 := ha_wha8.on bN
      have qA_whaa9 := qA_wha8.on bN
      have hp_whaa9 := hp_wha8.on bN
      have qB_whaa9 := qB_wha8.on bN
      have B_whaa9 := B_wha8.trans (bN.mono B_wha8.size)
      clear bN ql_wha8 qm_wha8 hl_wha8 ha_wha8 qA_wha8 hp_wha8 qB_wha8 B_wha8
      go_simp
      clear hHeld
      refine hK9.out _ _ ⟨qm_whaa9.cell 0, qm_whaa9.cell 1, qm_whaa9.cell 2, ql_whaa9.cell 0, ql_whaa9.cell 1, ql_whaa9.cell 2, ql_whaa9.cell 3, ql_whaa9.cell 4, ql_whaa9.cell 5⟩ (fun hHeld => ?_)
      clear hK9 K9
      try simp only [Act.put, List.setIfInBounds_toArray, List.set_cons_zero, List.set_cons_succ]
      refine wpAnyH_ready (rs := [53]) (by kernel_rfl) (by simp) ?_
      refine AllReadyH.cons (by simp only [List.getElem?_toArray, List.getElem?_cons_succ, List.getElem?_cons_zero]; rfl) (fun K9 hK9 => ?_) AllReadyH.nil
      have bN := (Below.refl whaa9.heap.size whaa9).alloc (Nat.le_refl _) (.cells #[.int .i64 4, .int .i64 5] 3)
      have qC_whaa10 := RowAt.new whaa9 3 #[.int .i64 4, .int .i64 5]
      have ql_whaa10 := ql_whaa9.on bN
      have qm_whaa10 := qm_whaa9.on bN
      have hl_whaa10 := hl_whaa9.on bN
      have ha_whaa10 := ha_whaa9.on bN
      have qA_whaa10 := qA_whaa9.on bN
      have hp_whaa10 := hp_whaa9.on bN
      have qB_whaa10 := qB_whaa9.on bN
      have ho_whaa10 := ho.on bN
      have B_whaa10 := B_whaa9.trans (bN.mono B_whaa9.size)
      clear bN ql_whaa9 qm_whaa9 hl_whaa9 ha_whaa9 qA_whaa9 hp_whaa9 qB_whaa9 ho B_whaa9
      go_simp
      clear hHeld
      generalize whaa9.alloc (.cells #[.int .i64 4, .int .i64 5] 3) = whaa10 at *
      obtain ⟨gwhaa10, hg9⟩ : ∃ gwhaa10, gwhaa10 = whaa9.heap.size := ⟨_, rfl⟩
      rw [← hg9] at qC_whaa10 ⊢
      clear hg9
      refine hK9.out _ _ ⟨qm_whaa10.cell 0, qm_whaa10.cell 1, qm_whaa10.cell 2, ql_whaa10.cell 0, ql_whaa10.cell 1, ql_whaa10.cell 2, ql_whaa10.cell 3, ql_whaa10.cell 4, ql_whaa10.cell 5⟩ (fun hHeld => ?_)
      clear hK9 K9
      try simp only [Act.put, List.setIfInBounds_toArray, List.set_cons_zero, List.set_cons_succ]
      refine wpAnyH_ready (rs := [54]) (by kernel_rfl) (by simp) ?_
      refine AllReadyH.cons (by simp only [List.getElem?_toArray, List.getElem?_cons_succ, List.getElem?_cons_zero]; rfl) (fun K9 hK9 => ?_) AllReadyH.nil
      go_simp
      with_reducible refine (aw13_ints _ _ 2 _ _ [4, 5] _ rfl (by decide) ho_whaa10 (Elems.row (enc := Value.int .i64) (xs := [4, 5]) qC_whaa10)).mono ?_
      rintro e whaa11 ⟨rfl, bN⟩
      have ql_whaa11 := ql_whaa10.on bN
      have qm_whaa11 := qm_whaa10.on bN
      have hl_whaa11 := hl_whaa10.on bN
      have ha_whaa11 := ha_whaa10.on bN
      have qA_whaa11 := qA_whaa10.on bN
      have hp_whaa11 := hp_whaa10.on bN
      have qB_whaa11 := qB_whaa10.on bN
      have ho_whaa11 := ho_whaa10.on bN
      have qC_whaa11 := qC_whaa10.on bN
      have B_whaa11 := B_whaa10.trans (bN.mono B_whaa10.size)
      clear bN ql_whaa10 qm_whaa10 hl_whaa10 ha_whaa10 qA_whaa10 hp_whaa10 qB_whaa10 ho_whaa10 qC_whaa10 B_whaa10
      go_simp
      clear hHeld
      refine hK9.out _ _ ⟨qm_whaa11.cell 0, qm_whaa11.cell 1, qm_whaa11.cell 2, ql_whaa11.cell 0, ql_whaa11.cell 1, ql_whaa11.cell 2, ql_whaa11.cell 3, ql_whaa11.cell 4, ql_whaa11.cell 5⟩ (fun hHeld => ?_)
      clear hK9 K9
      try simp only [Act.put, List.setIfInBounds_toArray, List.set_cons_zero, List.set_cons_succ]
      refine wpAnyH_take (i := 55) (v := ?_) (by simp only [List.getElem?_toArray, List.getElem?_cons_succ, List.getElem?_cons_zero]; rfl) (by kernel_rfl) (by kernel_rfl) (by kernel_rfl) (by exact fun _ _ _ h => h) (Or.inl ⟨rfl, ?_⟩) (by assumption) ?_
      rotate_left
      · intro wz hSw; (try dsimp only at hSw); go_simp; try with_reducible rfl
      try simp only [Act.put, List.setIfInBounds_toArray, List.set_cons_zero, List.set_cons_succ]
      refine wpAnyH_take (i := 56) (v := ?_) (by simp only [List.getElem?_toArray, List.getElem?_cons_succ, List.getElem?_cons_zero]; rfl) (by kernel_rfl) (by kernel_rfl) (by kernel_rfl) (by exact fun _ _ _ h => h) (Or.inl ⟨rfl, ?_⟩) (by assumption) ?_
      rotate_left
      · intro wz hSw; (try dsimp only at hSw); go_simp; try with_reducible rfl
      try simp only [Act.put, List.setIfInBounds_toArray, List.set_cons_zero, List.set_cons_succ]
      refine wpAnyH_done (by kernel_rfl) ?_ _
      go_simp
      go_wp2_with fail
      go_ret
      exact ⟨rfl, B_whaa11⟩
    refine AllReadyH.cons (by simp only [List.getElem?_toArray, List.getElem?_cons_succ, List.getElem?_cons_zero]; rfl) (fun K9 hK9 => ?_) ?_
    · have bN := (Below.refl wha8.heap.size wha8).alloc (Nat.le_refl _) (.cells #[.int .i64 4, .int .i64 5] 3)
      have qC_whab9 := RowAt.new wha8 3 #[.int .i64 4, .int .i64 5]
      have ql_whab9 := ql_wha8.on bN
      have qm_whab9 := qm_wha8.on bN
      have hl_whab9 := hl_wha8.on bN
      have ha_whab9 := ha_wha8.on bN
      have qA_whab9 := qA_wha8.on bN
      have hp_whab9 := hp_wha8.on bN
      have qB_whab9 := qB_wha8.on bN
      have B_whab9 := B_wha8.trans (bN.mono B_wha8.size)
      clear bN ql_wha8 qm_wha8 hl_wha8 ha_wha8 qA_wha8 hp_wha8 qB_wha8 B_wha8
      go_simp
      clear hHeld
      generalize wha8.alloc (.cells #[.int .i64 4, .int .i64 5] 3) = whab9 at *
      obtain ⟨gwhab9, hg9⟩ : ∃ gwhab9, gwhab9 = wha8.heap.size := ⟨_, rfl⟩
      rw [← hg9] at qC_whab9 ⊢
      clear hg9
      refine hK9.out _ _ ⟨qm_whab9.cell 0, qm_whab9.cell 1, qm_whab9.cell 2, ql_whab9.cell 0, ql_whab9.cell 1, ql_whab9.cell 2, ql_whab9.cell 3, ql_whab9.cell 4, ql_whab9.cell 5⟩ (fun hHeld => ?_)
      clear hK9 K9
      try simp only [Act.put, List.setIfInBounds_toArray, List.set_cons_zero, List.set_cons_succ]
      refine wpAnyH_ready (rs := [52]) (by kernel_rfl) (by simp) ?_
      refine AllReadyH.cons (by simp only [List.getElem?_toArray, List.getElem?_cons_succ, List.getElem?_cons_zero]; rfl) (fun K9 hK9 => ?_) AllReadyH.nil
      go_simp
      with_reducible refine (aw13_of _ _ _ ha_whab9).mono ?_
      rintro e whab10 ⟨Ao, co, rfl, ho, bN⟩
      have ql_whab10 := ql_whab9.on bN
      have qm_whab10 := qm_whab9.on bN
      have hl_whab10 := hl_whab9.on bN
      have ha_whab10 := ha_whab9.on bN
      have qA_whab10 := qA_whab9.on bN
      have hp_whab10 := hp_whab9.on bN
      have qB_whab10 := qB_whab9.on bN
      have qC_whab10 := qC_whab9.on bN
      have B_whab10 := B_whab9.trans (bN.mono B_whab9.size)
      clear bN ql_whab9 qm_whab9 hl_whab9 ha_whab9 qA_whab9 hp_whab9 qB_whab9 qC_whab9 B_whab9
      go_simp
      clear hHeld
      refine hK9.out _ _ ⟨qm_whab10.cell 0, qm_whab10.cell 1, qm_whab10.cell 2, ql_whab10.cell 0, ql_whab10.cell 1, ql_whab10.cell 2, ql_whab10.cell 3, ql_whab10.cell 4, ql_whab10.cell 5⟩ (fun hHeld => ?_)
      clear hK9 K9
      try simp only [Act.put, List.setIfInBounds_toArray, List.set_cons_zero, List.set_cons_succ]
      refine wpAnyH_ready (rs := [54]) (by kernel_rfl) (by simp) ?_
      refine AllReadyH.cons (by simp only [List.getElem?_toArray, List.getElem?_cons_succ, List.getElem?_cons_zero]; rfl) (fun K9 hK9 => ?_) AllReadyH.nil
      go_simp
      with_reducible refine (aw13_ints _ _ 2 _ _ [4, 5] _ rfl (by decide) ho (Elems.row (enc := Value.int .i64) (xs := [4, 5]) qC_whab10)).mono ?_
      rintro e whab11 ⟨rfl, bN⟩
      have ql_whab11 := ql_whab10.on bN
      have qm_whab11 := qm_whab10.on bN
      have hl_whab11 := hl_whab10.on bN
      have ha_whab11 := ha_whab10.on bN
      have qA_whab11 := qA_whab10.on bN
      have hp_whab11 := hp_whab10.on bN
      have qB_whab11 := qB_whab10.on bN
      have qC_whab11 := qC_whab10.on bN
      have ho_whab11 := ho.on bN
      have B_whab11 := B_whab10.trans (bN.mono B_whab10.size)
      clear bN ql_whab10 qm_whab10 hl_whab10 ha_whab10 qA_whab10 hp_whab10 qB_whab10 qC_whab10 ho B_whab10
      go_simp
      clear hHeld
      refine hK9.out _ _ ⟨qm_whab11.cell 0, qm_whab11.cell 1, qm_whab11.cell 2, ql_whab11.cell 0, ql_whab11.cell 1, ql_whab11.cell 2, ql_whab11.cell 3, ql_whab11.cell 4, ql_whab11.cell 5⟩ (fun hHeld => ?_)
      clear hK9 K9
      try simp only [Act.put, List.setIfInBounds_toArray, List.set_cons_zero, List.set_cons_succ]
      refine wpAnyH_take (i := 55) (v := ?_) (by simp only [List.getElem?_toArray, List.getElem?_cons_succ, List.getElem?_cons_zero]; rfl) (by kernel_rfl) (by kernel_rfl) (by kernel_rfl) (by exact fun _ _ _ h => h) (Or.inl ⟨rfl, ?_⟩) (by assumption) ?_
      rotate_left
      · intro wz hSw; (try dsimp only at hSw); go_simp; try with_reducible rfl
      try simp only [Act.put, List.setIfInBounds_toArray, List.set_cons_zero, List.set_cons_succ]
      refine wpAnyH_take (i := 56) (v := ?_) (by simp only [List.getElem?_toArray, List.getElem?_cons_succ, List.getElem?_cons_zero]; rfl) (by kernel_rfl) (by kernel_rfl) (by kernel_rfl) (by exact fun _ _ _ h => h) (Or.inl ⟨rfl, ?_⟩) (by assumption) ?_
      rotate_left
      · intro wz hSw; (try dsimp only at hSw); go_simp; try with_reducible rfl
      try simp only [Act.put, List.setIfInBounds_toArray, List.set_cons_zero, List.set_cons_succ]
      refine wpAnyH_done (by kernel_rfl) ?_ _
      go_simp
      go_wp2_with fail
      go_ret
      exact ⟨rfl, B_whab11⟩
    exact AllReadyH.nil
  refine AllReadyH.cons (by simp only [List.getElem?_toArray, List.getElem?_cons_succ, List.getElem?_cons_zero]; rfl) (fun K9 hK9 => ?_) ?_
  · have bN := (Below.refl wh5.heap.size wh5).alloc (Nat.le_refl _) (.cells #[.int .i64 3, .int .i64 0, .int .i64 0] 25)
    have qB_whb6 := RowAt.new wh5 25 #[.int .i64 3, .int .i64 0, .int .i64 0]
    have ql_whb6 := ql_wh5.on bN
    have qm_whb6 := qm_wh5.on bN
    have hl_whb6 := hl_wh5.on bN
    have ha_whb6 := ha_wh5.on bN
    have qA_whb6 := qA_wh5.on bN
    have B_whb6 := B_wh5.trans (bN.mono B_wh5.size)
    clear bN ql_wh5 qm_wh5 hl_wh5 ha_wh5 qA_wh5 B_wh5
    go_simp
    clear hHeld
    generalize wh5.alloc (.cells #[.int .i64 3, .int .i64 0, .int .i64 0] 25) = whb6 at *
    obtain ⟨gwhb6, hg9⟩ : ∃ gwhb6, gwhb6 = wh5.heap.size := ⟨_, rfl⟩
    rw [← hg9] at qB_whb6 ⊢
    clear hg9
    refine hK9.out _ _ ⟨qm_whb6.cell 0, qm_whb6.cell 1, qm_whb6.cell 2, ql_whb6.cell 0, ql_whb6.cell 1, ql_whb6.cell 2, ql_whb6.cell 3, ql_whb6.cell 4, ql_whb6.cell 5⟩ (fun hHeld => ?_)
    clear hK9 K9
    try simp only [Act.put, List.setIfInBounds_toArray, List.set_cons_zero, List.set_cons_succ]
    refine wpAnyH_ready (rs := [43]) (by kernel_rfl) (by simp) ?_
    refine AllReadyH.cons (by simp only [List.getElem?_toArray, List.getElem?_cons_succ, List.getElem?_cons_zero]; rfl) (fun K9 hK9 => ?_) AllReadyH.nil
    go_simp
    with_reducible refine (aw13_prune _ _ _ ha_whb6).mono ?_
    rintro e whb7 ⟨Ap, cp, rfl, hp, bN⟩
    have ql_whb7 := ql_whb6.on bN
    have qm_whb7 := qm_whb6.on bN
    have hl_whb7 := hl_whb6.on bN
    have ha_whb7 := ha_whb6.on bN
    have qA_whb7 := qA_whb6.on bN
    have qB_whb7 := qB_whb6.on bN
    have B_whb7 := B_whb6.trans (bN.mono B_whb6.size)
    clear bN ql_whb6 qm_whb6 hl_whb6 ha_whb6 qA_whb6 qB_whb6 B_whb6
    go_simp
    clear hHeld
    refine hK9.out _ _ ⟨qm_whb7.cell 0, qm_whb7.cell 1, qm_whb7.cell 2, ql_whb7.cell 0, ql_whb7.cell 1, ql_whb7.cell 2, ql_whb7.cell 3, ql_whb7.cell 4, ql_whb7.cell 5⟩ (fun hHeld => ?_)
    clear hK9 K9
    try simp only [Act.put, List.setIfInBounds_toArray, List.set_cons_zero, List.set_cons_succ]
    refine wpAnyH_ready (rs := [48]) (by kernel_rfl) (by simp) ?_
    refine AllReadyH.cons (by simp only [List.getElem?_toArray, List.getElem?_cons_succ, List.getElem?_cons_zero]; rfl) (fun K9 hK9 => ?_) AllReadyH.nil
    go_simp
    with_reducible refine (aw13_same _ _ 1 _ _ [(3, 0, 0)] _ rfl (by decide) hp (Mks.row (l := [(3, 0, 0)]) qB_whb7)).mono ?_
    rintro e whb8 ⟨rfl, bN⟩
    have ql_whb8 := ql_whb7.on bN
    have qm_whb8 := qm_whb7.on bN
    have hl_whb8 := hl_whb7.on bN
    have ha_whb8 := ha_whb7.on bN
    have qA_whb8 := qA_whb7.on bN
    have qB_whb8 := qB_whb7.on bN
    have hp_whb8 := hp.on bN
    have B_whb8 := B_whb7.trans (bN.mono B_whb7.size)
    clear bN ql_whb7 qm_whb7 hl_whb7 ha_whb7 qA_whb7 qB_whb7 hp B_whb7
    go_simp
    clear hHeld
    refine hK9.out _ _ ⟨qm_whb8.cell 0, qm_whb8.cell 1, qm_whb8.cell 2, ql_whb8.cell 0, ql_whb8.cell 1, ql_whb8.cell 2, ql_whb8.cell 3, ql_whb8.cell 4, ql_whb8.cell 5⟩ (fun hHeld => ?_)
    clear hK9 K9
    try simp only [Act.put, List.setIfInBounds_toArray, List.set_cons_zero, List.set_cons_succ]
    refine wpAnyH_take (i := 49) (v := ?_) (by simp only [List.getElem?_toArray, List.getElem?_cons_succ, List.getElem?_cons_zero]; rfl) (by kernel_rfl) (by kernel_rfl) (by kernel_rfl) (by exact fun _ _ _ h => h) (Or.inl ⟨rfl, ?_⟩) (by assumption) ?_
    rotate_left
    · intro wz hSw; (try dsimp only at hSw); go_simp; try with_reducible rfl
    try simp only [Act.put, List.setIfInBounds_toArray, List.set_cons_zero, List.set_cons_succ]
    refine wpAnyH_take (i := 50) (v := ?_) (by simp only [List.getElem?_toArray, List.getElem?_cons_succ, List.getElem?_cons_zero]; rfl) (by kernel_rfl) (by kernel_rfl) (by kernel_rfl) (by exact fun _ _ _ h => h) (Or.inl ⟨rfl, ?_⟩) (by assumption) ?_
    rotate_left
    · intro wz hSw; (try dsimp only at hSw); go_simp; try with_reducible rfl
    try simp only [Act.put, List.setIfInBounds_toArray, List.set_cons_zero, List.set_cons_succ]
    refine wpAnyH_take (i := 51) (v := ?_) (by simp only [List.getElem?_toArray, List.getElem?_cons_succ, List.getElem?_cons_zero]; rfl) (by kernel_rfl) (by kernel_rfl) (by kernel_rfl) (by exact fun _ _ _ h => h) (Or.inl ⟨rfl, ?_⟩) (by assumption) ?_
    rotate_left
    · intro wz hSw; (try dsimp only at hSw); go_simp; try with_reducible rfl
    try simp only [Act.put, List.setIfInBounds_toArray, List.set_cons_zero, List.set_cons_succ]
    refine wpAnyH_ready (rs := [52, 53]) (by kernel_rfl) (by simp) ?_
    refine AllReadyH.cons (by simp only [List.getElem?_toArray, List.getElem?_cons_succ, List.getElem?_cons_zero]; rfl) (fun K9 hK9 => ?_) ?_
    · go_simp
      with_reducible refine (aw13_of _ _ _ ha_whb8).mono ?_
      rintro e whba9 ⟨Ao, co, rfl, ho, bN⟩
      have ql_whba9 := ql_whb8.on bN
      have qm_whba9 := qm_whb8.on bN
      have hl_whba9 := hl_whb8.on bN
      have ha_whba9 := ha_whb8.on bN
      have qA_whba9 := qA_whb8.on bN
      have qB_whba9 := qB_whb8.on bN
      have hp_whba9 := hp_whb8.on bN
      have B_whba9 := B_whb8.trans (bN.mono B_whb8.size)
      clear bN ql_whb8 qm_whb8 hl_whb8 ha_whb8 qA_whb8 qB_whb8 hp_whb8 B_whb8
      go_simp
      clear hHeld
      refine hK9.out _ _ ⟨qm_whba9.cell 0, qm_whba9.cell 1, qm_whba9.cell 2, ql_whba9.cell 0, ql_whba9.cell 1, ql_whba9.cell 2, ql_whba9.cell 3, ql_whba9.cell 4, ql_whba9.cell 5⟩ (fun hHeld => ?_)
      clear hK9 K9
      try simp only [Act.put, List.setIfInBounds_toArray, List.set_cons_zero, List.set_cons_succ]
      refine wpAnyH_ready (rs := [53]) (by kernel_rfl) (by simp) ?_
      refine AllReadyH.cons (by simp only [List.getElem?_toArray, List.getElem?_cons_succ, List.getElem?_cons_zero]; rfl) (fun K9 hK9 => ?_) AllReadyH.nil
      have bN := (Below.refl whba9.heap.size whba9).alloc (Nat.le_refl _) (.cells #[.int .i64 4, .int .i64 5] 3)
      have qC_whba10 := RowAt.new whba9 3 #[.int .i64 4, .int .i64 5]
      have ql_whba10 := ql_whba9.on bN
      have qm_whba10 := qm_whba9.on bN
      have hl_whba10 := hl_whba9.on bN
      have ha_whba10 := ha_whba9.on bN
      have qA_whba10 := qA_whba9.on bN
      have qB_whba10 := qB_whba9.on bN
      have hp_whba10 := hp_whba9.on bN
      have ho_whba10 := ho.on bN
      have B_whba10 := B_whba9.trans (bN.mono B_whba9.size)
      clear bN ql_whba9 qm_whba9 hl_whba9 ha_whba9 qA_whba9 qB_whba9 hp_whba9 ho B_whba9
      go_simp
      clear hHeld
      generalize whba9.alloc (.cells #[.int .i64 4, .int .i64 5] 3) = whba10 at *
      obtain ⟨gwhba10, hg9⟩ : ∃ gwhba10, gwhba10 = whba9.heap.size := ⟨_, rfl⟩
      rw [← hg9] at qC_whba10 ⊢
      clear hg9
      refine hK9.out _ _ ⟨qm_whba10.cell 0, qm_whba10.cell 1, qm_whba10.cell 2, ql_whba10.cell 0, ql_whba10.cell 1, ql_whba10.cell 2, ql_whba10.cell 3, ql_whba10.cell 4, ql_whba10.cell 5⟩ (fun hHeld => ?_)
      clear hK9 K9
      try simp only [Act.put, List.setIfInBounds_toArray, List.set_cons_zero, List.set_cons_succ]
      refine wpAnyH_ready (rs := [54]) (by kernel_rfl) (by simp) ?_
      refine AllReadyH.cons (by simp only [List.getElem?_toArray, List.getElem?_cons_succ, List.getElem?_cons_zero]; rfl) (fun K9 hK9 => ?_) AllReadyH.nil
      go_simp
      with_reducible refine (aw13_ints _ _ 2 _ _ [4, 5] _ rfl (by decide) ho_whba10 (Elems.row (enc := Value.int .i64) (xs := [4, 5]) qC_whba10)).mono ?_
      rintro e whba11 ⟨rfl, bN⟩
      have ql_whba11 := ql_whba10.on bN
      have qm_whba11 := qm_whba10.on bN
      have hl_whba11 := hl_whba10.on bN
      have ha_whba11 := ha_whba10.on bN
      have qA_whba11 := qA_whba10.on bN
      have qB_whba11 := qB_whba10.on bN
      have hp_whba11 := hp_whba10.on bN
      have ho_whba11 := ho_whba10.on bN
      have qC_whba11 := qC_whba10.on bN
      have B_whba11 := B_whba10.trans (bN.mono B_whba10.size)
      clear bN ql_whba10 qm_whba10 hl_whba10 ha_whba10 qA_whba10 qB_whba10 hp_whba10 ho_whba10 qC_whba10 B_whba10
      go_simp
      clear hHeld
      refine hK9.out _ _ ⟨qm_whba11.cell 0, qm_whba11.cell 1, qm_whba11.cell 2, ql_whba11.cell 0, ql_whba11.cell 1, ql_whba11.cell 2, ql_whba11.cell 3, ql_whba11.cell 4, ql_whba11.cell 5⟩ (fun hHeld => ?_)
      clear hK9 K9
      try simp only [Act.put, List.setIfInBounds_toArray, List.set_cons_zero, List.set_cons_succ]
      refine wpAnyH_take (i := 55) (v := ?_) (by simp only [List.getElem?_toArray, List.getElem?_cons_succ, List.getElem?_cons_zero]; rfl) (by kernel_rfl) (by kernel_rfl) (by kernel_rfl) (by exact fun _ _ _ h => h) (Or.inl ⟨rfl, ?_⟩) (by assumption) ?_
      rotate_left
      · intro wz hSw; (try dsimp only at hSw); go_simp; try with_reducible rfl
      try simp only [Act.put, List.setIfInBounds_toArray, List.set_cons_zero, List.set_cons_succ]
      refine wpAnyH_take (i := 56) (v := ?_) (by simp only [List.getElem?_toArray, List.getElem?_cons_succ, List.getElem?_cons_zero]; rfl) (by kernel_rfl) (by kernel_rfl) (by kernel_rfl) (by exact fun _ _ _ h => h) (Or.inl ⟨rfl, ?_⟩) (by assumption) ?_
      rotate_left
      · intro wz hSw; (try dsimp only at hSw); go_simp; try with_reducible rfl
      try simp only [Act.put, List.setIfInBounds_toArray, List.set_cons_zero, List.set_cons_succ]
      refine wpAnyH_done (by kernel_rfl) ?_ _
      go_simp
      go_wp2_with fail
      go_ret
      exact ⟨rfl, B_whba11⟩
    refine AllReadyH.cons (by simp only [List.getElem?_toArray, List.getElem?_cons_succ, List.getElem?_cons_zero]; rfl) (fun K9 hK9 => ?_) ?_
    · have bN := (Below.refl whb8.heap.size whb8).alloc (Nat.le_refl _) (.cells #[.int .i64 4, .int .i64 5] 3)
      have qC_whbb9 := RowAt.new whb8 3 #[.int .i64 4, .int .i64 5]
      have ql_whbb9 := ql_whb8.on bN
      have qm_whbb9 := qm_whb8.on bN
      have hl_whbb9 := hl_whb8.on bN
      have ha_whbb9 := ha_whb8.on bN
      have qA_whbb9 := qA_whb8.on bN
      have qB_whbb9 := qB_whb8.on bN
      have hp_whbb9 := hp_whb8.on bN
      have B_whbb9 := B_whb8.trans (bN.mono B_whb8.size)
      clear bN ql_whb8 qm_whb8 hl_whb8 ha_whb8 qA_whb8 qB_whb8 hp_whb8 B_whb8
      go_simp
      clear hHeld
      generalize whb8.alloc (.cells #[.int .i64 4, .int .i64 5] 3) = whbb9 at *
      obtain ⟨gwhbb9, hg9⟩ : ∃ gwhbb9, gwhbb9 = whb8.heap.size := ⟨_, rfl⟩
      rw [← hg9] at qC_whbb9 ⊢
      clear hg9
      refine hK9.out _ _ ⟨qm_whbb9.cell 0, qm_whbb9.cell 1, qm_whbb9.cell 2, ql_whbb9.cell 0, ql_whbb9.cell 1, ql_whbb9.cell 2, ql_whbb9.cell 3, ql_whbb9.cell 4, ql_whbb9.cell 5⟩ (fun hHeld => ?_)
      clear hK9 K9
      try simp only [Act.put, List.setIfInBounds_toArray, List.set_cons_zero, List.set_cons_succ]
      refine wpAnyH_ready (rs := [52]) (by kernel_rfl) (by simp) ?_
      refine AllReadyH.cons (by simp only [List.getElem?_toArray, List.getElem?_cons_succ, List.getElem?_cons_zero]; rfl) (fun K9 hK9 => ?_) AllReadyH.nil
      go_simp
      with_reducible refine (aw13_of _ _ _ ha_whbb9).mono ?_
      rintro e whbb10 ⟨Ao, co, rfl, ho, bN⟩
      have ql_whbb10 := ql_whbb9.on bN
      have qm_whbb10 := qm_whbb9.on bN
      have hl_whbb10 := hl_whbb9.on bN
      have ha_whbb10 := ha_whbb9.on bN
      have qA_whbb10 := qA_whbb9.on bN
      have qB_whbb10 := qB_whbb9.on bN
      have hp_whbb10 := hp_whbb9.on bN
      have qC_whbb10 := qC_whbb9.on bN
      have B_whbb10 := B_whbb9.trans (bN.mono B_whbb9.size)
      clear bN ql_whbb9 qm_whbb9 hl_whbb9 ha_whbb9 qA_whbb9 qB_whbb9 hp_whbb9 qC_whbb9 B_whbb9
      go_simp
      clear hHeld
      refine hK9.out _ _ ⟨qm_whbb10.cell 0, qm_whbb10.cell 1, qm_whbb10.cell 2, ql_whbb10.cell 0, ql_whbb10.cell 1, ql_whbb10.cell 2, ql_whbb10.cell 3, ql_whbb10.cell 4, ql_whbb10.cell 5⟩ (fun hHeld => ?_)
      clear hK9 K9
      try simp only [Act.put, List.setIfInBounds_toArray, List.set_cons_zero, List.set_cons_succ]
      refine wpAnyH_ready (rs := [54]) (by kernel_rfl) (by simp) ?_
      refine AllReadyH.cons (by simp only [List.getElem?_toArray, List.getElem?_cons_succ, List.getElem?_cons_zero]; rfl) (fun K9 hK9 => ?_) AllReadyH.nil
      go_simp
      with_reducible refine (aw13_ints _ _ 2 _ _ [4, 5] _ rfl (by decide) ho (Elems.row (enc := Value.int .i64) (xs := [4, 5]) qC_whbb10)).mono ?_
      rintro e whbb11 ⟨rfl, bN⟩
      have ql_whbb11 := ql_whbb10.on bN
      have qm_whbb11 := qm_whbb10.on bN
      have hl_whbb11 := hl_whbb10.on bN
      have ha_whbb11 := ha_whbb10.on bN
      have qA_whbb11 := qA_whbb10.on bN
      have qB_whbb11 := qB_whbb10.on bN
      have hp_whbb11 := hp_whbb10.on bN
      have qC_whbb11 := qC_whbb10.on bN
      have ho_whbb11 := ho.on bN
      have B_whbb11 := B_whbb10.trans (bN.mono B_whbb10.size)
      clear bN ql_whbb10 qm_whbb10 hl_whbb10 ha_whbb10 qA_whbb10 qB_whbb10 hp_whbb10 qC_whbb10 ho B_whbb10
      go_simp
      clear hHeld
      refine hK9.out _ _ ⟨qm_whbb11.cell 0, qm_whbb11.cell 1, qm_whbb11.cell 2, ql_whbb11.cell 0, ql_whbb11.cell 1, ql_whbb11.cell 2, ql_whbb11.cell 3, ql_whbb11.cell 4, ql_whbb11.cell 5⟩ (fun hHeld => ?_)
      clear hK9 K9
      try simp only [Act.put, List.setIfInBounds_toArray, List.set_cons_zero, List.set_cons_succ]
      refine wpAnyH_take (i := 55) (v := ?_) (by simp only [List.getElem?_toArray, List.getElem?_cons_succ, List.getElem?_cons_zero]; rfl) (by kernel_rfl) (by kernel_rfl) (by kernel_rfl) (by exact fun _ _ _ h => h) (Or.inl ⟨rfl, ?_⟩) (by assumption) ?_
      rotate_left
      · intro wz hSw; (try dsimp only at hSw); go_simp; try with_reducible rfl
      try simp only [Act.put, List.setIfInBounds_toArray, List.set_cons_zero, List.set_cons_succ]
      refine wpAnyH_take (i := 56) (v := ?_) (by simp only [List.getElem?_toArray, List.getElem?_cons_succ, List.getElem?_cons_zero]; rfl) (by kernel_rfl) (by kernel_rfl) (by kernel_rfl) (by exact fun _ _ _ h => h) (Or.inl ⟨rfl, ?_⟩) (by assumption) ?_
      rotate_left
      · intro wz hSw; (try dsimp only at hSw); go_simp; try with_reducible rfl
      try simp only [Act.put, List.setIfInBounds_toArray, List.set_cons_zero, List.set_cons_succ]
      refine wpAnyH_done (by kernel_rfl) ?_ _
      go_simp
      go_wp2_with fail
      go_ret
      exact ⟨rfl, B_whbb11⟩
    exact AllReadyH.nil
  exact AllReadyH.nil
end Go.Proofs.Ytcamhaeelkjigaa
