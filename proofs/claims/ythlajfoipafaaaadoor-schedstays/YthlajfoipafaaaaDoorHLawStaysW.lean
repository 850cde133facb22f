/- The walk of SchedStays. -/
import Derived.Test.YthlajfoipafaaaaDoorSchF
import Derived.OpenShut
namespace Go.Proofs.YthlajfoipafaaaaDoor
open Go.RowKit Go.Lib

set_option maxHeartbeats 4000000 in
set_option maxRecDepth 100000 in
theorem sstays_walk (n0 n1 n2 n3 n4 n5 kp pr ep lt : Int) (U : Nat) (b0 : I64K n0) (b1 : I64K n1) (b2 : I64K n2) (b3 : I64K n3) (b4 : I64K n4) (b5 : I64K n5) (bk : I64K kp) (bp : I64K pr) (be : I64K ep) (bl : I64K lt) (w : World) (hT : Both w) :
    Calls Tryd.prog 4 #[.agg #[.int .i64 n0, .int .i64 n1, .int .i64 n2, .int .i64 n3, .int .i64 n4, .int .i64 n5], .int .u64 (U : Int), .int .i64 kp, .int .i64 pr, .int .i64 ep, .int .i64 lt] w fun o w' => o = .returned (.bool true) ∧ Below w.heap.size w w' := by
  obtain ⟨V, S, C, N, T, D, R, K, G, hfit, cCh⟩ := raw_chain11 n0 n1 n2 n3 n4 n5 b0 b1 b2 b3 b4 b5 3
  obtain ⟨nn1, nn2⟩ : 1 ≤ N ∧ N ≤ 64 := ⟨hfit.n1, hfit.n2⟩
  have q12 := pickS_lt kp 12 (by decide)
  have p9 := pickS_lt pr 9 (by decide)
  obtain ⟨Q, hQ⟩ : ∃ Q, pickS kp 12 = Q := ⟨_, rfl⟩
  obtain ⟨P, hP⟩ : ∃ P, 1 + pickS pr 9 = P := ⟨_, rfl⟩
  have cPl := fun W => Plan_any U Q P kp pr W bk bp hQ hP
  have hQ2 : Q < 12 := by omega
  have p1 : 1 ≤ P := by omega
  have p2 : P ≤ 9 := by omega
  have hpl : FitP Q P := ⟨by omega, p1, by omega⟩
  have hx9 := pickS_lt ep 1073741824 (by decide)
  have cE := fun W => pick11_any ep 1073741824 W be (by decide) (by decide)
  generalize pickS ep 1073741824 = x at *
  clear hQ hP q12 p9
  have hgt := end_gt (U := U) (P := P) (e := x) p1
  have hbn := blk_end (U := U) (P := P) (e := x) p1
  have hen := end_end (U := U) (P := P) (e := x) p1
  obtain ⟨nx, hnx⟩ : ∃ nx, endN U P (blkN U P x) = nx := ⟨_, rfl⟩
  rw [hnx] at hgt hbn hen
  obtain ⟨d, hd⟩ : ∃ d, nx - x = d := ⟨_, rfl⟩
  have hm9 := pickS_lt lt (d : Int) (by omega)
  have cM := fun W => pick11_any lt (d : Int) W bl (by omega) (by omega)
  generalize pickS lt (d : Int) = m at *
  obtain ⟨y, hy⟩ : ∃ y, x + m = y := ⟨_, rfl⟩
  have hby : blkN U P y = blkN U P x := (blk_same p1 (by omega)).2 (by rw [hnx]; omega)
  have i1 : (nx : Int) - (x : Int) = (d : Int) := by omega
  have i2 : IntKind.i64.wrap (d : Int) = (d : Int) := wrap_small (by omega) (by omega)
  have i3 : (x : Int) + (m : Int) = (y : Int) := by omega
  have i4 : IntKind.i64.wrap (y : Int) = (y : Int) := wrap_small (by omega) (by omega)
  have i5 : ((nx : Int) ≤ (x : Int)) = False := eq_false (by omega)
  have i6 : (nx ≤ x) = False := eq_false (by omega)
  obtain ⟨xP, hxP⟩ : ∃ xP, x + P = xP := ⟨_, rfl⟩
  have i7 : (x : Int) + (P : Int) = (xP : Int) := by omega
  have i8 : IntKind.i64.wrap (xP : Int) = (xP : Int) := wrap_small (by omega) (by omega)
  have i9 : ((xP : Int) < (nx : Int)) = False := eq_false (by omega)
  have i10 : (xP < nx) = False := eq_false (by omega)
  obtain ⟨nP, hnP⟩ : ∃ nP, nx + P = nP := ⟨_, rfl⟩
  have i11 : (nx : Int) + (P : Int) = (nP : Int) := by omega
  have i12 : IntKind.i64.wrap (nP : Int) = (nP : Int) := wrap_small (by omega) (by omega)
  obtain ⟨L, hL⟩ : ∃ L, netsI N (firstN N K U (blkN U P x)) Q = L := ⟨_, rfl⟩
  have hL9 : L.length ≤ maxLen := by have := bits8_len N (firstN N K U (blkN U P x)) Q nn2; rw [hL] at this; unfold maxLen; omega
  have hbx : blkN U P x ≤ x + U % P := blk_le
  have hsh : U % P < P := Nat.mod_lt _ (by omega)
  have cA : ∀ W, Both W → Calls Tryd.prog 16 #[.agg #[.int .i64 (V : Int), .int .i64 (S : Int), .int .i64 (C : Int), .int .i64 (N : Int), .int .i64 (T : Int), .int .i64 (D : Int), .int .i64 (R : Int), .int .i64 (K : Int), .int .i64 (G : Int), .int .u64 3], .agg #[.int .u64 (U : Int), .int .i64 (Q : Int), .int .i64 (P : Int)], .int .i64 (x : Int)] W fun o w' => o = .returned (.tuple #[.int .i64 (nx : Int), .int .i64 0]) ∧ Below W.heap.size W w' := fun W hW => by
    have := sNext_yes V S C N T D R K G U Q P x 3 W hfit hpl (by omega) hW
    rwa [hnx] at this
  have cA2 : ∀ W, Both W → Calls Tryd.prog 16 #[.agg #[.int .i64 (V : Int), .int .i64 (S : Int), .int .i64 (C : Int), .int .i64 (N : Int), .int .i64 (T : Int), .int .i64 (D : Int), .int .i64 (R : Int), .int .i64 (K : Int), .int .i64 (G : Int), .int .u64 3], .agg #[.int .u64 (U : Int), .int .i64 (Q : Int), .int .i64 (P : Int)], .int .i64 (y : Int)] W fun o w' => o = .returned (.tuple #[.int .i64 (nx : Int), .int .i64 0]) ∧ Below W.heap.size W w' := fun W hW => by
    have := sNext_yes V S C N T D R K G U Q P y 3 W hfit hpl (by omega) hW
    rwa [hby, hnx] at this
  have cA3 : ∀ W, Both W → Calls Tryd.prog 16 #[.agg #[.int .i64 (V : Int), .int .i64 (S : Int), .int .i64 (C : Int), .int .i64 (N : Int), .int .i64 (T : Int), .int .i64 (D : Int), .int .i64 (R : Int), .int .i64 (K : Int), .int .i64 (G : Int), .int .u64 3], .agg #[.int .u64 (U : Int), .int .i64 (Q : Int), .int .i64 (P : Int)], .int .i64 (nx : Int)] W fun o w' => o = .returned (.tuple #[.int .i64 (nP : Int), .int .i64 0]) ∧ Below W.heap.size W w' := fun W hW => by
    have := sNext_yes V S C N T D R K G U Q P nx 3 W hfit hpl (by omega) hW
    rwa [hen, hnP] at this
  have cB1 : ∀ W, Both W → Calls Tryd.prog 14 #[.agg #[.int .i64 (V : Int), .int .i64 (S : Int), .int .i64 (C : Int), .int .i64 (N : Int), .int .i64 (T : Int), .int .i64 (D : Int), .int .i64 (R : Int), .int .i64 (K : Int), .int .i64 (G : Int), .int .u64 3], .agg #[.int .u64 (U : Int), .int .i64 (Q : Int), .int .i64 (P : Int)], .int .i64 (x : Int)] W fun o w' => ∃ A c, o = .returned (.tuple #[.agg #[.int .i64 (N : Int), .slice A L.length c], .int .i64 0]) ∧ Bt w' (.agg #[.int .i64 (N : Int), .slice A L.length c]) N L ∧ FromOn W.heap.size (.slice A L.length c) ∧ Below W.heap.size W w' := fun W hW =>
    sNets_yes V S C N T D R K G U Q P x 3 W hfit hpl (by omega) hW L hL
  have cB2 : ∀ W, Both W → Calls Tryd.prog 14 #[.agg #[.int .i64 (V : Int), .int .i64 (S : Int), .int .i64 (C : Int), .int .i64 (N : Int), .int .i64 (T : Int), .int .i64 (D : Int), .int .i64 (R : Int), .int .i64 (K : Int), .int .i64 (G : Int), .int .u64 3], .agg #[.int .u64 (U : Int), .int .i64 (Q : Int), .int .i64 (P : Int)], .int .i64 (y : Int)] W fun o w' => ∃ A c, o = .returned (.tuple #[.agg #[.int .i64 (N : Int), .slice A L.length c], .int .i64 0]) ∧ Bt w' (.agg #[.int .i64 (N : Int), .slice A L.length c]) N L ∧ FromOn W.heap.size (.slice A L.length c) ∧ Below W.heap.size W w' := fun W hW =>
    sNets_yes V S C N T D R K G U Q P y 3 W hfit hpl (by omega) hW L (by rw [hby]; exact hL)
  obtain ⟨wd, hwd⟩ : ∃ wd, wordN N (firstN N K U (blkN U P x)) Q = wd := ⟨_, rfl⟩
  obtain ⟨wd2, hwd2⟩ : ∃ wd2, wordN N (firstN N K U (blkN U P nx)) Q = wd2 := ⟨_, rfl⟩
  obtain ⟨pl, hpl0⟩ : ∃ pl, plainW 0 = pl := ⟨_, rfl⟩
  obtain ⟨Bk, hBk⟩ : ∃ Bk, blkN U P x + 1 = Bk := ⟨_, rfl⟩
  obtain ⟨Bn, hBn⟩ : ∃ Bn, blkN U P nx + 1 = Bn := ⟨_, rfl⟩
  have j1 : (Bk : Int) + 1 = (Bn : Int) := by omega
  have j2 : IntKind.u64.wrap (Bn : Int) = (Bn : Int) := IntWalk.u64_in _ (by omega)
  have cR1 : ∀ W, Both W → Calls Tryd.prog 18 #[.agg #[.int .i64 (V : Int), .int .i64 (S : Int), .int .i64 (C : Int), .int .i64 (N : Int), .int .i64 (T : Int), .int .i64 (D : Int), .int .i64 (R : Int), .int .i64 (K : Int), .int .i64 (G : Int), .int .u64 3], .agg #[.int .u64 (U : Int), .int .i64 (Q : Int), .int .i64 (P : Int)], .int .i64 (x : Int), .int .u64 0] W fun o w' => o = .returned (.tuple #[.agg #[.int .u64 (Bk : Int), .int .u64 (wd : Int), .int .u64 (pl : Int)], .int .i64 0]) ∧ Below W.heap.size W w' := fun W hW => by
    have := sRecord_yes V S C N T D R K G U Q P x 0 3 W hfit hpl (by omega) hW (by decide)
    rw [hwd, hBk, hpl0] at this
    exact this
  have cR2 : ∀ W, Both W → Calls Tryd.prog 18 #[.agg #[.int .i64 (V : Int), .int .i64 (S : Int), .int .i64 (C : Int), .int .i64 (N : Int), .int .i64 (T : Int), .int .i64 (D : Int), .int .i64 (R : Int), .int .i64 (K : Int), .int .i64 (G : Int), .int .u64 3], .agg #[.int .u64 (U : Int), .int .i64 (Q : Int), .int .i64 (P : Int)], .int .i64 (y : Int), .int .u64 0] W fun o w' => o = .returned (.tuple #[.agg #[.int .u64 (Bk : Int), .int .u64 (wd : Int), .int .u64 (pl : Int)], .int .i64 0]) ∧ Below W.heap.size W w' := fun W hW => by
    have := sRecord_yes V S C N T D R K G U Q P y 0 3 W hfit hpl (by omega) hW (by decide)
    rw [hby, hwd, hBk, hpl0] at this
    exact this
  have cR3 : ∀ W, Both W → Calls Tryd.prog 18 #[.agg #[.int .i64 (V : Int), .int .i64 (S : Int), .int .i64 (C : Int), .int .i64 (N : Int), .int .i64 (T : Int), .int .i64 (D : Int), .int .i64 (R : Int), .int .i64 (K : Int), .int .i64 (G : Int), .int .u64 3], .agg #[.int .u64 (U : Int), .int .i64 (Q : Int), .int .i64 (P : Int)], .int .i64 (nx : Int), .int .u64 0] W fun o w' => o = .returned (.tuple #[.agg #[.int .u64 (Bn : Int), .int .u64 (wd2 : Int), .int .u64 (pl : Int)], .int .i64 0]) ∧ Below W.heap.size W w' := fun W hW => by
    have := sRecord_yes V S C N T D R K G U Q P nx 0 3 W hfit hpl (by omega) hW (by decide)
    rw [hwd2, hBn, hpl0] at this
    exact this
  have hSm : sameB (N : Int) L (N : Int) L = true := by simp [sameB]
  clear hwd hwd2 hpl0 hBk hBn hL hnx hbn hen hgt hby hy hd hxP hnP hbx hm9 hx9 hsh hfit hpl
  have B0 := Below.refl w.heap.size w
  go_enter Tryd.func4, Tryd.ntmps4
  go_upto_region 1 with (fail)
  have q6 := RowAt.new w 27 #[.int .i64 n0, .int .i64 n1, .int .i64 n2, .int .i64 n3, .int .i64 n4, .int .i64 n5]
  have bN := (Below.refl w.heap.size w).alloc (Nat.le_refl _) (.cells #[.int .i64 n0, .int .i64 n1, .int .i64 n2, .int .i64 n3, .int .i64 n4, .int .i64 n5] 27)
  replace hT := hT.on bN
  replace B0 := B0.trans (bN.mono B0.size)
  clear bN
  generalize w.alloc (.cells #[.int .i64 n0, .int .i64 n1, .int .i64 n2, .int .i64 n3, .int .i64 n4, .int .i64 n5] 27) = v1_ at *
  obtain ⟨g6, hg9⟩ : ∃ g6, g6 = w.heap.size := ⟨_, rfl⟩
  rw [← hg9] at q6 ⊢
  clear hg9
  go_wp2_with fail
  with_reducible refine (awake11_any _ hT).mono ?_
  rintro o v2_ ⟨rfl, bN⟩
  replace q6 := q6.on bN
  replace hT := hT.on bN
  replace B0 := B0.trans (bN.mono B0.size)
  clear bN
  have q6_ := q6.cell
  have q6_0 := q6_ 0
  have q6_1 := q6_ 1
  have q6_2 := q6_ 2
  have q6_3 := q6_ 3
  have q6_4 := q6_ 4
  have q6_5 := q6_ 5
  simp only [List.getElem?_cons_zero, List.getElem?_cons_succ] at q6_0 q6_1 q6_2 q6_3 q6_4 q6_5
  clear q6_
  go_wp2_with fail
  with_reducible refine (cCh _).mono ?_
  rintro o v3_ ⟨rfl, bN⟩
  clear q6_0 q6_1 q6_2 q6_3 q6_4 q6_5
  replace q6 := q6.on bN
  replace hT := hT.on bN
  replace B0 := B0.trans (bN.mono B0.size)
  clear bN
  clear cCh q6
  go_upto_region 3 with (fail)
  have qc := RowAt.new v3_ 24 #[.int .i64 (V : Int), .int .i64 (S : Int), .int .i64 (C : Int), .int .i64 (N : Int), .int .i64 (T : Int), .int .i64 (D : Int), .int .i64 (R : Int), .int .i64 (K : Int), .int .i64 (G : Int), .int .u64 3]
  have bN := (Below.refl v3_.heap.size v3_).alloc (Nat.le_refl _) (.cells #[.int .i64 (V : Int), .int .i64 (S : Int), .int .i64 (C : Int), .int .i64 (N : Int), .int .i64 (T : Int), .int .i64 (D : Int), .int .i64 (R : Int), .int .i64 (K : Int), .int .i64 (G : Int), .int .u64 3] 24)
  replace hT := hT.on bN
  replace B0 := B0.trans (bN.mono B0.size)
  clear bN
  generalize v3_.alloc (.cells #[.int .i64 (V : Int), .int .i64 (S : Int), .int .i64 (C : Int), .int .i64 (N : Int), .int .i64 (T : Int), .int .i64 (D : Int), .int .i64 (R : Int), .int .i64 (K : Int), .int .i64 (G : Int), .int .u64 3] 24) = v4_ at *
  obtain ⟨gC, hg9⟩ : ∃ gC, gC = v3_.heap.size := ⟨_, rfl⟩
  rw [← hg9] at qc ⊢
  clear hg9
  go_wp2_with fail
  with_reducible refine (cPl _).mono ?_
  rintro o v5_ ⟨rfl, bN⟩
  replace qc := qc.on bN
  replace hT := hT.on bN
  replace B0 := B0.trans (bN.mono B0.size)
  clear bN
  clear cPl
  go_upto_region 4 with (fail)
  have qp := RowAt.new v5_ 26 #[.int .u64 (U : Int), .int .i64 (Q : Int), .int .i64 (P : Int)]
  have bN := (Below.refl v5_.heap.size v5_).alloc (Nat.le_refl _) (.cells #[.int .u64 (U : Int), .int .i64 (Q : Int), .int .i64 (P : Int)] 26)
  replace qc := qc.on bN
  replace hT := hT.on bN
  replace B0 := B0.trans (bN.mono B0.size)
  clear bN
  generalize v5_.alloc (.cells #[.int .u64 (U : Int), .int .i64 (Q : Int), .int .i64 (P : Int)] 26) = v6_ at *
  obtain ⟨gP, hg9⟩ : ∃ gP, gP = v5_.heap.size := ⟨_, rfl⟩
  rw [← hg9] at qp ⊢
  clear hg9
  go_wp2_with fail
  with_reducible refine (cE _).mono ?_
  rintro o v7_ ⟨rfl, rfl⟩
  have qc_ := qc.cell
  have qc_0 := qc_ 0
  have qc_1 := qc_ 1
  have qc_2 := qc_ 2
  have qc_3 := qc_ 3
  have qc_4 := qc_ 4
  have qc_5 := qc_ 5
  have qc_6 := qc_ 6
  have qc_7 := qc_ 7
  have qc_8 := qc_ 8
  have qc_9 := qc_ 9
  simp only [List.getElem?_cons_zero, List.getElem?_cons_succ] at qc_0 qc_1 qc_2 qc_3 qc_4 qc_5 qc_6 qc_7 qc_8 qc_9
  clear qc_
  have qp_ := qp.cell
  have qp_0 := qp_ 0
  have qp_1 := qp_ 1
  have qp_2 := qp_ 2
  simp only [List.getElem?_cons_zero, List.getElem?_cons_succ] at qp_0 qp_1 qp_2
  clear qp_
  go_wp2_with fail
  with_reducible refine (cA _ hT).mono ?_
  rintro o v8_ ⟨rfl, bN⟩
  clear qc_0 qc_1 qc_2 qc_3 qc_4 qc_5 qc_6 qc_7 qc_8 qc_9 qp_0 qp_1 qp_2
  replace qc := qc.on bN
  replace qp := qp.on bN
  replace hT := hT.on bN
  replace B0 := B0.trans (bN.mono B0.size)
  clear bN
  have qp_ := qp.cell
  have qp_0 := qp_ 0
  have qp_1 := qp_ 1
  have qp_2 := qp_ 2
  simp only [List.getElem?_cons_zero, List.getElem?_cons_succ] at qp_0 qp_1 qp_2
  clear qp_
  go_wp2_with fail
  with_reducible refine (cM _).mono ?_
  rintro o v9_ ⟨rfl, rfl⟩
  clear qp_0 qp_1 qp_2
  have qc_ := qc.cell
  have qc_0 := qc_ 0
  have qc_1 := qc_ 1
  have qc_2 := qc_ 2
  have qc_3 := qc_ 3
  have qc_4 := qc_ 4
  have qc_5 := qc_ 5
  have qc_6 := qc_ 6
  have qc_7 := qc_ 7
  have qc_8 := qc_ 8
  have qc_9 := qc_ 9
  simp only [List.getElem?_cons_zero, List.getElem?_cons_succ] at qc_0 qc_1 qc_2 qc_3 qc_4 qc_5 qc_6 qc_7 qc_8 qc_9
  clear qc_
  have qp_ := qp.cell
  have qp_0 := qp_ 0
  have qp_1 := qp_ 1
  have qp_2 := qp_ 2
  simp only [List.getElem?_cons_zero, List.getElem?_cons_succ] at qp_0 qp_1 qp_2
  clear qp_
  go_wp2_with fail
  with_reducible refine (cB1 _ hT).mono ?_
  rintro o v10_ ⟨A20, c20, rfl, hB1, _, bN⟩
  clear qc_0 qc_1 qc_2 qc_3 qc_4 qc_5 qc_6 qc_7 qc_8 qc_9 qp_0 qp_1 qp_2
  replace qc := qc.on bN
  replace qp := qp.on bN
  replace hT := hT.on bN
  replace B0 := B0.trans (bN.mono B0.size)
  clear bN
  go_upto_region 10 with (fail)
  have q20 := RowAt.new v10_ 37 #[.int .i64 (N : Int), .slice A20 L.length c20]
  have bN := (Below.refl v10_.heap.size v10_).alloc (Nat.le_refl _) (.cells #[.int .i64 (N : Int), .slice A20 L.length c20] 37)
  replace qc := qc.on bN
  replace qp := qp.on bN
  replace hB1 := hB1.on bN
  replace hT := hT.on bN
  replace B0 := B0.trans (bN.mono B0.size)
  clear bN
  generalize v10_.alloc (.cells #[.int .i64 (N : Int), .slice A20 L.length c20] 37) = v11_ at *
  obtain ⟨g20, hg9⟩ : ∃ g20, g20 = v10_.heap.size := ⟨_, rfl⟩
  rw [← hg9] at q20 ⊢
  clear hg9
  have qc_ := qc.cell
  have qc_0 := qc_ 0
  have qc_1 := qc_ 1
  have qc_2 := qc_ 2
  have qc_3 := qc_ 3
  have qc_4 := qc_ 4
  have qc_5 := qc_ 5
  have qc_6 := qc_ 6
  have qc_7 := qc_ 7
  have qc_8 := qc_ 8
  have qc_9 := qc_ 9
  simp only [List.getElem?_cons_zero, List.getElem?_cons_succ] at qc_0 qc_1 qc_2 qc_3 qc_4 qc_5 qc_6 qc_7 qc_8 qc_9
  clear qc_
  have qp_ := qp.cell
  have qp_0 := qp_ 0
  have qp_1 := qp_ 1
  have qp_2 := qp_ 2
  simp only [List.getElem?_cons_zero, List.getElem?_cons_succ] at qp_0 qp_1 qp_2
  clear qp_
  go_wp2_with fail
  with_reducible refine (cB2 _ hT).mono ?_
  rintro o v12_ ⟨A22, c22, rfl, hB2, _, bN⟩
  clear qc_0 qc_1 qc_2 qc_3 qc_4 qc_5 qc_6 qc_7 qc_8 qc_9 qp_0 qp_1 qp_2
  replace qc := qc.on bN
  replace qp := qp.on bN
  replace q20 := q20.on bN
  replace hB1 := hB1.on bN
  replace hT := hT.on bN
  replace B0 := B0.trans (bN.mono B0.size)
  clear bN
  go_upto_region 11 with (fail)
  have q22 := RowAt.new v12_ 37 #[.int .i64 (N : Int), .slice A22 L.length c22]
  have bN := (Below.refl v12_.heap.size v12_).alloc (Nat.le_refl _) (.cells #[.int .i64 (N : Int), .slice A22 L.length c22] 37)
  replace qc := qc.on bN
  replace qp := qp.on bN
  replace q20 := q20.on bN
  replace hB1 := hB1.on bN
  replace hB2 := hB2.on bN
  replace hT := hT.on bN
  replace B0 := B0.trans (bN.mono B0.size)
  clear bN
  generalize v12_.alloc (.cells #[.int .i64 (N : Int), .slice A22 L.length c22] 37) = v13_ at *
  obtain ⟨g22, hg9⟩ : ∃ g22, g22 = v12_.heap.size := ⟨_, rfl⟩
  rw [← hg9] at q22 ⊢
  clear hg9
  have qc_ := qc.cell
  have qc_0 := qc_ 0
  have qc_1 := qc_ 1
  have qc_2 := qc_ 2
  have qc_3 := qc_ 3
  have qc_4 := qc_ 4
  have qc_5 := qc_ 5
  have qc_6 := qc_ 6
  have qc_7 := qc_ 7
  have qc_8 := qc_ 8
  have qc_9 := qc_ 9
  simp only [List.getElem?_cons_zero, List.getElem?_cons_succ] at qc_0 qc_1 qc_2 qc_3 qc_4 qc_5 qc_6 qc_7 qc_8 qc_9
  clear qc_
  have qp_ := qp.cell
  have qp_0 := qp_ 0
  have qp_1 := qp_ 1
  have qp_2 := qp_ 2
  simp only [List.getElem?_cons_zero, List.getElem?_cons_succ] at qp_0 qp_1 qp_2
  clear qp_
  go_wp2_with fail
  with_reducible refine (cR1 _ hT).mono ?_
  rintro o v14_ ⟨rfl, bN⟩
  clear qc_0 qc_1 qc_2 qc_3 qc_4 qc_5 qc_6 qc_7 qc_8 qc_9 qp_0 qp_1 qp_2
  replace qc := qc.on bN
  replace qp := qp.on bN
  replace q20 := q20.on bN
  replace q22 := q22.on bN
  replace hB1 := hB1.on bN
  replace hB2 := hB2.on bN
  replace hT := hT.on bN
  replace B0 := B0.trans (bN.mono B0.size)
  clear bN
  go_upto_region 12 with (fail)
  have q24 := RowAt.new v14_ 44 #[.int .u64 (Bk : Int), .int .u64 (wd : Int), .int .u64 (pl : Int)]
  have bN := (Below.refl v14_.heap.size v14_).alloc (Nat.le_refl _) (.cells #[.int .u64 (Bk : Int), .int .u64 (wd : Int), .int .u64 (pl : Int)] 44)
  replace qc := qc.on bN
  replace qp := qp.on bN
  replace q20 := q20.on bN
  replace q22 := q22.on bN
  replace hB1 := hB1.on bN
  replace hB2 := hB2.on bN
  replace hT := hT.on bN
  replace B0 := B0.trans (bN.mono B0.size)
  clear bN
  generalize v14_.alloc (.cells #[.int .u64 (Bk : Int), .int .u64 (wd : Int), .int .u64 (pl : Int)] 44) = v15_ at *
  obtain ⟨g24, hg9⟩ : ∃ g24, g24 = v14_.heap.size := ⟨_, rfl⟩
  rw [← hg9] at q24 ⊢
  clear hg9
  have qc_ := qc.cell
  have qc_0 := qc_ 0
  have qc_1 := qc_ 1
  have qc_2 := qc_ 2
  have qc_3 := qc_ 3
  have qc_4 := qc_ 4
  have qc_5 := qc_ 5
  have qc_6 := qc_ 6
  have qc_7 := qc_ 7
  have qc_8 := qc_ 8
  have qc_9 := qc_ 9
  simp only [List.getElem?_cons_zero, List.getElem?_cons_succ] at qc_0 qc_1 qc_2 qc_3 qc_4 qc_5 qc_6 qc_7 qc_8 qc_9
  clear qc_
  have qp_ := qp.cell
  have qp_0 := qp_ 0
  have qp_1 := qp_ 1
  have qp_2 := qp_ 2
  simp only [List.getElem?_cons_zero, List.getElem?_cons_succ] at qp_0 qp_1 qp_2
  clear qp_
  go_wp2_with fail
  with_reducible refine (cR2 _ hT).mono ?_
  rintro o v16_ ⟨rfl, bN⟩
  clear qc_0 qc_1 qc_2 qc_3 qc_4 qc_5 qc_6 qc_7 qc_8 qc_9 qp_0 qp_1 qp_2
  replace qc := qc.on bN
  replace qp := qp.on bN
  replace q20 := q20.on bN
  replace q22 := q22.on bN
  replace q24 := q24.on bN
  replace hB1 := hB1.on bN
  replace hB2 := hB2.on bN
  replace hT := hT.on bN
  replace B0 := B0.trans (bN.mono B0.size)
  clear bN
  go_upto_region 13 with (fail)
  have q26 := RowAt.new v16_ 44 #[.int .u64 (Bk : Int), .int .u64 (wd : Int), .int .u64 (pl : Int)]
  have bN := (Below.refl v16_.heap.size v16_).alloc (Nat.le_refl _) (.cells #[.int .u64 (Bk : Int), .int .u64 (wd : Int), .int .u64 (pl : Int)] 44)
  replace qc := qc.on bN
  replace qp := qp.on bN
  replace q20 := q20.on bN
  replace q22 := q22.on bN
  replace q24 := q24.on bN
  replace hB1 := hB1.on bN
  replace hB2 := hB2.on bN
  replace hT := hT.on bN
  replace B0 := B0.trans (bN.mono B0.size)
  clear bN
  generalize v16_.alloc (.cells #[.int .u64 (Bk : Int), .int .u64 (wd : Int), .int .u64 (pl : Int)] 44) = v17_ at *
  obtain ⟨g26, hg9⟩ : ∃ g26, g26 = v16_.heap.size := ⟨_, rfl⟩
  rw [← hg9] at q26 ⊢
  clear hg9
  have qc_ := qc.cell
  have qc_0 := qc_ 0
  have qc_1 := qc_ 1
  have qc_2 := qc_ 2
  have qc_3 := qc_ 3
  have qc_4 := qc_ 4
  have qc_5 := qc_ 5
  have qc_6 := qc_ 6
  have qc_7 := qc_ 7
  have qc_8 := qc_ 8
  have qc_9 := qc_ 9
  simp only [List.getElem?_cons_zero, List.getElem?_cons_succ] at qc_0 qc_1 qc_2 qc_3 qc_4 qc_5 qc_6 qc_7 qc_8 qc_9
  clear qc_
  have qp_ := qp.cell
  have qp_0 := qp_ 0
  have qp_1 := qp_ 1
  have qp_2 := qp_ 2
  simp only [List.getElem?_cons_zero, List.getElem?_cons_succ] at qp_0 qp_1 qp_2
  clear qp_
  go_wp2_with fail
  with_reducible refine (cR3 _ hT).mono ?_
  rintro o v18_ ⟨rfl, bN⟩
  clear qc_0 qc_1 qc_2 qc_3 qc_4 qc_5 qc_6 qc_7 qc_8 qc_9 qp_0 qp_1 qp_2
  replace qc := qc.on bN
  replace qp := qp.on bN
  replace q20 := q20.on bN
  replace q22 := q22.on bN
  replace q24 := q24.on bN
  replace q26 := q26.on bN
  replace hB1 := hB1.on bN
  replace hB2 := hB2.on bN
  replace hT := hT.on bN
  replace B0 := B0.trans (bN.mono B0.size)
  clear bN
  go_upto_region 14 with (fail)
  have q28 := RowAt.new v18_ 44 #[.int .u64 (Bn : Int), .int .u64 (wd2 : Int), .int .u64 (pl : Int)]
  have bN := (Below.refl v18_.heap.size v18_).alloc (Nat.le_refl _) (.cells #[.int .u64 (Bn : Int), .int .u64 (wd2 : Int), .int .u64 (pl : Int)] 44)
  replace qc := qc.on bN
  replace qp := qp.on bN
  replace q20 := q20.on bN
  replace q22 := q22.on bN
  replace q24 := q24.on bN
  replace q26 := q26.on bN
  replace hB1 := hB1.on bN
  replace hB2 := hB2.on bN
  replace hT := hT.on bN
  replace B0 := B0.trans (bN.mono B0.size)
  clear bN
  generalize v18_.alloc (.cells #[.int .u64 (Bn : Int), .int .u64 (wd2 : Int), .int .u64 (pl : Int)] 44) = v19_ at *
  obtain ⟨g28, hg9⟩ : ∃ g28, g28 = v18_.heap.size := ⟨_, rfl⟩
  rw [← hg9] at q28 ⊢
  clear hg9
  have qc_ := qc.cell
  have qc_0 := qc_ 0
  have qc_1 := qc_ 1
  have qc_2 := qc_ 2
  have qc_3 := qc_ 3
  have qc_4 := qc_ 4
  have qc_5 := qc_ 5
  have qc_6 := qc_ 6
  have qc_7 := qc_ 7
  have qc_8 := qc_ 8
  have qc_9 := qc_ 9
  simp only [List.getElem?_cons_zero, List.getElem?_cons_succ] at qc_0 qc_1 qc_2 qc_3 qc_4 qc_5 qc_6 qc_7 qc_8 qc_9
  clear qc_
  have qp_ := qp.cell
  have qp_0 := qp_ 0
  have qp_1 := qp_ 1
  have qp_2 := qp_ 2
  simp only [List.getElem?_cons_zero, List.getElem?_cons_succ] at qp_0 qp_1 qp_2
  clear qp_
  go_wp2_with fail
  with_reducible refine (cA2 _ hT).mono ?_
  rintro o v20_ ⟨rfl, bN⟩
  clear qc_0 qc_1 qc_2 qc_3 qc_4 qc_5 qc_6 qc_7 qc_8 qc_9 qp_0 qp_1 qp_2
  replace qc := qc.on bN
  replace qp := qp.on bN
  replace q20 := q20.on bN
  replace q22 := q22.on bN
  replace q24 := q24.on bN
  replace q26 := q26.on bN
  replace q28 := q28.on bN
  replace hB1 := hB1.on bN
  replace hB2 := hB2.on bN
  replace hT := hT.on bN
  replace B0 := B0.trans (bN.mono B0.size)
  clear bN
  have qc_ := qc.cell
  have qc_0 := qc_ 0
  have qc_1 := qc_ 1
  have qc_2 := qc_ 2
  have qc_3 := qc_ 3
  have qc_4 := qc_ 4
  have qc_5 := qc_ 5
  have qc_6 := qc_ 6
  have qc_7 := qc_ 7
  have qc_8 := qc_ 8
  have qc_9 := qc_ 9
  simp only [List.getElem?_cons_zero, List.getElem?_cons_succ] at qc_0 qc_1 qc_2 qc_3 qc_4 qc_5 qc_6 qc_7 qc_8 qc_9
  clear qc_
  have qp_ := qp.cell
  have qp_0 := qp_ 0
  have qp_1 := qp_ 1
  have qp_2 := qp_ 2
  simp only [List.getElem?_cons_zero, List.getElem?_cons_succ] at qp_0 qp_1 qp_2
  clear qp_
  go_wp2_with fail
  with_reducible refine (cA3 _ hT).mono ?_
  rintro o v21_ ⟨rfl, bN⟩
  clear qc_0 qc_1 qc_2 qc_3 qc_4 qc_5 qc_6 qc_7 qc_8 qc_9 qp_0 qp_1 qp_2
  replace qc := qc.on bN
  replace qp := qp.on bN
  replace q20 := q20.on bN
  replace q22 := q22.on bN
  replace q24 := q24.on bN
  replace q26 := q26.on bN
  replace q28 := q28.on bN
  replace hB1 := hB1.on bN
  replace hB2 := hB2.on bN
  replace hT := hT.on bN
  replace B0 := B0.trans (bN.mono B0.size)
  clear bN
  have hS := Same_any _ _ (N : Int) (N : Int) L L _ hB1 hB2 hL9 hL9
  rw [hSm] at hS
  have q20_ := q20.cell
  have q20_0 := q20_ 0
  have q20_1 := q20_ 1
  simp only [List.getElem?_cons_zero, List.getElem?_cons_succ] at q20_0 q20_1
  clear q20_
  have q22_ := q22.cell
  have q22_0 := q22_ 0
  have q22_1 := q22_ 1
  simp only [List.getElem?_cons_zero, List.getElem?_cons_succ] at q22_0 q22_1
  clear q22_
  go_wp2_with fail
  with_reducible refine (hS).mono ?_
  rintro o v22_ ⟨rfl, bN⟩
  clear q20_0 q20_1 q22_0 q22_1
  replace qc := qc.on bN
  replace qp := qp.on bN
  replace q20 := q20.on bN
  replace q22 := q22.on bN
  replace q24 := q24.on bN
  replace q26 := q26.on bN
  replace q28 := q28.on bN
  replace hB1 := hB1.on bN
  replace hB2 := hB2.on bN
  replace hT := hT.on bN
  replace B0 := B0.trans (bN.mono B0.size)
  clear bN
  have q24_ := q24.cell
  have q24_0 := q24_ 0
  have q24_1 := q24_ 1
  have q24_2 := q24_ 2
  simp only [List.getElem?_cons_zero, List.getElem?_cons_succ] at q24_0 q24_1 q24_2
  clear q24_
  have q26_ := q26.cell
  have q26_0 := q26_ 0
  have q26_1 := q26_ 1
  have q26_2 := q26_ 2
  simp only [List.getElem?_cons_zero, List.getElem?_cons_succ] at q26_0 q26_1 q26_2
  clear q26_
  have q28_ := q28.cell
  have q28_0 := q28_ 0
  have q28_1 := q28_ 1
  have q28_2 := q28_ 2
  simp only [List.getElem?_cons_zero, List.getElem?_cons_succ] at q28_0 q28_1 q28_2
  clear q28_
  have qp_ := qp.cell
  have qp_0 := qp_ 0
  have qp_1 := qp_ 1
  have qp_2 := qp_ 2
  simp only [List.getElem?_cons_zero, List.getElem?_cons_succ] at qp_0 qp_1 qp_2
  clear qp_
  go_wp2_with fail
  go_ret
  exact ⟨rfl, B0⟩
theorem sstays_calls {n0 n1 n2 n3 n4 n5 : Int} (b0 : I64K n0) (b1 : I64K n1) (b2 : I64K n2) (b3 : I64K n3) (b4 : I64K n4) (b5 : I64K n5) (a1 : Int) (w1 : (Lit.int .u64 a1).wf = true) (a2 : Int) (w2 : (Lit.int .i64 a2).wf = true) (a3 : Int) (w3 : (Lit.int .i64 a3).wf = true) (a4 : Int) (w4 : (Lit.int .i64 a4).wf = true) (a5 : Int) (w5 : (Lit.int .i64 a5).wf = true) (w : World) (hT : Both w) :
    Calls Tryd.prog 4 #[.agg #[.int .i64 n0, .int .i64 n1, .int .i64 n2, .int .i64 n3, .int .i64 n4, .int .i64 n5], .int .u64 a1, .int .i64 a2, .int .i64 a3, .int .i64 a4, .int .i64 a5] w fun o w' => o = .returned (.bool true) ∧ Below w.heap.size w w' := by
  have h1 := bounds_u64 w1
  obtain ⟨k1, rfl⟩ := Int.eq_ofNat_of_zero_le h1.1
  exact sstays_walk n0 n1 n2 n3 n4 n5 a2 a3 a4 a5 k1 b0 b1 b2 b3 b4 b5 (bounds_i64 w2) (bounds_i64 w3) (bounds_i64 w4) (bounds_i64 w5) w hT
end Go.Proofs.YthlajfoipafaaaaDoor
