/- The walk of SchedAll. -/
import Derived.Test.YthlajfoipafaaaaDoorSchF
import Derived.OpenShut
import Derived.Test.YthlajfoipafaaaaDoorRegU
namespace Go.Proofs.YthlajfoipafaaaaDoor
open Go.RowKit Go.Lib

theorem raw_chain11N (n0 n1 n2 n3 n4 n5 : Int) (b0 : I64K n0) (b1 : I64K n1) (b2 : I64K n2) (b3 : I64K n3) (b4 : I64K n4) (b5 : I64K n5) (z : Int) : ∃ V S C N T D R K G : Nat, FitD V S C N T D R K G ∧ N ≤ 9 ∧
    ∀ w, Calls Tryd.prog 9 #[.agg #[.int .i64 n0, .int .i64 n1, .int .i64 n2, .int .i64 n3, .int .i64 n4, .int .i64 n5], .int .u64 z] w fun o w' => o = .returned (.agg #[.int .i64 (V : Int), .int .i64 (S : Int), .int .i64 (C : Int), .int .i64 (N : Int), .int .i64 (T : Int), .int .i64 (D : Int), .int .i64 (R : Int), .int .i64 (K : Int), .int .i64 (G : Int), .int .u64 z]) ∧ Below w.heap.size w w' := by
  obtain ⟨v, s, c, n, t, d, r, k, g, hc⟩ := chain_of n0 n1 n2 n3 n4 n5
  have hN := hc.small.N
  obtain ⟨V, S, C, N, T, D, R, K, G, rfl, rfl, rfl, rfl, rfl, rfl, rfl, rfl, rfl, hf⟩ := fit_nat hc.small.fits
  exact ⟨V, S, C, N, T, D, R, K, G, hf, by omega, fun w => Chain_any hc z w b0 b1 b2 b3 b4 b5⟩

set_option maxHeartbeats 8000000 in
set_option maxRecDepth 100000 in
theorem sall_walk (n0 n1 n2 n3 n4 n5 kp pr ep : Int) (U : Nat) (b0 : I64K n0) (b1 : I64K n1) (b2 : I64K n2) (b3 : I64K n3) (b4 : I64K n4) (b5 : I64K n5) (bk : I64K kp) (bp : I64K pr) (be : I64K ep) (w : World) (hT : Both w) :
    Calls Tryd.prog 7 #[.agg #[.int .i64 n0, .int .i64 n1, .int .i64 n2, .int .i64 n3, .int .i64 n4, .int .i64 n5], .int .u64 (U : Int), .int .i64 kp, .int .i64 pr, .int .i64 ep] w fun o w' => o = .returned (.bool true) ∧ Below w.heap.size w w' := by
  obtain ⟨V, S, C, N, T, D, R, K, G, hfit, hN9, cCh⟩ := raw_chain11N n0 n1 n2 n3 n4 n5 b0 b1 b2 b3 b4 b5 3
  obtain ⟨nn1, nn2⟩ : 1 ≤ N ∧ N ≤ 64 := ⟨hfit.n1, hfit.n2⟩
  have q12 := pickS_lt kp 12 (by decide)
  have p9 := pickS_lt pr 9 (by decide)
  obtain ⟨Q, hQ⟩ : ∃ Q, pickS kp 12 = Q := ⟨_, rfl⟩
  obtain ⟨P, hP⟩ : ∃ P, 1 + pickS pr 9 = P := ⟨_, rfl⟩
  have cPl := fun W => Plan_any U Q P kp pr W bk bp hQ hP
  have hQ2 : Q < 12 := by omega
  have p1 : 1 ≤ P := by omega
  have p2 : P ≤ 9 := by omega
  have hpl : FitP Q P := ⟨by omega, p1, by omega⟩
  have hx9 := pickS_lt ep 1073741824 (by decide)
  have cE := fun W => pick11_any ep 1073741824 W be (by decide) (by decide)
  generalize pickS ep 1073741824 = x at *
  clear hQ hP q12 p9
  have hf9 := firstN_lt N K U (blkN U P x) nn1
  have h50 := pickS_lt kp 50 (by decide)
  have cF := fun W => pick11_any kp 50 W bk (by decide) (by decide)
  generalize pickS kp 50 = p50 at *
  obtain ⟨NA, hNA⟩ : ∃ NA, N + p50 = NA := ⟨_, rfl⟩
  have i1 : (N : Int) + (p50 : Int) = (NA : Int) := by omega
  have i2 : IntKind.i64.wrap (NA : Int) = (NA : Int) := wrap_small (by omega) (by omega)
  obtain ⟨Q1, hQ1⟩ : ∃ Q1, Q + 1 = Q1 := ⟨_, rfl⟩
  have i3 : (Q : Int) + 1 = (Q1 : Int) := by omega
  have i4 : IntKind.i64.wrap (Q1 : Int) = (Q1 : Int) := wrap_small (by omega) (by omega)
  obtain ⟨LA, hLA⟩ : ∃ L, netsI N (firstN N K U (blkN U P x)) NA = L := ⟨_, rfl⟩
  obtain ⟨L0, hL0⟩ : ∃ L, netsI N (firstN N K U (blkN U P x)) 0 = L := ⟨_, rfl⟩
  obtain ⟨LQ, hLQ⟩ : ∃ L, netsI N (firstN N K U (blkN U P x)) Q = L := ⟨_, rfl⟩
  obtain ⟨LM, hLM⟩ : ∃ L, netsI N (firstN N K U (blkN U P x)) Q1 = L := ⟨_, rfl⟩
  have hsub1 := netsI_sub (N := N) (f := firstN N K U (blkN U P x)) (k := Q) (m := Q1) (by omega) (.inl (by omega))
  have hsub2 := netsI_sub (N := N) (f := firstN N K U (blkN U P x)) (k := Q1) (m := NA) (by omega) (.inr (by omega))
  obtain ⟨m1, hm1⟩ : ∃ m1, min Q N = m1 := ⟨_, rfl⟩
  obtain ⟨m2, hm2⟩ : ∃ m2, min Q1 N = m2 := ⟨_, rfl⟩
  have hlA : LA.length = N := by have := netsI_len hf9 NA; rw [hLA] at this; omega
  have hl0 : L0.length = 0 := by have := netsI_len hf9 0; rw [hL0] at this; omega
  have hlQ : LQ.length = m1 := by have := netsI_len hf9 Q; rw [hLQ] at this; omega
  have hlM : LM.length = m2 := by have := netsI_len hf9 Q1; rw [hLM] at this; omega
  have i5 : min ((m1 : Int) + 1) (N : Int) = (m2 : Int) := by omega
  have i6 : IntKind.i64.wrap ((m1 : Int) + 1) = (m1 : Int) + 1 := wrap_small (by omega) (by omega)
  rw [hLQ, hLM] at hsub1
  rw [hLM, hLA] at hsub2
  have cA : ∀ W, Both W → Calls Tryd.prog 14 #[.agg #[.int .i64 (V : Int), .int .i64 (S : Int), .int .i64 (C : Int), .int .i64 (N : Int), .int .i64 (T : Int), .int .i64 (D : Int), .int .i64 (R : Int), .int .i64 (K : Int), .int .i64 (G : Int), .int .u64 3], .agg #[.int .u64 (U : Int), .int .i64 (NA : Int), .int .i64 (P : Int)], .int .i64 (x : Int)] W fun o w' => ∃ A c, o = .returned (.tuple #[.agg #[.int .i64 (N : Int), .slice A N c], .int .i64 0]) ∧ Bt w' (.agg #[.int .i64 (N : Int), .slice A N c]) N LA ∧ FromOn W.heap.size (.slice A N c) ∧ Below W.heap.size W w' := fun W hW => by
    have := sNets_yes V S C N T D R K G U NA P x 3 W hfit ⟨by omega, p1, by omega⟩ (by omega) hW LA hLA
    rw [hlA] at this; exact this
  have c0 : ∀ W, Both W → Calls Tryd.prog 14 #[.agg #[.int .i64 (V : Int), .int .i64 (S : Int), .int .i64 (C : Int), .int .i64 (N : Int), .int .i64 (T : Int), .int .i64 (D : Int), .int .i64 (R : Int), .int .i64 (K : Int), .int .i64 (G : Int), .int .u64 3], .agg #[.int .u64 (U : Int), .int .i64 0, .int .i64 (P : Int)], .int .i64 (x : Int)] W fun o w' => ∃ A c, o = .returned (.tuple #[.agg #[.int .i64 (N : Int), .slice A 0 c], .int .i64 0]) ∧ Bt w' (.agg #[.int .i64 (N : Int), .slice A 0 c]) N L0 ∧ FromOn W.heap.size (.slice A 0 c) ∧ Below W.heap.size W w' := fun W hW => by
    have := sNets_yes V S C N T D R K G U 0 P x 3 W hfit ⟨by omega, p1, by omega⟩ (by omega) hW L0 hL0
    rw [hl0] at this; exact this
  have cQ : ∀ W, Both W → Calls Tryd.prog 14 #[.agg #[.int .i64 (V : Int), .int .i64 (S : Int), .int .i64 (C : Int), .int .i64 (N : Int), .int .i64 (T : Int), .int .i64 (D : Int), .int .i64 (R : Int), .int .i64 (K : Int), .int .i64 (G : Int), .int .u64 3], .agg #[.int .u64 (U : Int), .int .i64 (Q : Int), .int .i64 (P : Int)], .int .i64 (x : Int)] W fun o w' => ∃ A c, o = .returned (.tuple #[.agg #[.int .i64 (N : Int), .slice A m1 c], .int .i64 0]) ∧ Bt w' (.agg #[.int .i64 (N : Int), .slice A m1 c]) N LQ ∧ FromOn W.heap.size (.slice A m1 c) ∧ Below W.heap.size W w' := fun W hW => by
    have := sNets_yes V S C N T D R K G U Q P x 3 W hfit hpl (by omega) hW LQ hLQ
    rw [hlQ] at this; exact this
  have cM : ∀ W, Both W → Calls Tryd.prog 14 #[.agg #[.int .i64 (V : Int), .int .i64 (S : Int), .int .i64 (C : Int), .int .i64 (N : Int), .int .i64 (T : Int), .int .i64 (D : Int), .int .i64 (R : Int), .int .i64 (K : Int), .int .i64 (G : Int), .int .u64 3], .agg #[.int .u64 (U : Int), .int .i64 (Q1 : Int), .int .i64 (P : Int)], .int .i64 (x : Int)] W fun o w' => ∃ A c, o = .returned (.tuple #[.agg #[.int .i64 (N : Int), .slice A m2 c], .int .i64 0]) ∧ Bt w' (.agg #[.int .i64 (N : Int), .slice A m2 c]) N LM ∧ FromOn W.heap.size (.slice A m2 c) ∧ Below W.heap.size W w' := fun W hW => by
    have := sNets_yes V S C N T D R K G U Q1 P x 3 W hfit ⟨by omega, p1, by omega⟩ (by omega) hW LM hLM
    rw [hlM] at this; exact this
  have H9 := Lib.hid (show LA.length ≤ maxLen ∧ LQ.length ≤ maxLen ∧ LM.length ≤ maxLen by unfold maxLen; omega)
  clear hLA hL0 hLQ hLM hlA hl0 hlQ hlM hm1 hm2 hfit hpl hf9 h50 hNA hQ1
  have B0 := Below.refl w.heap.size w
  go_enter Tryd.func7, Tryd.ntmps7
  go_upto_region 1 with (fail)
  have q6 := RowAt.new w 27 #[.int .i64 n0, .int .i64 n1, .int .i64 n2, .int .i64 n3, .int .i64 n4, .int .i64 n5]
  have bN := (Below.refl w.heap.size w).alloc (Nat.le_refl _) (.cells #[.int .i64 n0, .int .i64 n1, .int .i64 n2, .int .i64 n3, .int .i64 n4, .int .i64 n5] 27)
  replace hT := hT.on bN
  replace B0 := B0.trans (bN.mono B0.size)
  clear bN
  generalize w.alloc (.cells #[.int .i64 n0, .int .i64 n1, .int .i64 n2, .int .i64 n3, .int .i64 n4, .int .i64 n5] 27) = v1_ at *
  obtain ⟨g6, hg9⟩ : ∃ g6, g6 = w.heap.size := ⟨_, rfl⟩
  rw [← hg9] at q6 ⊢
  clear hg9
  go_wp2_with fail
  with_reducible refine (awake11_any _ hT).mono ?_
  rintro o v2_ ⟨rfl, bN⟩
  replace q6 := q6.on bN
  replace hT := hT.on bN
  replace B0 := B0.trans (bN.mono B0.size)
  clear bN
  have q6_ := q6.cell
  have q6_0 := q6_ 0
  have q6_1 := q6_ 1
  have q6_2 := q6_ 2
  have q6_3 := q6_ 3
  have q6_4 := q6_ 4
  have q6_5 := q6_ 5
  simp only [List.getElem?_cons_zero, List.getElem?_cons_succ] at q6_0 q6_1 q6_2 q6_3 q6_4 q6_5
  clear q6_
  go_wp2_with fail
  with_reducible refine (cCh _).mono ?_
  rintro o v3_ ⟨rfl, bN⟩
  clear q6_0 q6_1 q6_2 q6_3 q6_4 q6_5
  replace q6 := q6.on bN
  replace hT := hT.on bN
  replace B0 := B0.trans (bN.mono B0.size)
  clear bN
  clear cCh q6
  go_upto_region 3 with (fail)
  have qc := RowAt.new v3_ 24 #[.int .i64 (V : Int), .int .i64 (S : Int), .int .i64 (C : Int), .int .i64 (N : Int), .int .i64 (T : Int), .int .i64 (D : Int), .int .i64 (R : Int), .int .i64 (K : Int), .int .i64 (G : Int), .int .u64 3]
  have bN := (Below.refl v3_.heap.size v3_).alloc (Nat.le_refl _) (.cells #[.int .i64 (V : Int), .int .i64 (S : Int), .int .i64 (C : Int), .int .i64 (N : Int), .int .i64 (T : Int), .int .i64 (D : Int), .int .i64 (R : Int), .int .i64 (K : Int), .int .i64 (G : Int), .int .u64 3] 24)
  replace hT := hT.on bN
  replace B0 := B0.trans (bN.mono B0.size)
  clear bN
  generalize v3_.alloc (.cells #[.int .i64 (V : Int), .int .i64 (S : Int), .int .i64 (C : Int), .int .i64 (N : Int), .int .i64 (T : Int), .int .i64 (D : Int), .int .i64 (R : Int), .int .i64 (K : Int), .int .i64 (G : Int), .int .u64 3] 24) = v4_ at *
  obtain ⟨gC, hg9⟩ : ∃ gC, gC = v3_.heap.size := ⟨_, rfl⟩
  rw [← hg9] at qc ⊢
  clear hg9
  go_wp2_with fail
  with_reducible refine (cPl _).mono ?_
  rintro o v5_ ⟨rfl, bN⟩
  replace qc := qc.on bN
  replace hT := hT.on bN
  replace B0 := B0.trans (bN.mono B0.size)
  clear bN
  clear cPl
  go_upto_region 4 with (fail)
  have qp := RowAt.new v5_ 26 #[.int .u64 (U : Int), .int .i64 (Q : Int), .int .i64 (P : Int)]
  have bN := (Below.refl v5_.heap.size v5_).alloc (Nat.le_refl _) (.cells #[.int .u64 (U : Int), .int .i64 (Q : Int), .int .i64 (P : Int)] 26)
  replace qc := qc.on bN
  replace hT := hT.on bN
  replace B0 := B0.trans (bN.mono B0.size)
  clear bN
  generalize v5_.alloc (.cells #[.int .u64 (U : Int), .int .i64 (Q : Int), .int .i64 (P : Int)] 26) = v6_ at *
  obtain ⟨gP, hg9⟩ : ∃ gP, gP = v5_.heap.size := ⟨_, rfl⟩
  rw [← hg9] at qp ⊢
  clear hg9
  go_wp2_with fail
  with_reducible refine (cE _).mono ?_
  rintro o v7_ ⟨rfl, rfl⟩
  have qp_ := qp.cell
  have qp_0 := qp_ 0
  have qp_1 := qp_ 1
  have qp_2 := qp_ 2
  simp only [List.getElem?_cons_zero, List.getElem?_cons_succ] at qp_0 qp_1 qp_2
  clear qp_
  go_upto_region 6 with (fail)
  clear qp_0 qp_1 qp_2
  have qA := RowAt.new v6_ 26 #[.int .u64 (U : Int), .int .i64 (Q : Int), .int .i64 (P : Int)]
  have bA := (Below.refl v6_.heap.size v6_).alloc (Nat.le_refl _) (.cells #[.int .u64 (U : Int), .int .i64 (Q : Int), .int .i64 (P : Int)] 26)
  generalize v6_.alloc (.cells #[.int .u64 (U : Int), .int .i64 (Q : Int), .int .i64 (P : Int)] 26) = v8_ at *
  have qcA := qc.on bA
  have y3 := qcA.laterT 3 _ rfl
  have HF := fun p : LaterT v8_ => laterT_same (cF p.W)
  refine wp_region_later_tail0 5 2 (by kernel_rfl) (by kernel_rfl) ?_
  simp only [List.take_succ_cons, List.take_zero]
  repeat (go_big_quiet_step (first | (go_at_call 13; with_reducible exact HF _)))
  refine wpQuiet_nil ?_
  intro w' hw'
  obtain ⟨pq, rfl⟩ := hw'
  have bq := pq.h
  replace qA := qA.on bq
  replace bA := bA.trans (bq.mono bA.size)
  generalize pq.W = w9 at *
  clear HF y3 qcA cF bq pq
  simp only [List.drop_succ_cons, List.drop_zero, List.take_succ_cons, List.take_zero]
  have f1 := qA.frozen 1
  have d1 := qA.cell 1
  simp only [List.getElem?_cons_zero, List.getElem?_cons_succ] at d1
  go_upto_region 7 with (fail)
  clear f1 d1
  have bS := bA.setCell (p := ⟨v6_.heap.size, 1, none⟩) (Nat.le_refl _) (.int .i64 (NA : Int))
  replace qA := qA.set 1 (.int .i64 (NA : Int))
  simp only [List.set_cons_zero, List.set_cons_succ] at qA
  replace qc := qc.on bS
  replace qp := qp.on bS
  replace hT := hT.on bS
  replace B0 := B0.trans (bS.mono B0.size)
  generalize w9.setCell ⟨v6_.heap.size, 1, none⟩ (.int .i64 (NA : Int)) = v9_ at *
  obtain ⟨gA, hg9⟩ : ∃ g, g = v6_.heap.size := ⟨_, rfl⟩
  rw [← hg9] at qA ⊢
  clear hg9 bA bS
  have ltP := qp.lt
  have qp_ := qp.cell
  have qp_0 := qp_ 0
  have qp_1 := qp_ 1
  have qp_2 := qp_ 2
  simp only [List.getElem?_cons_zero, List.getElem?_cons_succ] at qp_0 qp_1 qp_2
  clear qp_
  go_upto_region 8 with (fail)
  clear qp_0 qp_1 qp_2
  have qN := RowAt.new v9_ 26 #[.int .u64 (U : Int), .int .i64 (Q : Int), .int .i64 (P : Int)]
  have bA := (Below.refl v9_.heap.size v9_).alloc (Nat.le_refl _) (.cells #[.int .u64 (U : Int), .int .i64 (Q : Int), .int .i64 (P : Int)] 26)
  generalize v9_.alloc (.cells #[.int .u64 (U : Int), .int .i64 (Q : Int), .int .i64 (P : Int)] 26) = v10_ at *
  replace qp := qp.on bA
  have xp := qp.cell 1
  simp only [List.getElem?_cons_zero, List.getElem?_cons_succ] at xp
  have f1 := qN.frozen 1
  have d1 := qN.cell 1
  simp only [List.getElem?_cons_zero, List.getElem?_cons_succ] at d1
  go_upto_region 9 with (fail)
  clear f1 d1 xp
  have bS := bA.setCell (p := ⟨v9_.heap.size, 1, none⟩) (Nat.le_refl _) (.int .i64 0)
  replace qN := qN.set 1 (.int .i64 0)
  simp only [List.set_cons_zero, List.set_cons_succ] at qN
  replace qp := qp.far (p := ⟨v9_.heap.size, 1, none⟩) (by have := ltP; intro e; simp at e; omega) (.int .i64 0)
  replace qc := qc.on bS
  replace qA := qA.on bS
  replace hT := hT.on bS
  replace B0 := B0.trans (bS.mono B0.size)
  generalize v10_.setCell ⟨v9_.heap.size, 1, none⟩ (.int .i64 0) = v11_ at *
  obtain ⟨gN, hg9⟩ : ∃ g, g = v9_.heap.size := ⟨_, rfl⟩
  rw [← hg9] at qN ⊢
  clear hg9 bA bS
  replace ltP := qp.lt
  have qp_ := qp.cell
  have qp_0 := qp_ 0
  have qp_1 := qp_ 1
  have qp_2 := qp_ 2
  simp only [List.getElem?_cons_zero, List.getElem?_cons_succ] at qp_0 qp_1 qp_2
  clear qp_
  go_upto_region 10 with (fail)
  clear qp_0 qp_1 qp_2
  have qM := RowAt.new v11_ 26 #[.int .u64 (U : Int), .int .i64 (Q : Int), .int .i64 (P : Int)]
  have bA := (Below.refl v11_.heap.size v11_).alloc (Nat.le_refl _) (.cells #[.int .u64 (U : Int), .int .i64 (Q : Int), .int .i64 (P : Int)] 26)
  generalize v11_.alloc (.cells #[.int .u64 (U : Int), .int .i64 (Q : Int), .int .i64 (P : Int)] 26) = v12_ at *
  replace qp := qp.on bA
  have xp := qp.cell 1
  simp only [List.getElem?_cons_zero, List.getElem?_cons_succ] at xp
  have f1 := qM.frozen 1
  have d1 := qM.cell 1
  simp only [List.getElem?_cons_zero, List.getElem?_cons_succ] at d1
  go_upto_region 11 with (fail)
  clear f1 d1 xp
  have bS := bA.setCell (p := ⟨v11_.heap.size, 1, none⟩) (Nat.le_refl _) (.int .i64 (Q1 : Int))
  replace qM := qM.set 1 (.int .i64 (Q1 : Int))
  simp only [List.set_cons_zero, List.set_cons_succ] at qM
  replace qp := qp.far (p := ⟨v11_.heap.size, 1, none⟩) (by have := ltP; intro e; simp at e; omega) (.int .i64 (Q1 : Int))
  replace qc := qc.on bS
  replace qA := qA.on bS
  replace qN := qN.on bS
  replace hT := hT.on bS
  replace B0 := B0.trans (bS.mono B0.size)
  generalize v12_.setCell ⟨v11_.heap.size, 1, none⟩ (.int .i64 (Q1 : Int)) = v13_ at *
  obtain ⟨gM, hg9⟩ : ∃ g, g = v11_.heap.size := ⟨_, rfl⟩
  rw [← hg9] at qM ⊢
  clear hg9 bA bS
  clear ltP
  have qc_ := qc.cell
  have qc_0 := qc_ 0
  have qc_1 := qc_ 1
  have qc_2 := qc_ 2
  have qc_3 := qc_ 3
  have qc_4 := qc_ 4
  have qc_5 := qc_ 5
  have qc_6 := qc_ 6
  have qc_7 := qc_ 7
  have qc_8 := qc_ 8
  have qc_9 := qc_ 9
  simp only [List.getElem?_cons_zero, List.getElem?_cons_succ] at qc_0 qc_1 qc_2 qc_3 qc_4 qc_5 qc_6 qc_7 qc_8 qc_9
  clear qc_
  have qA_ := qA.cell
  have qA_0 := qA_ 0
  have qA_1 := qA_ 1
  have qA_2 := qA_ 2
  simp only [List.getElem?_cons_zero, List.getElem?_cons_succ] at qA_0 qA_1 qA_2
  clear qA_
  go_wp2_with fail
  with_reducible refine (cA _ hT).mono ?_
  rintro o v14_ ⟨A18, c18, rfl, hA, _, bN⟩
  clear qc_0 qc_1 qc_2 qc_3 qc_4 qc_5 qc_6 qc_7 qc_8 qc_9 qA_0 qA_1 qA_2
  replace qc := qc.on bN
  replace qp := qp.on bN
  replace qA := qA.on bN
  replace qN := qN.on bN
  replace qM := qM.on bN
  replace hT := hT.on bN
  replace B0 := B0.trans (bN.mono B0.size)
  clear bN
  go_upto_region 12 with (fail)
  have q18 := RowAt.new v14_ 37 #[.int .i64 (N : Int), .slice A18 N c18]
  have bN := (Below.refl v14_.heap.size v14_).alloc (Nat.le_refl _) (.cells #[.int .i64 (N : Int), .slice A18 N c18] 37)
  replace qc := qc.on bN
  replace qp := qp.on bN
  replace qA := qA.on bN
  replace qN := qN.on bN
  replace qM := qM.on bN
  replace hA := hA.on bN
  replace hT := hT.on bN
  replace B0 := B0.trans (bN.mono B0.size)
  clear bN
  generalize v14_.alloc (.cells #[.int .i64 (N : Int), .slice A18 N c18] 37) = v15_ at *
  obtain ⟨g18, hg9⟩ : ∃ g18, g18 = v14_.heap.size := ⟨_, rfl⟩
  rw [← hg9] at q18 ⊢
  clear hg9
  have qc_ := qc.cell
  have qc_0 := qc_ 0
  have qc_1 := qc_ 1
  have qc_2 := qc_ 2
  have qc_3 := qc_ 3
  have qc_4 := qc_ 4
  have qc_5 := qc_ 5
  have qc_6 := qc_ 6
  have qc_7 := qc_ 7
  have qc_8 := qc_ 8
  have qc_9 := qc_ 9
  simp only [List.getElem?_cons_zero, List.getElem?_cons_succ] at qc_0 qc_1 qc_2 qc_3 qc_4 qc_5 qc_6 qc_7 qc_8 qc_9
  clear qc_
  have qN_ := qN.cell
  have qN_0 := qN_ 0
  have qN_1 := qN_ 1
  have qN_2 := qN_ 2
  simp only [List.getElem?_cons_zero, List.getElem?_cons_succ] at qN_0 qN_1 qN_2
  clear qN_
  go_wp2_with fail
  with_reducible refine (c0 _ hT).mono ?_
  rintro o v16_ ⟨A20, c20, rfl, h0, _, bN⟩
  clear qc_0 qc_1 qc_2 qc_3 qc_4 qc_5 qc_6 qc_7 qc_8 qc_9 qN_0 qN_1 qN_2
  replace qc := qc.on bN
  replace qp := qp.on bN
  replace qA := qA.on bN
  replace qN := qN.on bN
  replace qM := qM.on bN
  replace q18 := q18.on bN
  replace hA := hA.on bN
  replace hT := hT.on bN
  replace B0 := B0.trans (bN.mono B0.size)
  clear bN
  go_upto_region 13 with (fail)
  have q20 := RowAt.new v16_ 37 #[.int .i64 (N : Int), .slice A20 0 c20]
  have bN := (Below.refl v16_.heap.size v16_).alloc (Nat.le_refl _) (.cells #[.int .i64 (N : Int), .slice A20 0 c20] 37)
  replace qc := qc.on bN
  replace qp := qp.on bN
  replace qA := qA.on bN
  replace qN := qN.on bN
  replace qM := qM.on bN
  replace q18 := q18.on bN
  replace hA := hA.on bN
  replace h0 := h0.on bN
  replace hT := hT.on bN
  replace B0 := B0.trans (bN.mono B0.size)
  clear bN
  generalize v16_.alloc (.cells #[.int .i64 (N : Int), .slice A20 0 c20] 37) = v17_ at *
  obtain ⟨g20, hg9⟩ : ∃ g20, g20 = v16_.heap.size := ⟨_, rfl⟩
  rw [← hg9] at q20 ⊢
  clear hg9
  have qc_ := qc.cell
  have qc_0 := qc_ 0
  have qc_1 := qc_ 1
  have qc_2 := qc_ 2
  have qc_3 := qc_ 3
  have qc_4 := qc_ 4
  have qc_5 := qc_ 5
  have qc_6 := qc_ 6
  have qc_7 := qc_ 7
  have qc_8 := qc_ 8
  have qc_9 := qc_ 9
  simp only [List.getElem?_cons_zero, List.getElem?_cons_succ] at qc_0 qc_1 qc_2 qc_3 qc_4 qc_5 qc_6 qc_7 qc_8 qc_9
  clear qc_
  have qp_ := qp.cell
  have qp_0 := qp_ 0
  have qp_1 := qp_ 1
  have qp_2 := qp_ 2
  simp only [List.getElem?_cons_zero, List.getElem?_cons_succ] at qp_0 qp_1 qp_2
  clear qp_
  go_wp2_with fail
  with_reducible refine (cQ _ hT).mono ?_
  rintro o v18_ ⟨A22, c22, rfl, hQ, _, bN⟩
  clear qc_0 qc_1 qc_2 qc_3 qc_4 qc_5 qc_6 qc_7 qc_8 qc_9 qp_0 qp_1 qp_2
  replace qc := qc.on bN
  replace qp := qp.on bN
  replace qA := qA.on bN
  replace qN := qN.on bN
  replace qM := qM.on bN
  replace q18 := q18.on bN
  replace q20 := q20.on bN
  replace hA := hA.on bN
  replace h0 := h0.on bN
  replace hT := hT.on bN
  replace B0 := B0.trans (bN.mono B0.size)
  clear bN
  go_upto_region 14 with (fail)
  have q22 := RowAt.new v18_ 37 #[.int .i64 (N : Int), .slice A22 m1 c22]
  have bN := (Below.refl v18_.heap.size v18_).alloc (Nat.le_refl _) (.cells #[.int .i64 (N : Int), .slice A22 m1 c22] 37)
  replace qc := qc.on bN
  replace qp := qp.on bN
  replace qA := qA.on bN
  replace qN := qN.on bN
  replace qM := qM.on bN
  replace q18 := q18.on bN
  replace q20 := q20.on bN
  replace hA := hA.on bN
  replace h0 := h0.on bN
  replace hQ := hQ.on bN
  replace hT := hT.on bN
  replace B0 := B0.trans (bN.mono B0.size)
  clear bN
  generalize v18_.alloc (.cells #[.int .i64 (N : Int), .slice A22 m1 c22] 37) = v19_ at *
  obtain ⟨g22, hg9⟩ : ∃ g22, g22 = v18_.heap.size := ⟨_, rfl⟩
  rw [← hg9] at q22 ⊢
  clear hg9
  have qc_ := qc.cell
  have qc_0 := qc_ 0
  have qc_1 := qc_ 1
  have qc_2 := qc_ 2
  have qc_3 := qc_ 3
  have qc_4 := qc_ 4
  have qc_5 := qc_ 5
  have qc_6 := qc_ 6
  have qc_7 := qc_ 7
  have qc_8 := qc_ 8
  have qc_9 := qc_ 9
  simp only [List.getElem?_cons_zero, List.getElem?_cons_succ] at qc_0 qc_1 qc_2 qc_3 qc_4 qc_5 qc_6 qc_7 qc_8 qc_9
  clear qc_
  have qM_ := qM.cell
  have qM_0 := qM_ 0
  have qM_1 := qM_ 1
  have qM_2 := qM_ 2
  simp only [List.getElem?_cons_zero, List.getElem?_cons_succ] at qM_0 qM_1 qM_2
  clear qM_
  go_wp2_with fail
  with_reducible refine (cM _ hT).mono ?_
  rintro o v20_ ⟨A24, c24, rfl, hM, _, bN⟩
  clear qc_0 qc_1 qc_2 qc_3 qc_4 qc_5 qc_6 qc_7 qc_8 qc_9 qM_0 qM_1 qM_2
  replace qc := qc.on bN
  replace qp := qp.on bN
  replace qA := qA.on bN
  replace qN := qN.on bN
  replace qM := qM.on bN
  replace q18 := q18.on bN
  replace q20 := q20.on bN
  replace q22 := q22.on bN
  replace hA := hA.on bN
  replace h0 := h0.on bN
  replace hQ := hQ.on bN
  replace hT := hT.on bN
  replace B0 := B0.trans (bN.mono B0.size)
  clear bN
  go_upto_region 15 with (fail)
  have q24 := RowAt.new v20_ 37 #[.int .i64 (N : Int), .slice A24 m2 c24]
  have bN := (Below.refl v20_.heap.size v20_).alloc (Nat.le_refl _) (.cells #[.int .i64 (N : Int), .slice A24 m2 c24] 37)
  replace qc := qc.on bN
  replace qp := qp.on bN
  replace qA := qA.on bN
  replace qN := qN.on bN
  replace qM := qM.on bN
  replace q18 := q18.on bN
  replace q20 := q20.on bN
  replace q22 := q22.on bN
  replace hA := hA.on bN
  replace h0 := h0.on bN
  replace hQ := hQ.on bN
  replace hM := hM.on bN
  replace hT := hT.on bN
  replace B0 := B0.trans (bN.mono B0.size)
  clear bN
  generalize v20_.alloc (.cells #[.int .i64 (N : Int), .slice A24 m2 c24] 37) = v21_ at *
  obtain ⟨g24, hg9⟩ : ∃ g24, g24 = v20_.heap.size := ⟨_, rfl⟩
  rw [← hg9] at q24 ⊢
  clear hg9
  have hS1 := Subset_eq _ _ (N : Int) (N : Int) LQ LM _ true hsub1 hQ hM H9.out.2.1 H9.out.2.2
  have q18_ := q18.cell
  have q18_0 := q18_ 0
  have q18_1 := q18_ 1
  simp only [List.getElem?_cons_zero, List.getElem?_cons_succ] at q18_0 q18_1
  clear q18_
  have q20_ := q20.cell
  have q20_0 := q20_ 0
  have q20_1 := q20_ 1
  simp only [List.getElem?_cons_zero, List.getElem?_cons_succ] at q20_0 q20_1
  clear q20_
  have q22_ := q22.cell
  have q22_0 := q22_ 0
  have q22_1 := q22_ 1
  simp only [List.getElem?_cons_zero, List.getElem?_cons_succ] at q22_0 q22_1
  clear q22_
  have q24_ := q24.cell
  have q24_0 := q24_ 0
  have q24_1 := q24_ 1
  simp only [List.getElem?_cons_zero, List.getElem?_cons_succ] at q24_0 q24_1
  clear q24_
  have qc_ := qc.cell
  have qc_0 := qc_ 0
  have qc_1 := qc_ 1
  have qc_2 := qc_ 2
  have qc_3 := qc_ 3
  have qc_4 := qc_ 4
  have qc_5 := qc_ 5
  have qc_6 := qc_ 6
  have qc_7 := qc_ 7
  have qc_8 := qc_ 8
  have qc_9 := qc_ 9
  simp only [List.getElem?_cons_zero, List.getElem?_cons_succ] at qc_0 qc_1 qc_2 qc_3 qc_4 qc_5 qc_6 qc_7 qc_8 qc_9
  clear qc_
  go_wp2_with fail
  with_reducible refine (hS1).mono ?_
  rintro o v22_ ⟨rfl, bN⟩
  clear q18_0 q18_1 q20_0 q20_1 q22_0 q22_1 q24_0 q24_1 qc_0 qc_1 qc_2 qc_3 qc_4 qc_5 qc_6 qc_7 qc_8 qc_9
  replace qc := qc.on bN
  replace qp := qp.on bN
  replace qA := qA.on bN
  replace qN := qN.on bN
  replace qM := qM.on bN
  replace q18 := q18.on bN
  replace q20 := q20.on bN
  replace q22 := q22.on bN
  replace q24 := q24.on bN
  replace hA := hA.on bN
  replace h0 := h0.on bN
  replace hQ := hQ.on bN
  replace hM := hM.on bN
  replace hT := hT.on bN
  replace B0 := B0.trans (bN.mono B0.size)
  clear bN
  have hS2 := Subset_eq _ _ (N : Int) (N : Int) LM LA _ true hsub2 hM hA H9.out.2.2 H9.out.1
  have q18_ := q18.cell
  have q18_0 := q18_ 0
  have q18_1 := q18_ 1
  simp only [List.getElem?_cons_zero, List.getElem?_cons_succ] at q18_0 q18_1
  clear q18_
  have q22_ := q22.cell
  have q22_0 := q22_ 0
  have q22_1 := q22_ 1
  simp only [List.getElem?_cons_zero, List.getElem?_cons_succ] at q22_0 q22_1
  clear q22_
  have q24_ := q24.cell
  have q24_0 := q24_ 0
  have q24_1 := q24_ 1
  simp only [List.getElem?_cons_zero, List.getElem?_cons_succ] at q24_0 q24_1
  clear q24_
  have qc_ := qc.cell
  have qc_0 := qc_ 0
  have qc_1 := qc_ 1
  have qc_2 := qc_ 2
  have qc_3 := qc_ 3
  have qc_4 := qc_ 4
  have qc_5 := qc_ 5
  have qc_6 := qc_ 6
  have qc_7 := qc_ 7
  have qc_8 := qc_ 8
  have qc_9 := qc_ 9
  simp only [List.getElem?_cons_zero, List.getElem?_cons_succ] at qc_0 qc_1 qc_2 qc_3 qc_4 qc_5 qc_6 qc_7 qc_8 qc_9
  clear qc_
  go_wp2_with fail
  with_reducible refine (hS2).mono ?_
  rintro o v23_ ⟨rfl, bN⟩
  clear q18_0 q18_1 q22_0 q22_1 q24_0 q24_1 qc_0 qc_1 qc_2 qc_3 qc_4 qc_5 qc_6 qc_7 qc_8 qc_9
  replace qc := qc.on bN
  replace qp := qp.on bN
  replace qA := qA.on bN
  replace qN := qN.on bN
  replace qM := qM.on bN
  replace q18 := q18.on bN
  replace q20 := q20.on bN
  replace q22 := q22.on bN
  replace q24 := q24.on bN
  replace hA := hA.on bN
  replace h0 := h0.on bN
  replace hQ := hQ.on bN
  replace hM := hM.on bN
  replace hT := hT.on bN
  replace B0 := B0.trans (bN.mono B0.size)
  clear bN
  go_wp2_with fail
  go_ret
  exact ⟨rfl, B0⟩
theorem sall_calls {n0 n1 n2 n3 n4 n5 : Int} (b0 : I64K n0) (b1 : I64K n1) (b2 : I64K n2) (b3 : I64K n3) (b4 : I64K n4) (b5 : I64K n5) (a1 : Int) (w1 : (Lit.int .u64 a1).wf = true) (a2 : Int) (w2 : (Lit.int .i64 a2).wf = true) (a3 : Int) (w3 : (Lit.int .i64 a3).wf = true) (a4 : Int) (w4 : (Lit.int .i64 a4).wf = true) (w : World) (hT : Both w) :
    Calls Tryd.prog 7 #[.agg #[.int .i64 n0, .int .i64 n1, .int .i64 n2, .int .i64 n3, .int .i64 n4, .int .i64 n5], .int .u64 a1, .int .i64 a2, .int .i64 a3, .int .i64 a4] w fun o w' => o = .returned (.bool true) ∧ Below w.heap.size w w' := by
  have h1 := bounds_u64 w1
  obtain ⟨k1, rfl⟩ := Int.eq_ofNat_of_zero_le h1.1
  exact sall_walk n0 n1 n2 n3 n4 n5 a2 a3 a4 k1 b0 b1 b2 b3 b4 b5 (bounds_i64 w2) (bounds_i64 w3) (bounds_i64 w4) w hT
end Go.Proofs.YthlajfoipafaaaaDoor
