/- The walk of SchedTells. -/
import Derived.Test.YthlajfoipafaaaaDoorSchT
import Derived.OpenShut
namespace Go.Proofs.YthlajfoipafaaaaDoor
open Go.RowKit Go.Lib

set_option maxHeartbeats 4000000 in
set_option maxRecDepth 100000 in
theorem stells_walk (a0 a1 a2 a3 a4 a5 a6 a7 a8 za oq op n0 n1 n2 n3 n4 n5 kp pr ep : Int) (ou U lw : Nat) (b0 : I64K n0) (b1 : I64K n1) (b2 : I64K n2) (b3 : I64K n3) (b4 : I64K n4) (b5 : I64K n5) (bk : I64K kp) (bp : I64K pr) (be : I64K ep) (hw : lw < 18446744073709551616) (w : World) (hT : Both w) :
    Calls Tryd.prog 3 #[.agg #[.int .i64 a0, .int .i64 a1, .int .i64 a2, .int .i64 a3, .int .i64 a4, .int .i64 a5, .int .i64 a6, .int .i64 a7, .int .i64 a8, .int .u64 za], .agg #[.int .u64 (ou : Int), .int .i64 oq, .int .i64 op], .agg #[.int .i64 n0, .int .i64 n1, .int .i64 n2, .int .i64 n3, .int .i64 n4, .int .i64 n5], .int .u64 (U : Int), .int .i64 kp, .int .i64 pr, .int .i64 ep, .int .u64 (lw : Int)] w fun o w' => o = .returned (.bool true) ∧ Below w.heap.size w w' := by
  obtain ⟨V, S, C, N, T, D, R, K, G, hfit, cCh⟩ := raw_chain11 n0 n1 n2 n3 n4 n5 b0 b1 b2 b3 b4 b5 3
  obtain ⟨Q, hQ⟩ : ∃ Q, pickS kp 12 = Q := ⟨_, rfl⟩
  obtain ⟨P, hP⟩ : ∃ P, 1 + pickS pr 9 = P := ⟨_, rfl⟩
  have cPl := fun W => Plan_any U Q P kp pr W bk bp hQ hP
  have cE1 := fun W => pick11_any ep 1000 W be (by decide) (by decide)
  have cE2 := fun W => pick11_any ep 1099511627777 W be (by decide) (by decide)
  generalize pickS ep 1000 = e1 at *
  generalize pickS ep 1099511627777 = e2 at *
  clear hQ hP hfit
  have B0 := Below.refl w.heap.size w
  go_enter Tryd.func3, Tryd.ntmps3
  go_upto_region 1 with (fail)
  replace B0 := B0.alloc B0.size (.cells #[.int .i64 a0, .int .i64 a1, .int .i64 a2, .int .i64 a3, .int .i64 a4, .int .i64 a5, .int .i64 a6, .int .i64 a7, .int .i64 a8, .int .u64 za] 24)
  replace B0 := B0.alloc B0.size (.cells #[.int .u64 (ou : Int), .int .i64 oq, .int .i64 op] 26)
  replace B0 := B0.alloc B0.size (.cells #[.int .i64 n0, .int .i64 n1, .int .i64 n2, .int .i64 n3, .int .i64 n4, .int .i64 n5] 27)
  have qw := RowAt.new w 24 #[.int .i64 a0, .int .i64 a1, .int .i64 a2, .int .i64 a3, .int .i64 a4, .int .i64 a5, .int .i64 a6, .int .i64 a7, .int .i64 a8, .int .u64 za]
  replace qw := qw.alloc (.cells #[.int .u64 (ou : Int), .int .i64 oq, .int .i64 op] 26)
  replace qw := qw.alloc (.cells #[.int .i64 n0, .int .i64 n1, .int .i64 n2, .int .i64 n3, .int .i64 n4, .int .i64 n5] 27)
  have qo := RowAt.new (w.alloc (.cells #[.int .i64 a0, .int .i64 a1, .int .i64 a2, .int .i64 a3, .int .i64 a4, .int .i64 a5, .int .i64 a6, .int .i64 a7, .int .i64 a8, .int .u64 za] 24)) 26 #[.int .u64 (ou : Int), .int .i64 oq, .int .i64 op]
  replace qo := qo.alloc (.cells #[.int .i64 n0, .int .i64 n1, .int .i64 n2, .int .i64 n3, .int .i64 n4, .int .i64 n5] 27)
  rw [World.size_alloc] at qo
  have q6 := RowAt.new ((w.alloc (.cells #[.int .i64 a0, .int .i64 a1, .int .i64 a2, .int .i64 a3, .int .i64 a4, .int .i64 a5, .int .i64 a6, .int .i64 a7, .int .i64 a8, .int .u64 za] 24)).alloc (.cells #[.int .u64 (ou : Int), .int .i64 oq, .int .i64 op] 26)) 27 #[.int .i64 n0, .int .i64 n1, .int .i64 n2, .int .i64 n3, .int .i64 n4, .int .i64 n5]
  rw [World.size_alloc, World.size_alloc] at q6
  replace hT : Both (((w.alloc (.cells #[.int .i64 a0, .int .i64 a1, .int .i64 a2, .int .i64 a3, .int .i64 a4, .int .i64 a5, .int .i64 a6, .int .i64 a7, .int .i64 a8, .int .u64 za] 24)).alloc (.cells #[.int .u64 (ou : Int), .int .i64 oq, .int .i64 op] 26)).alloc (.cells #[.int .i64 n0, .int .i64 n1, .int .i64 n2, .int .i64 n3, .int .i64 n4, .int .i64 n5] 27)) := ⟨hT.1.below B0 hT.1.lt, hT.2.below B0 hT.2.lt⟩
  generalize (((w.alloc (.cells #[.int .i64 a0, .int .i64 a1, .int .i64 a2, .int .i64 a3, .int .i64 a4, .int .i64 a5, .int .i64 a6, .int .i64 a7, .int .i64 a8, .int .u64 za] 24)).alloc (.cells #[.int .u64 (ou : Int), .int .i64 oq, .int .i64 op] 26)).alloc (.cells #[.int .i64 n0, .int .i64 n1, .int .i64 n2, .int .i64 n3, .int .i64 n4, .int .i64 n5] 27)) = v1_ at *
  go_wp2_with fail
  with_reducible refine (awake11_any _ hT).mono ?_
  rintro o v2_ ⟨rfl, bN⟩
  replace qw := qw.on bN
  replace qo := qo.on bN
  replace q6 := q6.on bN
  replace hT := hT.on bN
  replace B0 := B0.trans (bN.mono B0.size)
  clear bN
  have q6_ := q6.cell
  have q6_0 := q6_ 0
  have q6_1 := q6_ 1
  have q6_2 := q6_ 2
  have q6_3 := q6_ 3
  have q6_4 := q6_ 4
  have q6_5 := q6_ 5
  simp only [List.getElem?_cons_zero, List.getElem?_cons_succ] at q6_0 q6_1 q6_2 q6_3 q6_4 q6_5
  clear q6_
  go_wp2_with fail
  with_reducible refine (cCh _).mono ?_
  rintro o v3_ ⟨rfl, bN⟩
  clear q6_0 q6_1 q6_2 q6_3 q6_4 q6_5
  replace qw := qw.on bN
  replace qo := qo.on bN
  replace q6 := q6.on bN
  replace hT := hT.on bN
  replace B0 := B0.trans (bN.mono B0.size)
  clear bN
  clear cCh q6
  go_upto_region 3 with (fail)
  have qc := RowAt.new v3_ 24 #[.int .i64 (V : Int), .int .i64 (S : Int), .int .i64 (C : Int), .int .i64 (N : Int), .int .i64 (T : Int), .int .i64 (D : Int), .int .i64 (R : Int), .int .i64 (K : Int), .int .i64 (G : Int), .int .u64 3]
  have bN := (Below.refl v3_.heap.size v3_).alloc (Nat.le_refl _) (.cells #[.int .i64 (V : Int), .int .i64 (S : Int), .int .i64 (C : Int), .int .i64 (N : Int), .int .i64 (T : Int), .int .i64 (D : Int), .int .i64 (R : Int), .int .i64 (K : Int), .int .i64 (G : Int), .int .u64 3] 24)
  replace qw := qw.on bN
  replace qo := qo.on bN
  replace hT := hT.on bN
  replace B0 := B0.trans (bN.mono B0.size)
  clear bN
  generalize v3_.alloc (.cells #[.int .i64 (V : Int), .int .i64 (S : Int), .int .i64 (C : Int), .int .i64 (N : Int), .int .i64 (T : Int), .int .i64 (D : Int), .int .i64 (R : Int), .int .i64 (K : Int), .int .i64 (G : Int), .int .u64 3] 24) = v4_ at *
  obtain ⟨gC, hg9⟩ : ∃ gC, gC = v3_.heap.size := ⟨_, rfl⟩
  rw [← hg9] at qc  ⊢
  clear hg9
  go_wp2_with fail
  with_reducible refine (cPl _).mono ?_
  rintro o v5_ ⟨rfl, bN⟩
  replace qw := qw.on bN
  replace qo := qo.on bN
  replace qc := qc.on bN
  replace hT := hT.on bN
  replace B0 := B0.trans (bN.mono B0.size)
  clear bN
  clear cPl
  go_upto_region 4 with (fail)
  have qp := RowAt.new v5_ 26 #[.int .u64 (U : Int), .int .i64 (Q : Int), .int .i64 (P : Int)]
  have bN := (Below.refl v5_.heap.size v5_).alloc (Nat.le_refl _) (.cells #[.int .u64 (U : Int), .int .i64 (Q : Int), .int .i64 (P : Int)] 26)
  replace qw := qw.on bN
  replace qo := qo.on bN
  replace qc := qc.on bN
  replace hT := hT.on bN
  replace B0 := B0.trans (bN.mono B0.size)
  clear bN
  generalize v5_.alloc (.cells #[.int .u64 (U : Int), .int .i64 (Q : Int), .int .i64 (P : Int)] 26) = v6_ at *
  obtain ⟨gP, hg9⟩ : ∃ gP, gP = v5_.heap.size := ⟨_, rfl⟩
  rw [← hg9] at qp  ⊢
  clear hg9
  have x0 := qo.later7 0 _ rfl
  have y0 := qp.later7 0 _ rfl
  have x1 := qo.later7 1 _ rfl
  have y1 := qp.later7 1 _ rfl
  have x2 := qo.later7 2 _ rfl
  have y2 := qp.later7 2 _ rfl
  have cO1 := fun W => scFits_any (ou : Int) oq op W
  have cO2 := fun W => rscFits_any (ou : Int) oq op W
  have cQ1 := fun W => scFits_any (U : Int) (Q : Int) (P : Int) W
  have cQ2 := fun W => rscFits_any (U : Int) (Q : Int) (P : Int) W
  generalize fitsP oq op = fo at *
  generalize fitsP (Q : Int) (P : Int) = fp at *
  have HO1 := fun p : Later v6_ => later_of (p := p) (cO1 p.W)
  have HO2 := fun p : Later v6_ => later_of (p := p) (cO2 p.W)
  have HQ1 := fun p : Later v6_ => later_of (p := p) (cQ1 p.W)
  have HQ2 := fun p : Later v6_ => later_of (p := p) (cQ2 p.W)
  have bf1 : (fo != fo) = false := by simp
  have bf2 : (fp != fp) = false := by simp
  refine wp_region_later (by kernel_rfl) (by kernel_rfl) ?_
  repeat (go_big_quiet_step (first | (go_at_call 11; (first | with_reducible exact HO1 _ | with_reducible exact HQ1 _)) | (go_at_call 12; (first | with_reducible exact HO2 _ | with_reducible exact HQ2 _))))
  refine wpQuiet_nil ?_
  intro w' hw'
  obtain ⟨pq, rfl⟩ := hw'
  have bN := pq.h
  replace qw := qw.on bN
  replace qo := qo.on bN
  replace qc := qc.on bN
  replace qp := qp.on bN
  replace hT := hT.on bN
  replace B0 := B0.trans (bN.mono B0.size)
  generalize pq.W = w4 at *
  clear HO1 HO2 HQ1 HQ2 cO1 cO2 cQ1 cQ2 bN pq x0 x1 x2 y0 y1 y2
  have qw_ := qw.cell
  have qw_0 := qw_ 0
  have qw_1 := qw_ 1
  have qw_2 := qw_ 2
  have qw_3 := qw_ 3
  have qw_4 := qw_ 4
  have qw_5 := qw_ 5
  have qw_6 := qw_ 6
  have qw_7 := qw_ 7
  have qw_8 := qw_ 8
  have qw_9 := qw_ 9
  simp only [List.getElem?_cons_zero, List.getElem?_cons_succ] at qw_0 qw_1 qw_2 qw_3 qw_4 qw_5 qw_6 qw_7 qw_8 qw_9
  clear qw_
  have qc_ := qc.cell
  have qc_0 := qc_ 0
  have qc_1 := qc_ 1
  have qc_2 := qc_ 2
  have qc_3 := qc_ 3
  have qc_4 := qc_ 4
  have qc_5 := qc_ 5
  have qc_6 := qc_ 6
  have qc_7 := qc_ 7
  have qc_8 := qc_ 8
  have qc_9 := qc_ 9
  simp only [List.getElem?_cons_zero, List.getElem?_cons_succ] at qc_0 qc_1 qc_2 qc_3 qc_4 qc_5 qc_6 qc_7 qc_8 qc_9
  clear qc_
  go_upto_region 7 with (fail)
  clear qw_0 qw_1 qw_2 qw_3 qw_4 qw_5 qw_6 qw_7 qw_8 qw_9 qc_0 qc_1 qc_2 qc_3 qc_4 qc_5 qc_6 qc_7 qc_8 qc_9
  have qs := RowAt.new w4 24 #[.int .i64 a0, .int .i64 a1, .int .i64 a2, .int .i64 a3, .int .i64 a4, .int .i64 a5, .int .i64 a6, .int .i64 a7, .int .i64 a8, .int .u64 za, .int .i64 (V : Int), .int .i64 (S : Int), .int .i64 (C : Int), .int .i64 (N : Int), .int .i64 (T : Int), .int .i64 (D : Int), .int .i64 (R : Int), .int .i64 (K : Int), .int .i64 (G : Int), .int .u64 3]
  have bN := (Below.refl w4.heap.size w4).alloc (Nat.le_refl _) (.cells #[.int .i64 a0, .int .i64 a1, .int .i64 a2, .int .i64 a3, .int .i64 a4, .int .i64 a5, .int .i64 a6, .int .i64 a7, .int .i64 a8, .int .u64 za, .int .i64 (V : Int), .int .i64 (S : Int), .int .i64 (C : Int), .int .i64 (N : Int), .int .i64 (T : Int), .int .i64 (D : Int), .int .i64 (R : Int), .int .i64 (K : Int), .int .i64 (G : Int), .int .u64 3] 24)
  replace qw := qw.on bN
  replace qo := qo.on bN
  replace qc := qc.on bN
  replace qp := qp.on bN
  replace hT := hT.on bN
  replace B0 := B0.trans (bN.mono B0.size)
  clear bN
  generalize w4.alloc (.cells #[.int .i64 a0, .int .i64 a1, .int .i64 a2, .int .i64 a3, .int .i64 a4, .int .i64 a5, .int .i64 a6, .int .i64 a7, .int .i64 a8, .int .u64 za, .int .i64 (V : Int), .int .i64 (S : Int), .int .i64 (C : Int), .int .i64 (N : Int), .int .i64 (T : Int), .int .i64 (D : Int), .int .i64 (R : Int), .int .i64 (K : Int), .int .i64 (G : Int), .int .u64 3] 24) = v7_ at *
  obtain ⟨gS, hg9⟩ : ∃ gS, gS = w4.heap.size := ⟨_, rfl⟩
  rw [← hg9] at qs  ⊢
  clear hg9
  obtain ⟨w5, hw5⟩ : ∃ w5, w5 = v7_ := ⟨_, rfl⟩
  subst hw5
  clear qw qc
  go_wp2_with fail
  go_loopw [61] (fun iv wr => ∃ m : Nat, m ≤ 2 ∧ iv = .int .i64 (m : Int) ∧ Below w5.heap.size w5 wr) (fun iv _ => 2 - (RowKit.intOf iv).toNat)
  case atStart => exact ⟨0, Nat.zero_le _, rfl, Below.refl _ _⟩
  case round =>
    obtain ⟨m, hm, rfl, hb⟩ := hrel
    obtain ⟨wo, hwo⟩ : ∃ wo, wo = wr := ⟨_, rfl⟩
    subst hwo
    replace qs := qs.on hb
    replace qo := qo.on hb
    replace qp := qp.on hb
    replace hT := hT.on hb
    have Bo := B0.trans (hb.mono B0.size)
    clear B0
    by_cases hm2 : m < 2
    · have g1 : ((m : Int) < 2) = True := eq_true (by omega)
      have g1' : (m < 2) = True := eq_true hm2
      obtain ⟨v0, v1, v2, v3, v4, v5, v6, v7, v8, vz, y0, y1, y2, y3, y4, y5, y6, y7, y8, y9⟩ := two_chains qs m hm2
      go_upto_region 9 with (fail)
      clear y0 y1 y2 y3 y4 y5 y6 y7 y8 y9
      have qc := RowAt.new wo 24 #[.int .i64 v0, .int .i64 v1, .int .i64 v2, .int .i64 v3, .int .i64 v4, .int .i64 v5, .int .i64 v6, .int .i64 v7, .int .i64 v8, .int .u64 vz]
      have bN := (Below.refl wo.heap.size wo).alloc (Nat.le_refl _) (.cells #[.int .i64 v0, .int .i64 v1, .int .i64 v2, .int .i64 v3, .int .i64 v4, .int .i64 v5, .int .i64 v6, .int .i64 v7, .int .i64 v8, .int .u64 vz] 24)
      replace qo := qo.on bN
      replace qp := qp.on bN
      replace hT := hT.on bN
      replace hb := hb.trans (bN.mono hb.size)
      clear bN
      generalize wo.alloc (.cells #[.int .i64 v0, .int .i64 v1, .int .i64 v2, .int .i64 v3, .int .i64 v4, .int .i64 v5, .int .i64 v6, .int .i64 v7, .int .i64 v8, .int .u64 vz] 24) = v21_ at *
      obtain ⟨gC2, hg9⟩ : ∃ gC2, gC2 = wo.heap.size := ⟨_, rfl⟩
      rw [← hg9] at qc  ⊢
      clear hg9
      have qo_ := qo.cell
      have qo_0 := qo_ 0
      have qo_1 := qo_ 1
      have qo_2 := qo_ 2
      simp only [List.getElem?_cons_zero, List.getElem?_cons_succ] at qo_0 qo_1 qo_2
      clear qo_
      have qp_ := qp.cell
      have qp_0 := qp_ 0
      have qp_1 := qp_ 1
      have qp_2 := qp_ 2
      simp only [List.getElem?_cons_zero, List.getElem?_cons_succ] at qp_0 qp_1 qp_2
      clear qp_
      go_upto_region 10 with (fail)
      clear qo_0 qo_1 qo_2 qp_0 qp_1 qp_2
      have qk := RowAt.new v21_ 26 #[.int .u64 (ou : Int), .int .i64 oq, .int .i64 op, .int .u64 (U : Int), .int .i64 (Q : Int), .int .i64 (P : Int), .int .u64 (U : Int), .int .i64 kp, .int .i64 (P : Int), .int .u64 (U : Int), .int .i64 (Q : Int), .int .i64 pr]
      have bN := (Below.refl v21_.heap.size v21_).alloc (Nat.le_refl _) (.cells #[.int .u64 (ou : Int), .int .i64 oq, .int .i64 op, .int .u64 (U : Int), .int .i64 (Q : Int), .int .i64 (P : Int), .int .u64 (U : Int), .int .i64 kp, .int .i64 (P : Int), .int .u64 (U : Int), .int .i64 (Q : Int), .int .i64 pr] 26)
      replace qo := qo.on bN
      replace qp := qp.on bN
      replace qc := qc.on bN
      replace hT := hT.on bN
      replace hb := hb.trans (bN.mono hb.size)
      clear bN
      generalize v21_.alloc (.cells #[.int .u64 (ou : Int), .int .i64 oq, .int .i64 op, .int .u64 (U : Int), .int .i64 (Q : Int), .int .i64 (P : Int), .int .u64 (U : Int), .int .i64 kp, .int .i64 (P : Int), .int .u64 (U : Int), .int .i64 (Q : Int), .int .i64 pr] 26) = v22_ at *
      obtain ⟨gK, hg9⟩ : ∃ gK, gK = v21_.heap.size := ⟨_, rfl⟩
      rw [← hg9] at qk  ⊢
      clear hg9
      obtain ⟨w6, hw6⟩ : ∃ w6, w6 = v22_ := ⟨_, rfl⟩
      subst hw6
      clear qo qp
      go_wp2_with fail
      go_loopw [79] (fun iv wr => ∃ m : Nat, m ≤ 4 ∧ iv = .int .i64 (m : Int) ∧ Below w6.heap.size w6 wr) (fun iv _ => 4 - (RowKit.intOf iv).toNat)
      case atStart => exact ⟨0, Nat.zero_le _, rfl, Below.refl _ _⟩
      case round =>
        obtain ⟨m', hm', rfl, hb6⟩ := hrel
        obtain ⟨wq, hwq⟩ : ∃ wq, wq = wr := ⟨_, rfl⟩
        subst hwq
        replace qk := qk.on hb6
        replace qc := qc.on hb6
        replace hT := hT.on hb6
        by_cases hm4 : m' < 4
        · have g2 : ((m' : Int) < 4) = True := eq_true (by omega)
          have g2' : (m' < 4) = True := eq_true hm4
          obtain ⟨u, q, p, y0, y1, y2⟩ := four_plans qk m' hm4
          go_upto_region 12 with (fail)
          clear y0 y1 y2
          have qp := RowAt.new wq 26 #[.int .u64 (u : Int), .int .i64 q, .int .i64 p]
          have bN := (Below.refl wq.heap.size wq).alloc (Nat.le_refl _) (.cells #[.int .u64 (u : Int), .int .i64 q, .int .i64 p] 26)
          replace qc := qc.on bN
          replace hT := hT.on bN
          replace hb6 := hb6.trans (bN.mono hb6.size)
          clear bN
          generalize wq.alloc (.cells #[.int .u64 (u : Int), .int .i64 q, .int .i64 p] 26) = v41_ at *
          obtain ⟨gP2, hg9⟩ : ∃ gP2, gP2 = wq.heap.size := ⟨_, rfl⟩
          rw [← hg9] at qp  ⊢
          clear hg9
          go_wp2_with fail
          with_reducible refine (cE1 _).mono ?_
          rintro o v42_ ⟨rfl, rfl⟩
          go_wp2_with fail
          with_reducible refine (cE2 _).mono ?_
          rintro o v43_ ⟨rfl, rfl⟩
          go_upto_region 13 with (fail)
          have qe := RowAt.new v41_ 3 #[.int .i64 ep, .int .i64 (e1 : Int), .int .i64 (e2 : Int)]
          have bN := (Below.refl v41_.heap.size v41_).alloc (Nat.le_refl _) (.cells #[.int .i64 ep, .int .i64 (e1 : Int), .int .i64 (e2 : Int)] 3)
          replace qc := qc.on bN
          replace qp := qp.on bN
          replace hT := hT.on bN
          replace hb6 := hb6.trans (bN.mono hb6.size)
          clear bN
          generalize v41_.alloc (.cells #[.int .i64 ep, .int .i64 (e1 : Int), .int .i64 (e2 : Int)] 3) = v44_ at *
          obtain ⟨gE, hg9⟩ : ∃ gE, gE = v41_.heap.size := ⟨_, rfl⟩
          rw [← hg9] at qe  ⊢
          clear hg9
          obtain ⟨w8, hw8⟩ : ∃ w8, w8 = v44_ := ⟨_, rfl⟩
          subst hw8
          go_wp2_with fail
          go_loopw [90] (fun iv wr => ∃ m : Nat, m ≤ 3 ∧ iv = .int .i64 (m : Int) ∧ Below w8.heap.size w8 wr) (fun iv _ => 3 - (RowKit.intOf iv).toNat)
          case atStart => exact ⟨0, Nat.zero_le _, rfl, Below.refl _ _⟩
          case round =>
            obtain ⟨j, hj, rfl, hb8⟩ := hrel
            replace qe := qe.on hb8
            replace qc := qc.on hb8
            replace qp := qp.on hb8
            replace hT := hT.on hb8
            by_cases hj3 : j < 3
            · have g3 : ((j : Int) < 3) = True := eq_true (by omega)
              have g3' : (j < 3) = True := eq_true hj3
              obtain ⟨e, ye⟩ := three_ints qe j hj3
              obtain ⟨NN, er, L, hL9, cN, rN⟩ := nets_both v0 v1 v2 v3 v4 v5 v6 v7 v8 vz q p e u
              obtain ⟨xn, en, cX, rX⟩ := next_both v0 v1 v2 v3 v4 v5 v6 v7 v8 vz q p e u
              obtain ⟨z0, z1, z2, ez, cR, rR⟩ := rec_both v0 v1 v2 v3 v4 v5 v6 v7 v8 vz q p e u lw hw
              have hSm : sameB NN L NN L = true := by simp [sameB]
              go_upto_region 15 with (fail)
              clear ye
              have qc_ := qc.cell
              have qc_0 := qc_ 0
              have qc_1 := qc_ 1
              have qc_2 := qc_ 2
              have qc_3 := qc_ 3
              have qc_4 := qc_ 4
              have qc_5 := qc_ 5
              have qc_6 := qc_ 6
              have qc_7 := qc_ 7
              have qc_8 := qc_ 8
              have qc_9 := qc_ 9
              simp only [List.getElem?_cons_zero, List.getElem?_cons_succ] at qc_0 qc_1 qc_2 qc_3 qc_4 qc_5 qc_6 qc_7 qc_8 qc_9
              clear qc_
              have qp_ := qp.cell
              have qp_0 := qp_ 0
              have qp_1 := qp_ 1
              have qp_2 := qp_ 2
              simp only [List.getElem?_cons_zero, List.getElem?_cons_succ] at qp_0 qp_1 qp_2
              clear qp_
              go_wp2_with fail
              with_reducible refine (cN _ hT).mono ?_
              rintro o v61_ ⟨A1, c1, rfl, hB1, bN⟩
              clear qc_0 qc_1 qc_2 qc_3 qc_4 qc_5 qc_6 qc_7 qc_8 qc_9 qp_0 qp_1 qp_2
              replace qc := qc.on bN
              replace qp := qp.on bN
              replace hT := hT.on bN
              replace hb8 := hb8.trans (bN.mono hb8.size)
              clear bN
              go_upto_region 16 with (fail)
              have q26 := RowAt.new v61_ 37 #[.int .i64 NN, .slice A1 L.length c1]
              have bN := (Below.refl v61_.heap.size v61_).alloc (Nat.le_refl _) (.cells #[.int .i64 NN, .slice A1 L.length c1] 37)
              replace qc := qc.on bN
              replace qp := qp.on bN
              replace hB1 := hB1.on bN
              replace hT := hT.on bN
              replace hb8 := hb8.trans (bN.mono hb8.size)
              clear bN
              generalize v61_.alloc (.cells #[.int .i64 NN, .slice A1 L.length c1] 37) = v62_ at *
              obtain ⟨g26, hg9⟩ : ∃ g26, g26 = v61_.heap.size := ⟨_, rfl⟩
              rw [← hg9] at q26  ⊢
              clear hg9
              have qc_ := qc.cell
              have qc_0 := qc_ 0
              have qc_1 := qc_ 1
              have qc_2 := qc_ 2
              have qc_3 := qc_ 3
              have qc_4 := qc_ 4
              have qc_5 := qc_ 5
              have qc_6 := qc_ 6
              have qc_7 := qc_ 7
              have qc_8 := qc_ 8
              have qc_9 := qc_ 9
              simp only [List.getElem?_cons_zero, List.getElem?_cons_succ] at qc_0 qc_1 qc_2 qc_3 qc_4 qc_5 qc_6 qc_7 qc_8 qc_9
              clear qc_
              have qp_ := qp.cell
              have qp_0 := qp_ 0
              have qp_1 := qp_ 1
              have qp_2 := qp_ 2
              simp only [List.getElem?_cons_zero, List.getElem?_cons_succ] at qp_0 qp_1 qp_2
              clear qp_
              go_wp2_with fail
              with_reducible refine (rN _).mono ?_
              rintro o v63_ ⟨A2, c2, rfl, hB2, bN⟩
              clear qc_0 qc_1 qc_2 qc_3 qc_4 qc_5 qc_6 qc_7 qc_8 qc_9 qp_0 qp_1 qp_2
              replace qc := qc.on bN
              replace qp := qp.on bN
              replace q26 := q26.on bN
              replace hB1 := hB1.on bN
              replace hT := hT.on bN
              replace hb8 := hb8.trans (bN.mono hb8.size)
              clear bN
              go_upto_region 17 with (fail)
              have q28 := RowAt.new v63_ 37 #[.int .i64 NN, .slice A2 L.length c2]
              have bN := (Below.refl v63_.heap.size v63_).alloc (Nat.le_refl _) (.cells #[.int .i64 NN, .slice A2 L.length c2] 37)
              replace qc := qc.on bN
              replace qp := qp.on bN
              replace q26 := q26.on bN
              replace hB1 := hB1.on bN
              replace hB2 := hB2.on bN
              replace hT := hT.on bN
              replace hb8 := hb8.trans (bN.mono hb8.size)
              clear bN
              generalize v63_.alloc (.cells #[.int .i64 NN, .slice A2 L.length c2] 37) = v64_ at *
              obtain ⟨g28, hg9⟩ : ∃ g28, g28 = v63_.heap.size := ⟨_, rfl⟩
              rw [← hg9] at q28  ⊢
              clear hg9
              have qc_ := qc.cell
              have qc_0 := qc_ 0
              have qc_1 := qc_ 1
              have qc_2 := qc_ 2
              have qc_3 := qc_ 3
              have qc_4 := qc_ 4
              have qc_5 := qc_ 5
              have qc_6 := qc_ 6
              have qc_7 := qc_ 7
              have qc_8 := qc_ 8
              have qc_9 := qc_ 9
              simp only [List.getElem?_cons_zero, List.getElem?_cons_succ] at qc_0 qc_1 qc_2 qc_3 qc_4 qc_5 qc_6 qc_7 qc_8 qc_9
              clear qc_
              have qp_ := qp.cell
              have qp_0 := qp_ 0
              have qp_1 := qp_ 1
              have qp_2 := qp_ 2
              simp only [List.getElem?_cons_zero, List.getElem?_cons_succ] at qp_0 qp_1 qp_2
              clear qp_
              go_wp2_with fail
              with_reducible refine (cX _ hT).mono ?_
              rintro o v65_ ⟨rfl, bN⟩
              clear qc_0 qc_1 qc_2 qc_3 qc_4 qc_5 qc_6 qc_7 qc_8 qc_9 qp_0 qp_1 qp_2
              replace qc := qc.on bN
              replace qp := qp.on bN
              replace q26 := q26.on bN
              replace q28 := q28.on bN
              replace hB1 := hB1.on bN
              replace hB2 := hB2.on bN
              replace hT := hT.on bN
              replace hb8 := hb8.trans (bN.mono hb8.size)
              clear bN
              have qc_ := qc.cell
              have qc_0 := qc_ 0
              have qc_1 := qc_ 1
              have qc_2 := qc_ 2
              have qc_3 := qc_ 3
              have qc_4 := qc_ 4
              have qc_5 := qc_ 5
              have qc_6 := qc_ 6
              have qc_7 := qc_ 7
              have qc_8 := qc_ 8
              have qc_9 := qc_ 9
              simp only [List.getElem?_cons_zero, List.getElem?_cons_succ] at qc_0 qc_1 qc_2 qc_3 qc_4 qc_5 qc_6 qc_7 qc_8 qc_9
              clear qc_
              have qp_ := qp.cell
              have qp_0 := qp_ 0
              have qp_1 := qp_ 1
              have qp_2 := qp_ 2
              simp only [List.getElem?_cons_zero, List.getElem?_cons_succ] at qp_0 qp_1 qp_2
              clear qp_
              go_wp2_with fail
              with_reducible refine (rX _).mono ?_
              rintro o v66_ ⟨rfl, bN⟩
              clear qc_0 qc_1 qc_2 qc_3 qc_4 qc_5 qc_6 qc_7 qc_8 qc_9 qp_0 qp_1 qp_2
              replace qc := qc.on bN
              replace qp := qp.on bN
              replace q26 := q26.on bN
              replace q28 := q28.on bN
              replace hB1 := hB1.on bN
              replace hB2 := hB2.on bN
              replace hT := hT.on bN
              replace hb8 := hb8.trans (bN.mono hb8.size)
              clear bN
              have qc_ := qc.cell
              have qc_0 := qc_ 0
              have qc_1 := qc_ 1
              have qc_2 := qc_ 2
              have qc_3 := qc_ 3
              have qc_4 := qc_ 4
              have qc_5 := qc_ 5
              have qc_6 := qc_ 6
              have qc_7 := qc_ 7
              have qc_8 := qc_ 8
              have qc_9 := qc_ 9
              simp only [List.getElem?_cons_zero, List.getElem?_cons_succ] at qc_0 qc_1 qc_2 qc_3 qc_4 qc_5 qc_6 qc_7 qc_8 qc_9
              clear qc_
              have qp_ := qp.cell
              have qp_0 := qp_ 0
              have qp_1 := qp_ 1
              have qp_2 := qp_ 2
              simp only [List.getElem?_cons_zero, List.getElem?_cons_succ] at qp_0 qp_1 qp_2
              clear qp_
              go_wp2_with fail
              with_reducible refine (cR _ hT).mono ?_
              rintro o v67_ ⟨rfl, bN⟩
              clear qc_0 qc_1 qc_2 qc_3 qc_4 qc_5 qc_6 qc_7 qc_8 qc_9 qp_0 qp_1 qp_2
              replace qc := qc.on bN
              replace qp := qp.on bN
              replace q26 := q26.on bN
              replace q28 := q28.on bN
              replace hB1 := hB1.on bN
              replace hB2 := hB2.on bN
              replace hT := hT.on bN
              replace hb8 := hb8.trans (bN.mono hb8.size)
              clear bN
              go_upto_region 20 with (fail)
              have q34 := RowAt.new v67_ 44 #[.int .u64 z0, .int .u64 z1, .int .u64 z2]
              have bN := (Below.refl v67_.heap.size v67_).alloc (Nat.le_refl _) (.cells #[.int .u64 z0, .int .u64 z1, .int .u64 z2] 44)
              replace qc := qc.on bN
              replace qp := qp.on bN
              replace q26 := q26.on bN
              replace q28 := q28.on bN
              replace hB1 := hB1.on bN
              replace hB2 := hB2.on bN
              replace hT := hT.on bN
              replace hb8 := hb8.trans (bN.mono hb8.size)
              clear bN
              generalize v67_.alloc (.cells #[.int .u64 z0, .int .u64 z1, .int .u64 z2] 44) = v68_ at *
              obtain ⟨g34, hg9⟩ : ∃ g34, g34 = v67_.heap.size := ⟨_, rfl⟩
              rw [← hg9] at q34  ⊢
              clear hg9
              have qc_ := qc.cell
              have qc_0 := qc_ 0
              have qc_1 := qc_ 1
              have qc_2 := qc_ 2
              have qc_3 := qc_ 3
              have qc_4 := qc_ 4
              have qc_5 := qc_ 5
              have qc_6 := qc_ 6
              have qc_7 := qc_ 7
              have qc_8 := qc_ 8
              have qc_9 := qc_ 9
              simp only [List.getElem?_cons_zero, List.getElem?_cons_succ] at qc_0 qc_1 qc_2 qc_3 qc_4 qc_5 qc_6 qc_7 qc_8 qc_9
              clear qc_
              have qp_ := qp.cell
              have qp_0 := qp_ 0
              have qp_1 := qp_ 1
              have qp_2 := qp_ 2
              simp only [List.getElem?_cons_zero, List.getElem?_cons_succ] at qp_0 qp_1 qp_2
              clear qp_
              go_wp2_with fail
              with_reducible refine (rR _).mono ?_
              rintro o v69_ ⟨rfl, bN⟩
              clear qc_0 qc_1 qc_2 qc_3 qc_4 qc_5 qc_6 qc_7 qc_8 qc_9 qp_0 qp_1 qp_2
              replace qc := qc.on bN
              replace qp := qp.on bN
              replace q26 := q26.on bN
              replace q28 := q28.on bN
              replace q34 := q34.on bN
              replace hB1 := hB1.on bN
              replace hB2 := hB2.on bN
              replace hT := hT.on bN
              replace hb8 := hb8.trans (bN.mono hb8.size)
              clear bN
              go_upto_region 21 with (fail)
              have q36 := RowAt.new v69_ 44 #[.int .u64 z0, .int .u64 z1, .int .u64 z2]
              have bN := (Below.refl v69_.heap.size v69_).alloc (Nat.le_refl _) (.cells #[.int .u64 z0, .int .u64 z1, .int .u64 z2] 44)
              replace qc := qc.on bN
              replace qp := qp.on bN
              replace q26 := q26.on bN
              replace q28 := q28.on bN
              replace q34 := q34.on bN
              replace hB1 := hB1.on bN
              replace hB2 := hB2.on bN
              replace hT := hT.on bN
              replace hb8 := hb8.trans (bN.mono hb8.size)
              clear bN
              generalize v69_.alloc (.cells #[.int .u64 z0, .int .u64 z1, .int .u64 z2] 44) = v70_ at *
              obtain ⟨g36, hg9⟩ : ∃ g36, g36 = v69_.heap.size := ⟨_, rfl⟩
              rw [← hg9] at q36  ⊢
              clear hg9
              have hS := Same_any _ _ NN NN L L _ hB1 hB2 hL9 hL9
              rw [hSm] at hS
              have q26_ := q26.cell
              have q26_0 := q26_ 0
              have q26_1 := q26_ 1
              simp only [List.getElem?_cons_zero, List.getElem?_cons_succ] at q26_0 q26_1
              clear q26_
              have q28_ := q28.cell
              have q28_0 := q28_ 0
              have q28_1 := q28_ 1
              simp only [List.getElem?_cons_zero, List.getElem?_cons_succ] at q28_0 q28_1
              clear q28_
              go_wp2_with fail
              with_reducible refine (hS).mono ?_
              rintro o v71_ ⟨rfl, bN⟩
              clear q26_0 q26_1 q28_0 q28_1
              replace qc := qc.on bN
              replace qp := qp.on bN
              replace q26 := q26.on bN
              replace q28 := q28.on bN
              replace q34 := q34.on bN
              replace q36 := q36.on bN
              replace hB1 := hB1.on bN
              replace hB2 := hB2.on bN
              replace hT := hT.on bN
              replace hb8 := hb8.trans (bN.mono hb8.size)
              clear bN
              have q34_ := q34.cell
              have q34_0 := q34_ 0
              have q34_1 := q34_ 1
              have q34_2 := q34_ 2
              simp only [List.getElem?_cons_zero, List.getElem?_cons_succ] at q34_0 q34_1 q34_2
              clear q34_
              have q36_ := q36.cell
              have q36_0 := q36_ 0
              have q36_1 := q36_ 1
              have q36_2 := q36_ 2
              simp only [List.getElem?_cons_zero, List.getElem?_cons_succ] at q36_0 q36_1 q36_2
              clear q36_
              go_wp2_with fail
              go_roundw
              case rel => exact ⟨j + 1, by omega, by go_num, hb8⟩
              case measure => simp [RowKit.intOf]; omega
            · obtain rfl : j = 3 := by omega
              go_wp2_with fail
              go_roundw
              case rel => exact ⟨m' + 1, by omega, by go_num, hb6.trans (hb8.mono hb6.size)⟩
              case measure => simp [RowKit.intOf]; omega
        · obtain rfl : m' = 4 := by omega
          go_wp2_with fail
          go_roundw
          case rel => exact ⟨m + 1, by omega, by go_num, hb.trans (hb6.mono hb.size)⟩
          case measure => simp [RowKit.intOf]; omega
    · obtain rfl : m = 2 := by omega
      go_wp2_with fail
      go_ret
      exact ⟨rfl, Bo⟩
theorem stells_calls (a0 a1 a2 a3 a4 a5 a6 a7 a8 za : Int) (ou : Nat) (oq op : Int) {n0 n1 n2 n3 n4 n5 : Int} (b0 : I64K n0) (b1 : I64K n1) (b2 : I64K n2) (b3 : I64K n3) (b4 : I64K n4) (b5 : I64K n5) (c3 : Int) (w3 : (Lit.int .u64 c3).wf = true) (c4 : Int) (w4 : (Lit.int .i64 c4).wf = true) (c5 : Int) (w5 : (Lit.int .i64 c5).wf = true) (c6 : Int) (w6 : (Lit.int .i64 c6).wf = true) (c7 : Int) (w7 : (Lit.int .u64 c7).wf = true) (w : World) (hT : Both w) :
    Calls Tryd.prog 3 #[.agg #[.int .i64 a0, .int .i64 a1, .int .i64 a2, .int .i64 a3, .int .i64 a4, .int .i64 a5, .int .i64 a6, .int .i64 a7, .int .i64 a8, .int .u64 za], .agg #[.int .u64 (ou : Int), .int .i64 oq, .int .i64 op], .agg #[.int .i64 n0, .int .i64 n1, .int .i64 n2, .int .i64 n3, .int .i64 n4, .int .i64 n5], .int .u64 c3, .int .i64 c4, .int .i64 c5, .int .i64 c6, .int .u64 c7] w fun o w' => o = .returned (.bool true) ∧ Below w.heap.size w w' := by
  have h3 := bounds_u64 w3
  obtain ⟨k3, rfl⟩ := Int.eq_ofNat_of_zero_le h3.1
  have h7 := bounds_u64 w7
  obtain ⟨k7, rfl⟩ := Int.eq_ofNat_of_zero_le h7.1
  exact stells_walk a0 a1 a2 a3 a4 a5 a6 a7 a8 za oq op n0 n1 n2 n3 n4 n5 c4 c5 c6 ou k3 k7 b0 b1 b2 b3 b4 b5 (bounds_i64 w4) (bounds_i64 w5) (bounds_i64 w6) (by omega) w hT
end Go.Proofs.YthlajfoipafaaaaDoor
