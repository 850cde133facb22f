/- The walk of SchedRecord. -/
import Derived.Test.YthlajfoipafaaaaDoorSchF
import Derived.OpenShut
namespace Go.Proofs.YthlajfoipafaaaaDoor
open Go.RowKit Go.Lib

theorem shr_bit (wd i : Nat) (o : Bool) (hw : wd < 18446744073709551616) (h : wd.testBit i = o) : (bits .and .u64 ((wd : Int) / 2 ^ i) 1 == 1) = o := by
  have e : ((wd : Int) / 2 ^ i) = ((wd / 2 ^ i : Nat) : Int) := by rw [Int.natCast_ediv, Int.natCast_pow]; rfl
  have hq : wd / 2 ^ i < 18446744073709551616 := Nat.lt_of_le_of_lt (Nat.div_le_self _ _) hw
  have h1 := u64_and_nat (wd / 2 ^ i) 1 hq (by decide)
  rw [e, show (1 : Int) = ((1 : Nat) : Int) from rfl, h1, Nat.and_one_is_mod, ← h, Nat.testBit_eq_decide_div_mod_eq, Bool.eq_iff_iff, beq_iff_eq, decide_eq_true_eq]
  omega

set_option maxHeartbeats 4000000 in
set_option maxRecDepth 100000 in
theorem srec_walk (n0 n1 n2 n3 n4 n5 kp pr ep : Int) (U lw : Nat) (b0 : I64K n0) (b1 : I64K n1) (b2 : I64K n2) (b3 : I64K n3) (b4 : I64K n4) (b5 : I64K n5) (bk : I64K kp) (bp : I64K pr) (be : I64K ep) (hw : lw < 18446744073709551616) (w : World) (hT : Both w) :
    Calls Tryd.prog 6 #[.agg #[.int .i64 n0, .int .i64 n1, .int .i64 n2, .int .i64 n3, .int .i64 n4, .int .i64 n5], .int .u64 (U : Int), .int .i64 kp, .int .i64 pr, .int .i64 ep, .int .u64 (lw : Int)] w fun o w' => o = .returned (.bool true) ∧ Below w.heap.size w w' := by
  obtain ⟨V, S, C, N, T, D, R, K, G, hfit, cCh⟩ := raw_chain11 n0 n1 n2 n3 n4 n5 b0 b1 b2 b3 b4 b5 3
  obtain ⟨nn1, nn2⟩ : 1 ≤ N ∧ N ≤ 64 := ⟨hfit.n1, hfit.n2⟩
  have q12 := pickS_lt kp 12 (by decide)
  have p9 := pickS_lt pr 9 (by decide)
  obtain ⟨Q, hQ⟩ : ∃ Q, pickS kp 12 = Q := ⟨_, rfl⟩
  obtain ⟨P, hP⟩ : ∃ P, 1 + pickS pr 9 = P := ⟨_, rfl⟩
  have cPl := fun W => Plan_any U Q P kp pr W bk bp hQ hP
  have hQ2 : Q < 12 := by omega
  have p1 : 1 ≤ P := by omega
  have p2 : P ≤ 9 := by omega
  have hpl : FitP Q P := ⟨by omega, p1, by omega⟩
  have hx9 := pickS_lt ep 1073741824 (by decide)
  have cE := fun W => pick11_any ep 1073741824 W be (by decide) (by decide)
  generalize pickS ep 1073741824 = x at *
  clear hQ hP q12 p9
  have hbx : blkN U P x ≤ x + U % P := blk_le
  have hsh : U % P < P := Nat.mod_lt _ (by omega)
  obtain ⟨L, hL⟩ : ∃ L, netsI N (firstN N K U (blkN U P x)) Q = L := ⟨_, rfl⟩
  have cB1 : ∀ W, Both W → Calls Tryd.prog 14 #[.agg #[.int .i64 (V : Int), .int .i64 (S : Int), .int .i64 (C : Int), .int .i64 (N : Int), .int .i64 (T : Int), .int .i64 (D : Int), .int .i64 (R : Int), .int .i64 (K : Int), .int .i64 (G : Int), .int .u64 3], .agg #[.int .u64 (U : Int), .int .i64 (Q : Int), .int .i64 (P : Int)], .int .i64 (x : Int)] W fun o w' => ∃ A c, o = .returned (.tuple #[.agg #[.int .i64 (N : Int), .slice A L.length c], .int .i64 0]) ∧ Bt w' (.agg #[.int .i64 (N : Int), .slice A L.length c]) N L ∧ FromOn W.heap.size (.slice A L.length c) ∧ Below W.heap.size W w' := fun W hW =>
    sNets_yes V S C N T D R K G U Q P x 3 W hfit hpl (by omega) hW L hL
  have cR1 := fun W hW => sRecord_yes V S C N T D R K G U Q P x lw 3 W hfit hpl (by omega) hW hw
  have cL := fun W => Plain_any lw W hw
  have HHas0 := fun (i : Nat) => netsI_has N (firstN N K U (blkN U P x)) Q i (by omega)
  have HBit := Lib.hid (fun (i : Nat) (hi : i < 64) => wordN_bit N (firstN N K U (blkN U P x)) Q i hi)
  have hwl := wordN_lt N (firstN N K U (blkN U P x)) Q
  have hL9 := bits8_len N (firstN N K U (blkN U P x)) Q nn2
  rw [hL] at HHas0 hL9
  have HHas := Lib.hid HHas0
  have HL9 := Lib.hid (show L.length ≤ maxLen by unfold maxLen; omega)
  generalize wordN N (firstN N K U (blkN U P x)) Q = wd at *
  generalize firstN N K U (blkN U P x) = f at *
  generalize plainW lw = pl at *
  obtain ⟨Bk, hBk⟩ : ∃ Bk, blkN U P x + 1 = Bk := ⟨_, rfl⟩
  have s1 : ((Bk : Int) = 0) = False := eq_false (by omega)
  have s2 : (Bk = 0) = False := eq_false (by omega)
  have s3 : ((Bk : Int) == 0) = false := by rw [beq_eq_false_iff_ne]; omega
  rw [hBk] at cR1
  clear hBk hL hL9 hbx hsh HHas0 hfit hpl
  have B0 := Below.refl w.heap.size w
  go_enter Tryd.func6, Tryd.ntmps6
  go_upto_region 1 with (fail)
  have q6 := RowAt.new w 27 #[.int .i64 n0, .int .i64 n1, .int .i64 n2, .int .i64 n3, .int .i64 n4, .int .i64 n5]
  have bN := (Below.refl w.heap.size w).alloc (Nat.le_refl _) (.cells #[.int .i64 n0, .int .i64 n1, .int .i64 n2, .int .i64 n3, .int .i64 n4, .int .i64 n5] 27)
  replace hT := hT.on bN
  replace B0 := B0.trans (bN.mono B0.size)
  clear bN
  generalize w.alloc (.cells #[.int .i64 n0, .int .i64 n1, .int .i64 n2, .int .i64 n3, .int .i64 n4, .int .i64 n5] 27) = v1_ at *
  obtain ⟨g6, hg9⟩ : ∃ g6, g6 = w.heap.size := ⟨_, rfl⟩
  rw [← hg9] at q6 ⊢
  clear hg9
  go_wp2_with fail
  with_reducible refine (awake11_any _ hT).mono ?_
  rintro o v2_ ⟨rfl, bN⟩
  replace q6 := q6.on bN
  replace hT := hT.on bN
  replace B0 := B0.trans (bN.mono B0.size)
  clear bN
  have q6_ := q6.cell
  have q6_0 := q6_ 0
  have q6_1 := q6_ 1
  have q6_2 := q6_ 2
  have q6_3 := q6_ 3
  have q6_4 := q6_ 4
  have q6_5 := q6_ 5
  simp only [List.getElem?_cons_zero, List.getElem?_cons_succ] at q6_0 q6_1 q6_2 q6_3 q6_4 q6_5
  clear q6_
  go_wp2_with fail
  with_reducible refine (cCh _).mono ?_
  rintro o v3_ ⟨rfl, bN⟩
  clear q6_0 q6_1 q6_2 q6_3 q6_4 q6_5
  replace q6 := q6.on bN
  replace hT := hT.on bN
  replace B0 := B0.trans (bN.mono B0.size)
  clear bN
  clear cCh q6
  go_upto_region 3 with (fail)
  have qc := RowAt.new v3_ 24 #[.int .i64 (V : Int), .int .i64 (S : Int), .int .i64 (C : Int), .int .i64 (N : Int), .int .i64 (T : Int), .int .i64 (D : Int), .int .i64 (R : Int), .int .i64 (K : Int), .int .i64 (G : Int), .int .u64 3]
  have bN := (Below.refl v3_.heap.size v3_).alloc (Nat.le_refl _) (.cells #[.int .i64 (V : Int), .int .i64 (S : Int), .int .i64 (C : Int), .int .i64 (N : Int), .int .i64 (T : Int), .int .i64 (D : Int), .int .i64 (R : Int), .int .i64 (K : Int), .int .i64 (G : Int), .int .u64 3] 24)
  replace hT := hT.on bN
  replace B0 := B0.trans (bN.mono B0.size)
  clear bN
  generalize v3_.alloc (.cells #[.int .i64 (V : Int), .int .i64 (S : Int), .int .i64 (C : Int), .int .i64 (N : Int), .int .i64 (T : Int), .int .i64 (D : Int), .int .i64 (R : Int), .int .i64 (K : Int), .int .i64 (G : Int), .int .u64 3] 24) = v4_ at *
  obtain ⟨gC, hg9⟩ : ∃ gC, gC = v3_.heap.size := ⟨_, rfl⟩
  rw [← hg9] at qc ⊢
  clear hg9
  go_wp2_with fail
  with_reducible refine (cPl _).mono ?_
  rintro o v5_ ⟨rfl, bN⟩
  replace qc := qc.on bN
  replace hT := hT.on bN
  replace B0 := B0.trans (bN.mono B0.size)
  clear bN
  clear cPl
  go_upto_region 4 with (fail)
  have qp := RowAt.new v5_ 26 #[.int .u64 (U : Int), .int .i64 (Q : Int), .int .i64 (P : Int)]
  have bN := (Below.refl v5_.heap.size v5_).alloc (Nat.le_refl _) (.cells #[.int .u64 (U : Int), .int .i64 (Q : Int), .int .i64 (P : Int)] 26)
  replace qc := qc.on bN
  replace hT := hT.on bN
  replace B0 := B0.trans (bN.mono B0.size)
  clear bN
  generalize v5_.alloc (.cells #[.int .u64 (U : Int), .int .i64 (Q : Int), .int .i64 (P : Int)] 26) = v6_ at *
  obtain ⟨gP, hg9⟩ : ∃ gP, gP = v5_.heap.size := ⟨_, rfl⟩
  rw [← hg9] at qp ⊢
  clear hg9
  go_wp2_with fail
  with_reducible refine (cE _).mono ?_
  rintro o v7_ ⟨rfl, rfl⟩
  have qc_ := qc.cell
  have qc_0 := qc_ 0
  have qc_1 := qc_ 1
  have qc_2 := qc_ 2
  have qc_3 := qc_ 3
  have qc_4 := qc_ 4
  have qc_5 := qc_ 5
  have qc_6 := qc_ 6
  have qc_7 := qc_ 7
  have qc_8 := qc_ 8
  have qc_9 := qc_ 9
  simp only [List.getElem?_cons_zero, List.getElem?_cons_succ] at qc_0 qc_1 qc_2 qc_3 qc_4 qc_5 qc_6 qc_7 qc_8 qc_9
  clear qc_
  have qp_ := qp.cell
  have qp_0 := qp_ 0
  have qp_1 := qp_ 1
  have qp_2 := qp_ 2
  simp only [List.getElem?_cons_zero, List.getElem?_cons_succ] at qp_0 qp_1 qp_2
  clear qp_
  go_wp2_with fail
  with_reducible refine (cB1 _ hT).mono ?_
  rintro o v8_ ⟨A1, c1, rfl, hB1, _, bN⟩
  clear qc_0 qc_1 qc_2 qc_3 qc_4 qc_5 qc_6 qc_7 qc_8 qc_9 qp_0 qp_1 qp_2
  replace qc := qc.on bN
  replace qp := qp.on bN
  replace hT := hT.on bN
  replace B0 := B0.trans (bN.mono B0.size)
  clear bN
  go_upto_region 6 with (fail)
  have q17 := RowAt.new v8_ 37 #[.int .i64 (N : Int), .slice A1 L.length c1]
  have bN := (Below.refl v8_.heap.size v8_).alloc (Nat.le_refl _) (.cells #[.int .i64 (N : Int), .slice A1 L.length c1] 37)
  replace qc := qc.on bN
  replace qp := qp.on bN
  replace hB1 := hB1.on bN
  replace hT := hT.on bN
  replace B0 := B0.trans (bN.mono B0.size)
  clear bN
  generalize v8_.alloc (.cells #[.int .i64 (N : Int), .slice A1 L.length c1] 37) = v9_ at *
  obtain ⟨g17, hg9⟩ : ∃ g17, g17 = v8_.heap.size := ⟨_, rfl⟩
  rw [← hg9] at q17 ⊢
  clear hg9
  have qc_ := qc.cell
  have qc_0 := qc_ 0
  have qc_1 := qc_ 1
  have qc_2 := qc_ 2
  have qc_3 := qc_ 3
  have qc_4 := qc_ 4
  have qc_5 := qc_ 5
  have qc_6 := qc_ 6
  have qc_7 := qc_ 7
  have qc_8 := qc_ 8
  have qc_9 := qc_ 9
  simp only [List.getElem?_cons_zero, List.getElem?_cons_succ] at qc_0 qc_1 qc_2 qc_3 qc_4 qc_5 qc_6 qc_7 qc_8 qc_9
  clear qc_
  have qp_ := qp.cell
  have qp_0 := qp_ 0
  have qp_1 := qp_ 1
  have qp_2 := qp_ 2
  simp only [List.getElem?_cons_zero, List.getElem?_cons_succ] at qp_0 qp_1 qp_2
  clear qp_
  go_wp2_with fail
  with_reducible refine (cR1 _ hT).mono ?_
  rintro o v10_ ⟨rfl, bN⟩
  clear qc_0 qc_1 qc_2 qc_3 qc_4 qc_5 qc_6 qc_7 qc_8 qc_9 qp_0 qp_1 qp_2
  replace qc := qc.on bN
  replace qp := qp.on bN
  replace q17 := q17.on bN
  replace hB1 := hB1.on bN
  replace hT := hT.on bN
  replace B0 := B0.trans (bN.mono B0.size)
  clear bN
  go_upto_region 7 with (fail)
  have q19 := RowAt.new v10_ 44 #[.int .u64 (Bk : Int), .int .u64 (wd : Int), .int .u64 (pl : Int)]
  have bN := (Below.refl v10_.heap.size v10_).alloc (Nat.le_refl _) (.cells #[.int .u64 (Bk : Int), .int .u64 (wd : Int), .int .u64 (pl : Int)] 44)
  replace qc := qc.on bN
  replace qp := qp.on bN
  replace q17 := q17.on bN
  replace hB1 := hB1.on bN
  replace hT := hT.on bN
  replace B0 := B0.trans (bN.mono B0.size)
  clear bN
  generalize v10_.alloc (.cells #[.int .u64 (Bk : Int), .int .u64 (wd : Int), .int .u64 (pl : Int)] 44) = v11_ at *
  obtain ⟨g19, hg9⟩ : ∃ g19, g19 = v10_.heap.size := ⟨_, rfl⟩
  rw [← hg9] at q19 ⊢
  clear hg9
  clear cB1 cR1 cE qc qp
  have y0 := q19.later7 0 _ rfl
  have y1 := q19.later7 1 _ rfl
  have y2 := q19.later7 2 _ rfl
  have HP := fun p : Later v11_ => later_same (cL p.W)
  refine wp_region_later (by kernel_rfl) (by kernel_rfl) ?_
  repeat (go_big_quiet_step (first | (go_at_call 23; with_reducible exact HP _)))
  refine wpQuiet_nil ?_
  intro _ hw'
  obtain ⟨pq, rfl⟩ := hw'
  have bq := pq.h
  replace q17 := q17.on bq
  replace q19 := q19.on bq
  replace hB1 := hB1.on bq
  replace B0 := B0.trans (bq.mono B0.size)
  generalize pq.W = w9 at *
  clear HP y0 y1 y2 cL pq bq
  go_wp2_with fail
  go_loopw [21] (fun iv wr => ∃ i : Nat, i ≤ 64 ∧ iv = .int .i64 (i : Int) ∧ Below w9.heap.size w9 wr) (fun iv _ => 64 - (RowKit.intOf iv).toNat)
  case atStart => exact ⟨0, Nat.zero_le _, rfl, Below.refl _ _⟩
  case round =>
    obtain ⟨i, hi, rfl, hb⟩ := hrel
    replace q17 := q17.on hb
    replace q19 := q19.on hb
    replace hB1 := hB1.on hb
    have Bo := B0.trans (hb.mono B0.size)
    by_cases hiN : i < 64
    · have g1 : ((i : Int) < 64) = True := eq_true (by omega)
      have g2 : (i < 64) = True := eq_true hiN
      have h1 := HHas.out i
      have h2 := HBit.out i hiN
      generalize onB N f Q i = o1 at *
      have h3 := shr_bit wd i o1 hwl h2
      clear h2
      have HC1 : ∀ p : Later wr, Calls Tryd.prog 22 #[.agg #[.int .i64 (N : Int), .slice A1 L.length c1], .int .i64 (i : Int)] p.W fun e w_ => e = .returned (.bool o1) ∧ ∃ p : Later wr, w_ = p.W := fun p => later_of (Has_eq _ (N : Int) L (i : Int) p.W o1 h1 (hB1.on p.h) HL9.out)
      have y1 := q19.later7 1 _ rfl
      have t0 := q17.later7 0 _ rfl
      have t1 := q17.later7 1 _ rfl
      go_upto_region 12 with (fail)
      refine wp_region_later (by kernel_rfl) (by kernel_rfl) ?_
      repeat (go_big_quiet_step (first | (go_at_call 22; with_reducible exact HC1 _)))
      refine wpQuiet_nil ?_
      intro _ hw'
      obtain ⟨pq, rfl⟩ := hw'
      cases o1
      · go_wp2_with fail
        go_roundw
        case rel => exact ⟨i + 1, by omega, by go_num, hb.trans (pq.h.mono hb.size)⟩
        case measure => simp [RowKit.intOf]; omega
      · go_wp2_with fail
        go_roundw
        case rel => exact ⟨i + 1, by omega, by go_num, hb.trans (pq.h.mono hb.size)⟩
        case measure => simp [RowKit.intOf]; omega
    · obtain rfl : i = 64 := by omega
      go_wp2_with fail
      go_ret
      exact ⟨rfl, Bo⟩
theorem srec_calls {n0 n1 n2 n3 n4 n5 : Int} (b0 : I64K n0) (b1 : I64K n1) (b2 : I64K n2) (b3 : I64K n3) (b4 : I64K n4) (b5 : I64K n5) (a1 : Int) (w1 : (Lit.int .u64 a1).wf = true) (a2 : Int) (w2 : (Lit.int .i64 a2).wf = true) (a3 : Int) (w3 : (Lit.int .i64 a3).wf = true) (a4 : Int) (w4 : (Lit.int .i64 a4).wf = true) (a5 : Int) (w5 : (Lit.int .u64 a5).wf = true) (w : World) (hT : Both w) :
    Calls Tryd.prog 6 #[.agg #[.int .i64 n0, .int .i64 n1, .int .i64 n2, .int .i64 n3, .int .i64 n4, .int .i64 n5], .int .u64 a1, .int .i64 a2, .int .i64 a3, .int .i64 a4, .int .u64 a5] w fun o w' => o = .returned (.bool true) ∧ Below w.heap.size w w' := by
  have h1 := bounds_u64 w1
  obtain ⟨k1, rfl⟩ := Int.eq_ofNat_of_zero_le h1.1
  have h5 := bounds_u64 w5
  obtain ⟨k5, rfl⟩ := Int.eq_ofNat_of_zero_le h5.1
  exact srec_walk n0 n1 n2 n3 n4 n5 a2 a3 a4 k1 k5 b0 b1 b2 b3 b4 b5 (bounds_i64 w2) (bounds_i64 w3) (bounds_i64 w4) (by omega) w hT
end Go.Proofs.YthlajfoipafaaaaDoor
