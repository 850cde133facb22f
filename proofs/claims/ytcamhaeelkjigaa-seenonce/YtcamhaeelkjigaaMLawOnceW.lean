/- The walk of SeenOnce. -/
import Derived.Test.YtcamhaeelkjigaaSenH
import Derived.Test.YtcamhaeelkjigaaSenL
import Derived.Test.YtcamhaeelkjigaaRegU
namespace Go.Proofs.Ytcamhaeelkjigaa
open Go.RowKit Go.Lib

set_option maxRecDepth 100000 in
theorem zeroHad (w : World) : (zeroValue 47).run Try.prog w = .ok (.agg (hadL []).toArray) w := by kernel_rfl
set_option maxRecDepth 100000 in
theorem zeroRow (w : World) : (zeroValue 46).run Try.prog w = .ok (.agg (List.replicate 18 (.bool false)).toArray) w := by kernel_rfl
theorem rows18 : (List.replicate 18 (Value.bool false)).toArray.all (·.oneCell') = true := all_oneCell_toArray fun v hv => by rw [List.eq_of_mem_replicate hv]; rfl
set_option maxHeartbeats 8000000 in
set_option maxRecDepth 100000 in
theorem sonce_walk (v pv : Value) (rs : List Mk) (ps : List Int) (w : World) (hv : Mks w w.heap.size v rs) (h9 : rs.length ≤ maxLen) (hraw : ∀ r ∈ rs, RawM r) (hp : Ints w w.heap.size pv ps) (hp9 : ps.length ≤ maxLen) (hpr : ∀ x ∈ ps, I64M x) :
    Calls Try.prog 4 #[v, pv] w fun o w' => o = .returned (.bool true) ∧ Below w.heap.size w w' := by
  obtain ⟨A, c, rfl, hc⟩ := hv.form
  obtain ⟨Ap, cp, rfl, hcp⟩ := hp.form
  have h9' : rs.length ≤ 9223372036854775807 := h9
  have hp9' : ps.length ≤ 9223372036854775807 := hp9
  have B0 := Below.refl w.heap.size w
  go_enter Try.func4, Try.ntmps4
  go_wp2_with fail
  with_reducible refine (awake13_any _).mono ?_
  rintro o w1 ⟨rfl, b1⟩
  replace hv := hv.on b1
  replace hp := hp.on b1
  replace B0 := B0.trans (b1.mono B0.size)
  clear b1
  go_upto_region 3 with (fail)
  have qH := RowAt.new w1 47 (hadL []).toArray
  rw [show (hadL []).toArray.toList = hadL [] from rfl] at qH
  have BH := (Below.refl w1.heap.size w1).alloc (Nat.le_refl _) (.cells (hadL []).toArray 47)
  have zH := zeroHad w1
  go_upto_region 4 with (fail)
  clear zH
  generalize w1.alloc (.cells (hadL []).toArray 47) = w2 at *
  obtain ⟨gH, hgH⟩ : ∃ gH, gH = w1.heap.size := ⟨_, rfl⟩
  rw [← hgH] at qH BH hv hp ⊢
  have HgH := Lib.hid hgH
  clear hgH
  have hv0 := hv
  have hp0 := hp
  clear hv hp
  go_wp2_with fail
  go_loopw [6, 8, 9, 10, 11, 12, 13, 14] (fun u iv _ _ _ _ _ _ wr => ∃ (i : Nat) (L : List Mk), i ≤ rs.length ∧ i ≤ 40 ∧ iv = .int .i64 i ∧ (RightM L ∧ (∀ m ∈ L, FewM m) ∧ L.length ≤ i) ∧ (∃ A c, u = .slice A L.length c ∧ Mks wr wr.heap.size (.slice A L.length c) L ∧ FromOn (gH + 1) (.slice A L.length c)) ∧ RowAt wr gH 47 (hadL L) ∧ Below gH w1 wr) (fun _ iv _ _ _ _ _ _ _ => 41 - (intOf iv).toNat)
  case atStart => exact ⟨0, [], Nat.zero_le _, by omega, rfl, ⟨RightM.nil, fun m h => absurd h (by simp), Nat.le_refl _⟩, ⟨none, 0, rfl, Mks.nil _ _, fun ad n c h => by cases h⟩, qH, BH⟩
  case round =>
    obtain ⟨i, L, hi1, hi2, rfl, ⟨hR, hF, hLi⟩, ⟨Al, cl, rfl, hl, hfl⟩, qL, hb⟩ := hrel
    clear qH BH
    have hv : Mks wr wr.heap.size (.slice A rs.length c) rs := (hv0.below hb (Nat.le_refl _)).more (by rw [HgH.out]; exact hb.size)
    by_cases hlt : i < rs.length ∧ i < 40
    · obtain ⟨hil, hi40⟩ := hlt
      have g1 : ((i : Int) < (rs.length : Int)) = True := eq_true (by omega)
      have g2 : (i < rs.length) = True := eq_true hil
      have g3 : ((i : Int) < 40) = True := eq_true (by omega)
      have g4 : (i < 40) = True := eq_true hi40
      obtain ⟨m0, m1, m2, hm⟩ : ∃ m0 m1 m2, markOf rs[i] = (m0, m1, m2) := ⟨_, _, _, rfl⟩
      have hfm := markOf_few rs[i]
      rw [hm] at hfm
      have cM := fun W => Mark_any (rs[i]).1 (rs[i]).2.1 (rs[i]).2.2 m0 m1 m2 W (hraw _ (List.getElem_mem hil)) hm
      clear hm
      obtain ⟨ad, rfl, _, a1, a2, a3⟩ := hv.at_ hil
      generalize (rs[i]).1 = r0 at *
      generalize (rs[i]).2.1 = r1 at *
      generalize (rs[i]).2.2 = r2 at *
      obtain ⟨P0, rfl⟩ := Int.eq_ofNat_of_zero_le hfm.1
      obtain ⟨P1, rfl⟩ := Int.eq_ofNat_of_zero_le hfm.2.2.1
      obtain ⟨P2, rfl⟩ := Int.eq_ofNat_of_zero_le hfm.2.2.2.2.1
      have hP0 : P0 < 5 := by have := hfm.2.1; simp only at this; omega
      have hP1 : P1 < 3 := by have := hfm.2.2.2.1; simp only at this; omega
      have hP2 : P2 < 6 := by have := hfm.2.2.2.2.2; simp only at this; omega
      go_wp2_with fail
      with_reducible refine (cM _).mono ?_
      rintro e w3 ⟨rfl, b3⟩
      replace hb := hb.trans (b3.mono (Nat.le_of_lt qL.lt))
      replace hl := hl.on b3
      replace qL := qL.on b3
      clear a1 a2 a3 b3 cM
      go_upto_region 8 with (fail)
      have qm := RowAt.new w3 25 #[.int .i64 (P0 : Int), .int .i64 (P1 : Int), .int .i64 (P2 : Int)]
      have b3 := (Below.refl w3.heap.size w3).alloc (Nat.le_refl _) (.cells #[.int .i64 (P0 : Int), .int .i64 (P1 : Int), .int .i64 (P2 : Int)] 25)
      replace hb := hb.trans (b3.mono (Nat.le_of_lt qL.lt))
      replace hl := hl.on b3
      replace qL := qL.on b3
      clear b3
      obtain ⟨gM, hgM⟩ : ∃ gM, gM = w3.heap.size := ⟨_, rfl⟩
      rw [← hgM] at qm ⊢
      generalize w3.alloc (.cells #[.int .i64 (P0 : Int), .int .i64 (P1 : Int), .int .i64 (P2 : Int)] 25) = w4 at *
      clear hgM
      obtain ⟨f0, f1, f2⟩ : w4.cell? ⟨gM, 0, none⟩ = some (.int .i64 (P0 : Int)) ∧ w4.cell? ⟨gM, 1, none⟩ = some (.int .i64 (P1 : Int)) ∧ w4.cell? ⟨gM, 2, none⟩ = some (.int .i64 (P2 : Int)) := ⟨qm.cell 0, qm.cell 1, qm.cell 2⟩
      have i0 : ((P0 : Int) < 5) = True := eq_true (by omega)
      have i1 : ((P1 : Int) < 3) = True := eq_true (by omega)
      have i2 : ((P2 : Int) < 6) = True := eq_true (by omega)
      have j0 : (P0 < 5) = True := eq_true hP0
      have j1 : (P1 < 3) = True := eq_true hP1
      have j2 : (P2 < 6) = True := eq_true hP2
      by_cases hin : ((P0 : Int), (P1 : Int), (P2 : Int)) ∈ L
      · have cA := fun W (h : Mks W W.heap.size (.slice Al L.length cl) L) => sAdd_any _ L 200 P0 P1 P2 W h (by omega) (by decide) [] 7 (addR_in hR hfm.may hin)
        have HG := Lib.hid (hadL_get L hP0 hP1 hP2)
        rw [decide_eq_true hin] at HG
        have cH := fun W (h : Mks W W.heap.size (.slice Al L.length cl) L) => sHas_any _ L P0 P1 P2 W h (by omega)
        rw [hasM_yes (decide_eq_true hR) hin] at cH
        clear hin
        go_wp2_with fail
        with_reducible refine (cA _ hl).mono ?_
        rintro e w5 ⟨A5, c5, rfl, hl5, hf5, b5⟩
        replace hb := hb.trans (b5.mono (Nat.le_of_lt qL.lt))
        replace hl := hl.on b5
        replace qm := qm.on b5
        replace qL := qL.on b5
        clear b5 cA f0 f1 f2 hl5 hf5
        have x0 := row_later qm 0 _ rfl
        have x1 := row_later qm 1 _ rfl
        have x2 := row_later qm 2 _ rfl
        have xH := row_later qL _ _ HG.out
        go_upto_region 9 with (fail)
        refine wp_region_later (by kernel_rfl) (by kernel_rfl) ?_
        repeat (go_big_quiet_step (fail))
        refine wpQuiet_nil ?_
        intro _ hw'
        obtain ⟨pq, rfl⟩ := hw'
        have b6 := pq.h
        generalize pq.W = w6 at *
        clear x0 x1 x2 xH
        replace hb := hb.trans (b6.mono (Nat.le_of_lt qL.lt))
        replace hl := hl.on b6
        replace qm := qm.on b6
        replace qL := qL.on b6
        clear b6 pq HG
        obtain ⟨f0, f1, f2⟩ : w6.cell? ⟨gM, 0, none⟩ = some (.int .i64 (P0 : Int)) ∧ w6.cell? ⟨gM, 1, none⟩ = some (.int .i64 (P1 : Int)) ∧ w6.cell? ⟨gM, 2, none⟩ = some (.int .i64 (P2 : Int)) := ⟨qm.cell 0, qm.cell 1, qm.cell 2⟩
        go_wp2_with fail
        with_reducible refine (cH _ hl).mono ?_
        rintro e w7 ⟨rfl, b7⟩
        replace hb := hb.trans (b7.mono (Nat.le_of_lt qL.lt))
        replace hl := hl.on b7
        replace qL := qL.on b7
        clear b7 cH f0 f1 f2 qm
        have hp : Ints w7 w7.heap.size (.slice Ap ps.length cp) ps := (hp0.below hb (Nat.le_refl _)).more (by rw [HgH.out]; exact hb.size)
        by_cases hip : i < ps.length
        · have p1 : ((i : Int) < (ps.length : Int)) = True := eq_true (by omega)
          have p2 : (i < ps.length) = True := eq_true hip
          obtain ⟨adp, rfl, _, a1⟩ := hp.at_ hip
          have hpi := hpr _ (List.getElem_mem hip)
          generalize ps[i] = pz at *
          obtain ⟨z4, hz4⟩ : ∃ z, pickM pz 4 = z := ⟨_, rfl⟩
          obtain ⟨z7, hz7⟩ : ∃ z, pickM pz 7 = z := ⟨_, rfl⟩
          have hb7 := pickM_bd pz 7 (by omega)
          rw [hz7] at hb7
          obtain ⟨K, rfl⟩ := Int.eq_ofNat_of_zero_le hb7.1
          have cP4 := fun W => pickM_same hz4 hpi (by decide) (by decide) W
          have cP7 := fun W => pickM_same hz7 hpi (by decide) (by decide) W
          clear hz4 hz7
          by_cases hz : z4 = 0
          · subst hz
            have cPr := fun W (h : Mks W W.heap.size (.slice Al (L).length cl) L) => sPrune_any _ L (K : Int) W h (by omega) (pruneM K L) (by unfold pruneR; rw [show rightMB L = true from decide_eq_true hR, if_pos (by rfl)])
            go_wp2_with fail
            with_reducible refine (cP4 _).mono ?_
            rintro e w9 ⟨rfl, rfl⟩
            go_wp2_with fail
            with_reducible refine (cP7 _).mono ?_
            rintro e w9 ⟨rfl, rfl⟩
            clear a1 cP4 cP7
            go_wp2_with fail
            with_reducible refine (cPr _ hl).mono ?_
            rintro e w9 ⟨A9, c9, rfl, hl9, hf9, b9⟩
            replace hf9 : FromOn (gH + 1) (.slice A9 (pruneM (K : Int) L).length c9) := fun ad n c h => Nat.le_trans qL.lt (hf9 ad n c h)
            replace hb := hb.trans (b9.mono (Nat.le_of_lt qL.lt))
            replace qL := qL.on b9
            clear b9 cPr
            have qx := qL
            rw [← prune_none hF] at qx
            clear qL
            have hlen9 := pruneM_len (K : Int) L
            have HE := Lib.hid (fun (h : 5 ≤ K) => (prune_all hF (k := (K : Int)) (by omega)).trans (prune_all hF (k := ((5 : Nat) : Int)) (by omega)).symm)
            have HPR := Lib.hid (fun (k : Nat) (h : k < 5) => hadL_prune L k h)
            go_wp2_with fail
            go_loopw [14] (fun xv wx => ∃ k : Nat, k ≤ K ∧ k ≤ 5 ∧ xv = .int .i64 k ∧ Mks wx wx.heap.size (.slice A9 (pruneM (K : Int) L).length c9) (pruneM (K : Int) L) ∧ RowAt wx gH 47 (hadL (pruneM (k : Int) L)) ∧ Below gH w1 wx) (fun xv _ => 5 - (intOf xv).toNat)
            case atStart => exact ⟨0, Nat.zero_le _, by omega, rfl, hl9, qx, hb⟩
            case round =>
              obtain ⟨k, hk1, hk2, rfl, hlx, qx2, hbx⟩ := hrel
              clear qx hb hl9
              by_cases hkK : k < K
              · have u1 : ((k : Int) < (K : Int)) = True := eq_true (by omega)
                have u2 : (k < K) = True := eq_true hkK
                by_cases hk5 : k < 5
                · have u3 : ((k : Int) < 5) = True := eq_true (by omega)
                  have u4 : (k < 5) = True := eq_true hk5
                  have u5 : ((k : Int) < 0) = False := eq_false (by omega)
                  go_upto_region 21 with (fail)
                  have hth := qx2.there (k * 18) 18 (by rw [hadL_len]; omega)
                  refine wp_region_lit ?_
                  have zR := zeroRow wr
                  iterate 9 go_step
                  clear zR
                  obtain ⟨wz, hwz⟩ : ∃ wz, wz = wr.setCells gH (k * 18) (List.replicate 18 (.bool false)) := ⟨_, rfl⟩
                  have q3 := RowAt.setCells (List.replicate 18 (.bool false)) wr _ (k * 18) qx2
                  rw [HPR.out k hk5] at q3
                  have h3 := (Mks.setCells hf9 (Nat.lt_succ_self gH) (List.replicate 18 (.bool false)) wr (k * 18) hlx).more (Nat.le_of_eq (size_setCells (g := gH) (List.replicate 18 (.bool false)) wr (k * 18)).symm)
                  have b3 := Below.setCells (List.replicate 18 (.bool false)) (Nat.le_refl gH) wr (k * 18) hbx
                  refine wpList_store_mid rfl 46 _ _ rfl gH (k * 18) (List.replicate 18 (.bool false)).toArray rfl rfl hth (by kernel_rfl) rows18 ?_
                  change wpList _ _ _ [] _ (wr.setCells gH (k * 18) (List.replicate 18 (.bool false)))
                  rw [← hwz] at q3 h3 b3 ⊢
                  clear hwz
                  go_simp
                  go_wp2_with fail
                  go_roundw
                  case rel => exact ⟨k + 1, by omega, by omega, by go_num, h3, q3, b3⟩
                  case measure => simp [intOf]; omega
                · obtain rfl : k = 5 := by omega
                  have u3 : (((5 : Nat) : Int) < 5) = False := eq_false (by omega)
                  rw [← HE.out (by omega)] at qx2
                  go_wp2_with fail
                  go_roundw
                  case rel => exact ⟨i + 1, pruneM (K : Int) L, by omega, by omega, by go_num, ⟨prune_right hR, fun m h => hF m (mem_prune.1 h).1, by omega⟩, ⟨_, _, rfl, hlx, hf9⟩, qx2, hbx⟩
                  case measure => simp [intOf]; omega
              · obtain rfl : k = K := by omega
                have u1 : ((k : Int) < (k : Int)) = False := eq_false (by omega)
                go_wp2_with fail
                go_roundw
                case rel => exact ⟨i + 1, pruneM (k : Int) L, by omega, by omega, by go_num, ⟨prune_right hR, fun m h => hF m (mem_prune.1 h).1, by omega⟩, ⟨_, _, rfl, hlx, hf9⟩, qx2, hbx⟩
                case measure => simp [intOf]; omega
          · have n4 : (z4 == 0) = false := by simpa using hz
            have n5 : (z4 = 0) = False := eq_false hz
            go_wp2_with fail
            with_reducible refine (cP4 _).mono ?_
            rintro e w9 ⟨rfl, rfl⟩
            go_wp2_with fail
            go_roundw
            case rel => exact ⟨i + 1, L, by omega, by omega, by go_num, ⟨hR, hF, (by omega)⟩, ⟨_, _, rfl, hl, hfl⟩, qL, hb⟩
            case measure => simp [intOf]; omega
        · have p1 : ((i : Int) < (ps.length : Int)) = False := eq_false (by omega)
          have p2 : (i < ps.length) = False := eq_false hip
          go_wp2_with fail
          go_roundw
          case rel => exact ⟨i + 1, L, by omega, by omega, by go_num, ⟨hR, hF, (by omega)⟩, ⟨_, _, rfl, hl, hfl⟩, qL, hb⟩
          case measure => simp [intOf]; omega
      · obtain ⟨N, hN⟩ : ∃ N, addM L ((P0 : Int), (P1 : Int), (P2 : Int)) = N := ⟨_, rfl⟩
        have hNR : RightM N := by rw [← hN]; exact addM_right hR (of_decide_eq_true hfm.may)
        have hNm : ∀ x, x ∈ N ↔ x = ((P0 : Int), (P1 : Int), (P2 : Int)) ∨ x ∈ L := fun x => by rw [← hN]; exact mem_addM
        have hNF : ∀ m ∈ N, FewM m := fun m h => ((hNm m).1 h).elim (fun e => e ▸ hfm) (hF m)
        have hNl : N.length = L.length + 1 := by rw [← hN]; unfold addM; rw [if_neg hin, len_ins]
        have HNL := Lib.hid hNl
        have HSet := Lib.hid (hadL_set L N hP0 hP1 hP2 hNm)
        have cA := fun W (h : Mks W W.heap.size (.slice Al L.length cl) L) => sAdd_any _ L 200 P0 P1 P2 W h (by omega) (by decide) N 0 (by rw [← hN]; exact addR_new hR hfm.may hin (by omega))
        have HG := Lib.hid (hadL_get L hP0 hP1 hP2)
        rw [decide_eq_false hin] at HG
        have cH := fun W (h : Mks W W.heap.size (.slice Al L.length cl) L) => sHas_any _ L P0 P1 P2 W h (by omega)
        rw [hasM_no hin] at cH
        have cH2 := fun B C W (h : Mks W W.heap.size (.slice B N.length C) N) => sHas_any _ N P0 P1 P2 W h (by omega)
        rw [hasM_yes (decide_eq_true hNR) ((hNm _).2 (.inl rfl))] at cH2
        have e4 : ((N.length : Int) = (L.length : Int) + 1) = True := eq_true (by omega)
        have e5 : IntKind.i64.wrap ((L.length : Int) + 1) = (L.length : Int) + 1 := IntWalk.i64_in _ (by omega)
        have e6 : ((N.length : Int) == (L.length : Int) + 1) = true := by rw [beq_iff_eq]; omega
        clear hin hN hNl hNm
        go_wp2_with fail
        with_reducible refine (cA _ hl).mono ?_
        rintro e w5 ⟨A5, c5, rfl, hl5, hf5, b5⟩
        replace hf5 : FromOn (gH + 1) (.slice A5 N.length c5) := fun ad n c h => Nat.le_trans qL.lt (hf5 ad n c h)
        replace hb := hb.trans (b5.mono (Nat.le_of_lt qL.lt))
        replace hl := hl.on b5
        replace qm := qm.on b5
        replace qL := qL.on b5
        clear b5 cA f0 f1 f2
        have x0 := row_later qm 0 _ rfl
        have x1 := row_later qm 1 _ rfl
        have x2 := row_later qm 2 _ rfl
        have xH := row_later qL _ _ HG.out
        go_upto_region 9 with (fail)
        refine wp_region_later (by kernel_rfl) (by kernel_rfl) ?_
        repeat (go_big_quiet_step (fail))
        refine wpQuiet_nil ?_
        intro _ hw'
        obtain ⟨pq, rfl⟩ := hw'
        have b6 := pq.h
        generalize pq.W = w6 at *
        clear x0 x1 x2 xH
        replace hb := hb.trans (b6.mono (Nat.le_of_lt qL.lt))
        replace hl := hl.on b6
        replace hl5 := hl5.on b6
        replace qm := qm.on b6
        replace qL := qL.on b6
        clear b6 pq
        obtain ⟨f0, f1, f2⟩ : w6.cell? ⟨gM, 0, none⟩ = some (.int .i64 (P0 : Int)) ∧ w6.cell? ⟨gM, 1, none⟩ = some (.int .i64 (P1 : Int)) ∧ w6.cell? ⟨gM, 2, none⟩ = some (.int .i64 (P2 : Int)) := ⟨qm.cell 0, qm.cell 1, qm.cell 2⟩
        go_wp2_with fail
        with_reducible refine (cH _ hl).mono ?_
        rintro e w7 ⟨rfl, b7⟩
        replace hb := hb.trans (b7.mono (Nat.le_of_lt qL.lt))
        replace hl5 := hl5.on b7
        replace qm := qm.on b7
        replace qL := qL.on b7
        clear b7 cH f0 f1 f2 hl
        obtain ⟨f0, f1, f2⟩ : w7.cell? ⟨gM, 0, none⟩ = some (.int .i64 (P0 : Int)) ∧ w7.cell? ⟨gM, 1, none⟩ = some (.int .i64 (P1 : Int)) ∧ w7.cell? ⟨gM, 2, none⟩ = some (.int .i64 (P2 : Int)) := ⟨qm.cell 0, qm.cell 1, qm.cell 2⟩
        go_wp2_with fail
        with_reducible refine (cH2 _ _ _ hl5).mono ?_
        rintro e w8 ⟨rfl, b8⟩
        replace hb := hb.trans (b8.mono (Nat.le_of_lt qL.lt))
        replace hl5 := hl5.on b8
        replace qm := qm.on b8
        replace qL := qL.on b8
        clear b8 cH2 f0 f1 f2
        go_upto_region 14 with (fail)
        clear e4 e5 e6
        have x0 := qm.laterT 0 _ rfl
        have x1 := qm.laterT 1 _ rfl
        have x2 := qm.laterT 2 _ rfl
        refine wp_region_later_tail0 9 1 (by kernel_rfl) (by kernel_rfl) ?_
        simp only [List.take_succ_cons, List.take_zero]
        repeat (go_big_quiet_step (fail))
        refine wpQuiet_nil ?_
        intro w' hw'
        obtain ⟨pq, rfl⟩ := hw'
        have b6 := pq.h
        generalize pq.W = wT at *
        clear x0 x1 x2
        replace hb := hb.trans (b6.mono (Nat.le_of_lt qL.lt))
        replace hl5 := hl5.on b6
        replace qm := qm.on b6
        replace qL := qL.on b6
        clear b6 pq
        simp only [List.drop_succ_cons, List.drop_zero, List.take_succ_cons, List.take_zero]
        have fz := qL.frozen (P0 * 18 + P1 * 6 + P2)
        have cz := (qL.cell (P0 * 18 + P1 * 6 + P2)).trans HG.out
        go_upto_region 15 with (fail)
        clear fz cz HG qm
        replace hl5 := (hl5.setCell hf5 (p := ⟨gH, P0 * 18 + P1 * 6 + P2, none⟩) (Nat.lt_succ_self gH) (.bool true)).more (Nat.le_of_eq (by simp [World.setCell]) : _ ≤ (wT.setCell ⟨gH, P0 * 18 + P1 * 6 + P2, none⟩ (.bool true)).heap.size)
        replace hb := hb.setCell (p := ⟨gH, P0 * 18 + P1 * 6 + P2, none⟩) (Nat.le_refl _) (.bool true)
        replace qL := qL.set (P0 * 18 + P1 * 6 + P2) (.bool true)
        rw [HSet.out] at qL
        clear HSet
        generalize wT.setCell ⟨gH, P0 * 18 + P1 * 6 + P2, none⟩ (.bool true) = wS at *
        have hp : Ints wS wS.heap.size (.slice Ap ps.length cp) ps := (hp0.below hb (Nat.le_refl _)).more (by rw [HgH.out]; exact hb.size)
        by_cases hip : i < ps.length
        · have p1 : ((i : Int) < (ps.length : Int)) = True := eq_true (by omega)
          have p2 : (i < ps.length) = True := eq_true hip
          obtain ⟨adp, rfl, _, a1⟩ := hp.at_ hip
          have hpi := hpr _ (List.getElem_mem hip)
          generalize ps[i] = pz at *
          obtain ⟨z4, hz4⟩ : ∃ z, pickM pz 4 = z := ⟨_, rfl⟩
          obtain ⟨z7, hz7⟩ : ∃ z, pickM pz 7 = z := ⟨_, rfl⟩
          have hb7 := pickM_bd pz 7 (by omega)
          rw [hz7] at hb7
          obtain ⟨K, rfl⟩ := Int.eq_ofNat_of_zero_le hb7.1
          have cP4 := fun W => pickM_same hz4 hpi (by decide) (by decide) W
          have cP7 := fun W => pickM_same hz7 hpi (by decide) (by decide) W
          clear hz4 hz7
          by_cases hz : z4 = 0
          · subst hz
            have cPr := fun W (h : Mks W W.heap.size (.slice A5 (N).length c5) N) => sPrune_any _ N (K : Int) W h (by have := HNL.out; omega) (pruneM K N) (by unfold pruneR; rw [show rightMB N = true from decide_eq_true hNR, if_pos (by rfl)])
            go_wp2_with fail
            with_reducible refine (cP4 _).mono ?_
            rintro e w9 ⟨rfl, rfl⟩
            go_wp2_with fail
            with_reducible refine (cP7 _).mono ?_
            rintro e w9 ⟨rfl, rfl⟩
            clear a1 cP4 cP7
            go_wp2_with fail
            with_reducible refine (cPr _ hl5).mono ?_
            rintro e w9 ⟨A9, c9, rfl, hl9, hf9, b9⟩
            replace hf9 : FromOn (gH + 1) (.slice A9 (pruneM (K : Int) N).length c9) := fun ad n c h => Nat.le_trans qL.lt (hf9 ad n c h)
            replace hb := hb.trans (b9.mono (Nat.le_of_lt qL.lt))
            replace qL := qL.on b9
            clear b9 cPr
            have qx := qL
            rw [← prune_none hNF] at qx
            clear qL
            have hlen9 := pruneM_len (K : Int) N
            have HE := Lib.hid (fun (h : 5 ≤ K) => (prune_all hNF (k := (K : Int)) (by omega)).trans (prune_all hNF (k := ((5 : Nat) : Int)) (by omega)).symm)
            have HPR := Lib.hid (fun (k : Nat) (h : k < 5) => hadL_prune N k h)
            go_wp2_with fail
            go_loopw [14] (fun xv wx => ∃ k : Nat, k ≤ K ∧ k ≤ 5 ∧ xv = .int .i64 k ∧ Mks wx wx.heap.size (.slice A9 (pruneM (K : Int) N).length c9) (pruneM (K : Int) N) ∧ RowAt wx gH 47 (hadL (pruneM (k : Int) N)) ∧ Below gH w1 wx) (fun xv _ => 5 - (intOf xv).toNat)
            case atStart => exact ⟨0, Nat.zero_le _, by omega, rfl, hl9, qx, hb⟩
            case round =>
              obtain ⟨k, hk1, hk2, rfl, hlx, qx2, hbx⟩ := hrel
              clear qx hb hl9
              by_cases hkK : k < K
              · have u1 : ((k : Int) < (K : Int)) = True := eq_true (by omega)
                have u2 : (k < K) = True := eq_true hkK
                by_cases hk5 : k < 5
                · have u3 : ((k : Int) < 5) = True := eq_true (by omega)
                  have u4 : (k < 5) = True := eq_true hk5
                  have u5 : ((k : Int) < 0) = False := eq_false (by omega)
                  go_upto_region 21 with (fail)
                  have hth := qx2.there (k * 18) 18 (by rw [hadL_len]; omega)
                  refine wp_region_lit ?_
                  have zR := zeroRow wr
                  iterate 9 go_step
                  clear zR
                  obtain ⟨wz, hwz⟩ : ∃ wz, wz = wr.setCells gH (k * 18) (List.replicate 18 (.bool false)) := ⟨_, rfl⟩
                  have q3 := RowAt.setCells (List.replicate 18 (.bool false)) wr _ (k * 18) qx2
                  rw [HPR.out k hk5] at q3
                  have h3 := (Mks.setCells hf9 (Nat.lt_succ_self gH) (List.replicate 18 (.bool false)) wr (k * 18) hlx).more (Nat.le_of_eq (size_setCells (g := gH) (List.replicate 18 (.bool false)) wr (k * 18)).symm)
                  have b3 := Below.setCells (List.replicate 18 (.bool false)) (Nat.le_refl gH) wr (k * 18) hbx
                  refine wpList_store_mid rfl 46 _ _ rfl gH (k * 18) (List.replicate 18 (.bool false)).toArray rfl rfl hth (by kernel_rfl) rows18 ?_
                  change wpList _ _ _ [] _ (wr.setCells gH (k * 18) (List.replicate 18 (.bool false)))
                  rw [← hwz] at q3 h3 b3 ⊢
                  clear hwz
                  go_simp
                  go_wp2_with fail
                  go_roundw
                  case rel => exact ⟨k + 1, by omega, by omega, by go_num, h3, q3, b3⟩
                  case measure => simp [intOf]; omega
                · obtain rfl : k = 5 := by omega
                  have u3 : (((5 : Nat) : Int) < 5) = False := eq_false (by omega)
                  rw [← HE.out (by omega)] at qx2
                  go_wp2_with fail
                  go_roundw
                  case rel => exact ⟨i + 1, pruneM (K : Int) N, by omega, by omega, by go_num, ⟨prune_right hNR, fun m h => hNF m (mem_prune.1 h).1, by have := HNL.out; omega⟩, ⟨_, _, rfl, hlx, hf9⟩, qx2, hbx⟩
                  case measure => simp [intOf]; omega
              · obtain rfl : k = K := by omega
                have u1 : ((k : Int) < (k : Int)) = False := eq_false (by omega)
                go_wp2_with fail
                go_roundw
                case rel => exact ⟨i + 1, pruneM (k : Int) N, by omega, by omega, by go_num, ⟨prune_right hNR, fun m h => hNF m (mem_prune.1 h).1, by have := HNL.out; omega⟩, ⟨_, _, rfl, hlx, hf9⟩, qx2, hbx⟩
                case measure => simp [intOf]; omega
          · have n4 : (z4 == 0) = false := by simpa using hz
            have n5 : (z4 = 0) = False := eq_false hz
            go_wp2_with fail
            with_reducible refine (cP4 _).mono ?_
            rintro e w9 ⟨rfl, rfl⟩
            go_wp2_with fail
            go_roundw
            case rel => exact ⟨i + 1, N, by omega, by omega, by go_num, ⟨hNR, hNF, (by rw [HNL.out]; omega)⟩, ⟨_, _, rfl, hl5, hf5⟩, qL, hb⟩
            case measure => simp [intOf]; omega
        · have p1 : ((i : Int) < (ps.length : Int)) = False := eq_false (by omega)
          have p2 : (i < ps.length) = False := eq_false hip
          go_wp2_with fail
          go_roundw
          case rel => exact ⟨i + 1, N, by omega, by omega, by go_num, ⟨hNR, hNF, (by rw [HNL.out]; omega)⟩, ⟨_, _, rfl, hl5, hf5⟩, qL, hb⟩
          case measure => simp [intOf]; omega
    · have cR := fun W (h : Mks W W.heap.size (.slice Al L.length cl) L) => sRight_any _ L W h (by unfold maxLen; omega)
      rw [show rightMB L = true from decide_eq_true hR] at cR
      by_cases hil : i < rs.length
      · have g1 : ((i : Int) < (rs.length : Int)) = True := eq_true (by omega)
        have g2 : (i < rs.length) = True := eq_true hil
        have g3 : ((i : Int) < 40) = False := eq_false (by omega)
        have g4 : (i < 40) = False := eq_false (by omega)
        go_wp2_with fail
        with_reducible refine (cR _ hl).mono ?_
        rintro o w9 ⟨rfl, b9⟩
        replace hb := hb.trans (b9.mono (Nat.le_of_lt qL.lt))
        go_wp2_with fail
        go_ret
        exact ⟨rfl, B0.trans (hb.mono (by rw [HgH.out]; exact B0.size))⟩
      · have g1 : ((i : Int) < (rs.length : Int)) = False := eq_false (by omega)
        have g2 : (i < rs.length) = False := eq_false hil
        go_wp2_with fail
        with_reducible refine (cR _ hl).mono ?_
        rintro o w9 ⟨rfl, b9⟩
        replace hb := hb.trans (b9.mono (Nat.le_of_lt qL.lt))
        go_wp2_with fail
        go_ret
        exact ⟨rfl, B0.trans (hb.mono (by rw [HgH.out]; exact B0.size))⟩
end Go.Proofs.Ytcamhaeelkjigaa
