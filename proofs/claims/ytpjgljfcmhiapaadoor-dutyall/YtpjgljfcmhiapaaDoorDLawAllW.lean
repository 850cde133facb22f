/- The walk of DutyAll. -/
import Derived.Test.YtpjgljfcmhiapaaDoorDutI
import Derived.Test.YtpjgljfcmhiapaaDoorAppA
import Derived.Deep.RegionHeld3
namespace Go.Proofs.YtpjgljfcmhiapaaDoor
open Go.RowKit Go.Lib

theorem memL_join {V K sd a b : Nat} (h : a ≤ b) : memL V K sd 0 a ++ memL V K sd a b = memL V K sd 0 b := by
  unfold memL
  rw [← List.map_append]
  congr 1
  have := List.range'_append_1 (s := 0) (m := a) (n := b - a)
  simp only [Nat.zero_add, Nat.sub_zero] at this ⊢
  rw [this, show a + (b - a) = b by omega]
theorem memL_all (V K sd : Nat) : memL V K sd 0 V = runL (roundS V sd) V (List.range K) := by
  unfold memL runL
  rw [Nat.sub_zero, ← List.range_eq_range']
theorem intsV_length (l : List Nat) : (intsV l).length = l.length := List.length_map _
theorem intsV_append (a b : List Nat) : intsV (a ++ b) = intsV a ++ intsV b := List.map_append
theorem intsV_one (l : List Nat) : ∀ u ∈ intsV l, u.oneCell' = true := by
  intro u hu
  obtain ⟨x, _, rfl⟩ := List.mem_map.1 hu
  rfl
theorem row_news {w : World} {g : Nat} {t : TypeId} {l : List Nat} (h : RowAt w g t (intsV l)) : 0 < l.length → ∃ ad, (some (⟨g, 0, none⟩ : Addr)) = some ad ∧ ∀ j u, (intsV l)[j]? = some u → w.cell? (ad.add j) = some u := fun _ =>
  ⟨_, rfl, fun j u hj => by
    have e1 : (⟨g, 0, none⟩ : Addr).add j = ⟨g, j, none⟩ := by unfold Addr.add; split <;> simp_all
    rw [e1, h.cell]; exact hj⟩
theorem own_ints {w : World} {base : Nat} {e : TypeId} {S : Option Addr} {n c : Nat} {l : List Nat} (h : w.ownsRow base e 1 (.slice S n c) n (intsV l)) (hn : n = l.length) : Ints w w.heap.size (.slice S n c) (l.map fun n : Nat => (n : Int)) := by
  subst hn
  have h2 : w.ownsRow base e 1 (.slice S l.length c) (l.map fun n : Nat => (n : Int)).length ((l.map fun n : Nat => (n : Int)).map (Value.int .i64)) := by
    rw [List.length_map, List.map_map]; exact h
  exact Elems.own h2

set_option maxHeartbeats 4000000 in
set_option maxRecDepth 100000 in
theorem dall_walk (n0 n1 n2 n3 n4 n5 ep : Int) (Z : Nat) (b0 : I64K n0) (b1 : I64K n1) (b2 : I64K n2) (b3 : I64K n3) (b4 : I64K n4) (b5 : I64K n5) (be : I64K ep) (w : World) (hT : Both w) :
    Calls Tryd.prog 8 #[.agg #[.int .i64 n0, .int .i64 n1, .int .i64 n2, .int .i64 n3, .int .i64 n4, .int .i64 n5], .int .u64 (Z : Int), .int .i64 ep] w fun o w' => o = .returned (.bool true) ∧ Below w.heap.size w w' := by
  obtain ⟨V, S, C, N, T, D, R, K, G, hfit, cCh⟩ := raw_chain n0 n1 n2 n3 n4 n5 b0 b1 b2 b3 b4 b5 Z
  obtain ⟨v1, v2, kK, s1, s2, c1, c2⟩ : 1 ≤ V ∧ V ≤ 1024 ∧ K ≤ 90 ∧ 1 ≤ S ∧ S ≤ 32 ∧ 1 ≤ C ∧ C ≤ 8 := ⟨hfit.v1, hfit.v2, hfit.k2, hfit.s1, hfit.s2, hfit.c1, hfit.c2⟩
  obtain ⟨m1, m2⟩ := numC_bd s1 s2 c1 c2
  obtain ⟨i0, hi, hy0, hy1, hy2⟩ := info_parts info_int
  have hp1 := pickS_lt ep 1073741824 (by decide)
  have cP := fun W => pick10_any ep 1073741824 W be (by decide) (by decide)
  generalize pickS ep 1073741824 = e at *
  have q6 := RowAt.new w 25 #[.int .i64 n0, .int .i64 n1, .int .i64 n2, .int .i64 n3, .int .i64 n4, .int .i64 n5]
  have B0 := (Below.refl w.heap.size w).alloc (Nat.le_refl _) (.cells #[.int .i64 n0, .int .i64 n1, .int .i64 n2, .int .i64 n3, .int .i64 n4, .int .i64 n5] 25)
  have hT0 : Both (w.alloc (.cells #[.int .i64 n0, .int .i64 n1, .int .i64 n2, .int .i64 n3, .int .i64 n4, .int .i64 n5] 25)) := ⟨hT.1.below B0 hT.1.lt, hT.2.below B0 hT.2.lt⟩
  go_enter Tryd.func8, Tryd.ntmps8
  go_wp2_with fail
  with_reducible refine (awake10_any _ hT0).mono ?_
  rintro o w1 ⟨rfl, bN⟩
  replace q6 := q6.on bN
  have hT1 := hT0.on bN
  have B1 := B0.trans (bN.mono B0.size)
  clear bN B0 hT0
  have x0 : w1.cell? ⟨w.heap.size, 0, none⟩ = some (.int .i64 n0) := q6.cell 0
  have x1 : w1.cell? ⟨w.heap.size, 1, none⟩ = some (.int .i64 n1) := q6.cell 1
  have x2 : w1.cell? ⟨w.heap.size, 2, none⟩ = some (.int .i64 n2) := q6.cell 2
  have x3 : w1.cell? ⟨w.heap.size, 3, none⟩ = some (.int .i64 n3) := q6.cell 3
  have x4 : w1.cell? ⟨w.heap.size, 4, none⟩ = some (.int .i64 n4) := q6.cell 4
  have x5 : w1.cell? ⟨w.heap.size, 5, none⟩ = some (.int .i64 n5) := q6.cell 5
  go_wp2_with fail
  with_reducible refine (cCh _).mono ?_
  rintro o w2 ⟨rfl, bN⟩
  have hT2 := hT1.on bN
  have B2 := B1.trans (bN.mono B1.size)
  clear bN B1 hT1 q6 x0 x1 x2 x3 x4 x5
  go_upto_region 3 with (fail)
  have q := RowAt.new w2 24 #[.int .i64 (V : Int), .int .i64 (S : Int), .int .i64 (C : Int), .int .i64 (N : Int), .int .i64 (T : Int), .int .i64 (D : Int), .int .i64 (R : Int), .int .i64 (K : Int), .int .i64 (G : Int), .int .u64 (Z : Int)]
  have bx := (Below.refl w2.heap.size w2).alloc (Nat.le_refl _) (.cells #[.int .i64 (V : Int), .int .i64 (S : Int), .int .i64 (C : Int), .int .i64 (N : Int), .int .i64 (T : Int), .int .i64 (D : Int), .int .i64 (R : Int), .int .i64 (K : Int), .int .i64 (G : Int), .int .u64 (Z : Int)] 24)
  have hT3 := hT2.on bx
  have B3 := B2.trans (bx.mono B2.size)
  clear bx B2 hT2
  generalize w2.alloc (.cells #[.int .i64 (V : Int), .int .i64 (S : Int), .int .i64 (C : Int), .int .i64 (N : Int), .int .i64 (T : Int), .int .i64 (D : Int), .int .i64 (R : Int), .int .i64 (K : Int), .int .i64 (G : Int), .int .u64 (Z : Int)] 24) = w3 at *
  generalize w2.heap.size = gC at *
  go_wp2_with fail
  with_reducible refine (cP _).mono ?_
  rintro o w4 ⟨rfl, rfl⟩
  clear cP cCh
  have eS : (e : Int) * (S : Int) = ((e * S : Nat) : Int) := (Int.natCast_mul _ _).symm
  have hES : e * S ≤ 1073741824 * 32 := Nat.mul_le_mul (by omega) s2
  obtain ⟨sd, hsd⟩ : ∃ sd, foldB [Z, e] = sd := ⟨_, rfl⟩
  have HY := Lib.hid (fun (s i : Nat) (W : World) (hW : Both W) (hs : s < S) (hi : i < C) => (by
    have := Members_yes V S C N T D R K G Z (e * S + s) i W hW hfit (by omega) hi _ rfl
    rw [slot_div hs, numD_at hs, hsd] at this
    exact this : Calls Tryd.prog 12 #[.agg #[.int .i64 (V : Int), .int .i64 (S : Int), .int .i64 (C : Int), .int .i64 (N : Int), .int .i64 (T : Int), .int .i64 (D : Int), .int .i64 (R : Int), .int .i64 (K : Int), .int .i64 (G : Int), .int .u64 (Z : Int)], .int .i64 ((e * S + s : Nat) : Int), .int .i64 (i : Int)] W fun o w' => ∃ gg : Nat, o = .returned (.tuple #[.slice (some ⟨gg, 0, none⟩) (memL V K sd (bndC V (numC S C) (s * C + i)) (bndC V (numC S C) (s * C + i + 1))).length (memL V K sd (bndC V (numC S C) (s * C + i)) (bndC V (numC S C) (s * C + i + 1))).length, .int .i64 0]) ∧ RowAt w' gg 3 (intsV (memL V K sd (bndC V (numC S C) (s * C + i)) (bndC V (numC S C) (s * C + i + 1)))) ∧ Below W.heap.size W w'))
  have HB := Lib.hid (fun (k : Nat) (hk : k ≤ numC S C) => (bnd_le m1 hk : bndC V (numC S C) k ≤ V))
  have HK := Lib.hid (fun (s i : Nat) (hs : s < S) (hi : i < C) => (by
    have := numD_lt (x := e * S + s) s1 hi
    rwa [numD_at hs] at this : s * C + i < numC S C))
  have HL := Lib.hid (show bndC V (numC S C) (S * C) = V by unfold bndC numC; exact Nat.mul_div_cancel _ m1)
  have HZ := Lib.hid (show bndC V (numC S C) 0 = 0 by unfold bndC; simp)
  obtain ⟨P, hP⟩ : ∃ P, e * S = P := ⟨_, rfl⟩
  rw [hP] at eS hES HY
  have wP : IntKind.i64.wrap (P : Int) = (P : Int) := wrap_small (by omega) (by omega)
  have we : IntKind.u64.wrap (e : Int) = (e : Int) := IntWalk.u64_in _ (by omega)
  clear hP
  generalize hbd : bndC V (numC S C) = bd at *
  go_wp2_with fail
  go_loopw [10, 11] (fun av sv wr => ∃ (s : Nat) (A : Option Addr) (ac : Nat), s ≤ S ∧ av = .slice A (bd (s * C)) ac ∧ wr.ownsRow w3.heap.size 3 1 (.slice A (bd (s * C)) ac) (bd (s * C)) (intsV (memL V K sd 0 (bd (s * C)))) ∧ sv = .int .i64 (s : Int) ∧ Below w3.heap.size w3 wr) (fun _ sv _ => S - (RowKit.intOf sv).toNat)
  case atStart => exact ⟨0, none, 0, Nat.zero_le _, by rw [Nat.zero_mul, HZ.out], by rw [Nat.zero_mul, HZ.out]; exact World.ownsRow_nil _ _ _ _, rfl, Below.refl _ _⟩
  case round =>
    obtain ⟨s, A, ac, hs, rfl, own, rfl, hb⟩ := hrel
    obtain ⟨wo, hwo⟩ : ∃ wo, wo = wr := ⟨_, rfl⟩
    subst hwo
    have q3 := q
    replace q := q.on hb
    have Bo := B3.trans (hb.mono B3.size)
    have hTo := hT3.on hb
    have z0 : wo.cell? ⟨gC, 0, none⟩ = some (.int .i64 (V : Int)) := q.cell 0
    have z1 : wo.cell? ⟨gC, 1, none⟩ = some (.int .i64 (S : Int)) := q.cell 1
    have z2 : wo.cell? ⟨gC, 2, none⟩ = some (.int .i64 (C : Int)) := q.cell 2
    have z3 : wo.cell? ⟨gC, 3, none⟩ = some (.int .i64 (N : Int)) := q.cell 3
    have z4 : wo.cell? ⟨gC, 4, none⟩ = some (.int .i64 (T : Int)) := q.cell 4
    have z5 : wo.cell? ⟨gC, 5, none⟩ = some (.int .i64 (D : Int)) := q.cell 5
    have z6 : wo.cell? ⟨gC, 6, none⟩ = some (.int .i64 (R : Int)) := q.cell 6
    have z7 : wo.cell? ⟨gC, 7, none⟩ = some (.int .i64 (K : Int)) := q.cell 7
    have z8 : wo.cell? ⟨gC, 8, none⟩ = some (.int .i64 (G : Int)) := q.cell 8
    have z9 : wo.cell? ⟨gC, 9, none⟩ = some (.int .u64 (Z : Int)) := q.cell 9
    by_cases hsS : s < S
    · have g1 : ((s : Int) < (S : Int)) = True := eq_true (by omega)
      have g2 : (s < S) = True := eq_true hsS
      go_wp2_with fail
      clear z0 z1 z2 z3 z4 z5 z6 z7 z8 z9
      go_loopw [10, 12] (fun av iv wr => ∃ (i : Nat) (A : Option Addr) (ac : Nat), i ≤ C ∧ av = .slice A (bd (s * C + i)) ac ∧ wr.ownsRow w3.heap.size 3 1 (.slice A (bd (s * C + i)) ac) (bd (s * C + i)) (intsV (memL V K sd 0 (bd (s * C + i)))) ∧ iv = .int .i64 (i : Int) ∧ Below w3.heap.size w3 wr) (fun _ iv _ => C - (RowKit.intOf iv).toNat)
      case atStart => exact ⟨0, A, ac, Nat.zero_le _, rfl, own, rfl, hb⟩
      case round =>
        obtain ⟨i, A, ac, hi', rfl, own, rfl, hbi⟩ := hrel
        replace q := q3.on hbi
        have hTi := hT3.on hbi
        have z0 : wr.cell? ⟨gC, 0, none⟩ = some (.int .i64 (V : Int)) := q.cell 0
        have z1 : wr.cell? ⟨gC, 1, none⟩ = some (.int .i64 (S : Int)) := q.cell 1
        have z2 : wr.cell? ⟨gC, 2, none⟩ = some (.int .i64 (C : Int)) := q.cell 2
        have z3 : wr.cell? ⟨gC, 3, none⟩ = some (.int .i64 (N : Int)) := q.cell 3
        have z4 : wr.cell? ⟨gC, 4, none⟩ = some (.int .i64 (T : Int)) := q.cell 4
        have z5 : wr.cell? ⟨gC, 5, none⟩ = some (.int .i64 (D : Int)) := q.cell 5
        have z6 : wr.cell? ⟨gC, 6, none⟩ = some (.int .i64 (R : Int)) := q.cell 6
        have z7 : wr.cell? ⟨gC, 7, none⟩ = some (.int .i64 (K : Int)) := q.cell 7
        have z8 : wr.cell? ⟨gC, 8, none⟩ = some (.int .i64 (G : Int)) := q.cell 8
        have z9 : wr.cell? ⟨gC, 9, none⟩ = some (.int .u64 (Z : Int)) := q.cell 9
        by_cases hiC : i < C
        · have g3 : ((i : Int) < (C : Int)) = True := eq_true (by omega)
          have g4 : (i < C) = True := eq_true hiC
          have cY := HY.out s i wr hTi hsS hiC
          have hk := HK.out s i hsS hiC
          have hle : bd (s * C + i) ≤ bd (s * C + i + 1) := by rw [← hbd]; exact bnd_mono
          have hV9 : bd (s * C + i + 1) ≤ V := HB.out _ hk
          have HJ := Lib.hid (memL_join (V := V) (K := K) (sd := sd) hle)
          have hml : (memL V K sd (bd (s * C + i)) (bd (s * C + i + 1))).length = bd (s * C + i + 1) - bd (s * C + i) := memL_length _ _ _ _ _
          obtain ⟨xx, hxx⟩ : ∃ xx, P + s = xx := ⟨_, rfl⟩
          have e5 : (P : Int) + (s : Int) = (xx : Int) := by omega
          have e6 : IntKind.i64.wrap (xx : Int) = (xx : Int) := wrap_small (by omega) (by omega)
          rw [hxx] at cY
          generalize memL V K sd (bd (s * C + i)) (bd (s * C + i + 1)) = ml at *
          generalize memL V K sd 0 (bd (s * C + i)) = mo at *
          obtain ⟨ba, hba⟩ : ∃ ba, bd (s * C + i) = ba := ⟨_, rfl⟩
          have HBA := Lib.hid hba
          rw [hba] at own hle hml ⊢
          obtain ⟨mn, hmn⟩ : ∃ mn, ml.length = mn := ⟨_, rfl⟩
          have HMN := Lib.hid hmn
          have HBN := Lib.hid (show ba + mn = bd (s * C + i + 1) by omega)
          have hsum : ba + mn ≤ 1024 := by omega
          rw [hmn] at cY
          clear hxx hmn hba hml hle
          go_wp2_with fail
          with_reducible refine cY.mono ?_
          rintro o w6 ⟨gg, rfl, rG, b6⟩
          have own6 := tOwns_below own b6
          have hb6 := hbi.trans (b6.mono hbi.size)
          clear z0 z1 z2 z3 z4 z5 z6 z7 z8 z9 cY own
          have hnl : (intsV ml).length = mn * 1 := by rw [intsV_length, HMN.out, Nat.mul_one]
          have hnw := row_news rG
          rw [HMN.out] at hnw
          have hno := intsV_one ml
          have hm9 : ba + mn ≤ maxLen := by unfold maxLen; omega
          go_wp2_with (at_builtin; refine wpList_append_any rfl _ _ 29 rfl w3.heap.size 3 i0 (.int .i64 0) 1 8 Tryd.underlying29 hi hy0 hy1 hy2 rfl (by decide) _ _ _ rfl own6 (some ⟨gg, 0, none⟩) mn mn (intsV ml) rfl hnl hnw hno hm9 (by omega) hb6.size ?_; intro S1 cap1 w7 own7 grow7)
          have hb7 : Below w3.heap.size w3 w7 := Below.grown hb6 grow7 hb6.size (fun k h => (own6.lt k h).1)
          rw [← intsV_append, HJ.out] at own7
          go_wp2_with fail
          go_roundw
          case rel => exact ⟨i + 1, S1, cap1, by omega, by rw [HBN.out]; rfl, by rw [HBN.out] at own7; exact own7, by go_num, hb7⟩
          case measure => simp [RowKit.intOf]; omega
        · obtain rfl : i = C := by omega
          have g3 : ((i : Int) < (i : Int)) = False := eq_false (by omega)
          have eC : (s + 1) * i = s * i + i := Nat.succ_mul s i
          go_wp2_with fail
          go_roundw
          case rel => exact ⟨s + 1, A, ac, by omega, by rw [eC], by rw [eC]; exact own, by go_num, hbi⟩
          case measure => simp [RowKit.intOf]; omega
    · obtain rfl : s = S := by omega
      have g1 : ((s : Int) < (s : Int)) = False := eq_false (by omega)
      rw [HL.out, memL_all] at own
      rw [HL.out]
      clear HY HB HK HL HZ
      have bA : Below wo.heap.size wo ((wo.alloc (.cells #[.int .u64 (Z : Int), .int .u64 (e : Int)] 22)).drew) := ((Below.refl wo.heap.size wo).alloc (Nat.le_refl _) _).drew
      have hA := hTo.on bA
      have cF := Fold_any [Z, e] (.slice (some ⟨wo.heap.size, 0, none⟩) 2 2) ((wo.alloc (.cells #[.int .u64 (Z : Int), .int .u64 (e : Int)] 22)).drew) (show Words ((wo.alloc (.cells #[.int .u64 (Z : Int), .int .u64 (e : Int)] 22)).drew) ((wo.alloc (.cells #[.int .u64 (Z : Int), .int .u64 (e : Int)] 22)).drew).heap.size (.slice (some ⟨wo.heap.size, 0, none⟩) 2 2) [Z, e] from words2 wo Z e 22 wo.heap.size rfl) (by simp) hA.1
      rw [hsd] at cF
      have hsdL : sd < 18446744073709551616 := by rw [← hsd]; exact foldB_lt _
      have hc : ∀ W, Below wo.heap.size wo W → (W.cell? ⟨gC, 0, none⟩ = some (.int .i64 (V : Int)) ∧ W.cell? ⟨gC, 7, none⟩ = some (.int .i64 (K : Int)) ∧ W.cell? ⟨gC, 9, none⟩ = some (.int .u64 (Z : Int))) := fun W b => ⟨(q.on b).cell 0, (q.on b).cell 7, (q.on b).cell 9⟩
      have HC := Lib.hid hc
      have cAl := fun W hW => All_yes V K sd W hW v1 (by omega) kK
      have hcm := own_ints own (by simp [runL_length])
      clear hc hsd
      go_wp2_with fail
      go_region_held3 (fun W => W.cell? ⟨gC, 0, none⟩ = some (.int .i64 (V : Int)) ∧ W.cell? ⟨gC, 7, none⟩ = some (.int .i64 (K : Int)) ∧ W.cell? ⟨gC, 9, none⟩ = some (.int .u64 (Z : Int))) (first | exact HC.out _ (Below.refl wo.heap.size wo).drew | exact HC.out _ bA | exact HC.out _ bF | exact HC.out _ bG | go_keep)
        (first
          | ((with_reducible refine cF.mono ?_); rintro o wF ⟨rfl, bF'⟩; have bF := bA.trans (bF'.mono bA.size); have hTF := (hTo.on bF).1)
          | ((with_reducible refine (cAl _ hTF).mono ?_); rintro o wG ⟨gw, rfl, _, rW, bG'⟩; have bG := bF.trans (bG'.mono bF.size)))
      all_goals
        have hM := hcm.on bG
        have hWant := ints_row rW
        rw [runL_length] at hWant
        go_simp
        go_wp2_with fail
        with_reducible refine (Ints_same _ _ _ _ hM hWant (by rw [List.length_map, runL_length]; omega)).mono ?_
        rintro o wH ⟨rfl, bH⟩
        have BH := Bo.trans ((bG.trans (bH.mono bG.size)).mono Bo.size)
        go_wp2_with fail
        go_ret
        exact ⟨rfl, BH⟩
theorem dall_calls {n0 n1 n2 n3 n4 n5 : Int} (b0 : I64K n0) (b1 : I64K n1) (b2 : I64K n2) (b3 : I64K n3) (b4 : I64K n4) (b5 : I64K n5) (a1 : Int) (w1 : (Lit.int .u64 a1).wf = true) (a2 : Int) (w2 : (Lit.int .i64 a2).wf = true) (w : World) (hT : Both w) :
    Calls Tryd.prog 8 #[.agg #[.int .i64 n0, .int .i64 n1, .int .i64 n2, .int .i64 n3, .int .i64 n4, .int .i64 n5], .int .u64 a1, .int .i64 a2] w fun o w' => o = .returned (.bool true) ∧ Below w.heap.size w w' := by
  have h1 := bounds_u64 w1
  obtain ⟨k, rfl⟩ := Int.eq_ofNat_of_zero_le h1.1
  exact dall_walk n0 n1 n2 n3 n4 n5 a2 k b0 b1 b2 b3 b4 b5 (bounds_i64 w2) w hT
end Go.Proofs.YtpjgljfcmhiapaaDoor
