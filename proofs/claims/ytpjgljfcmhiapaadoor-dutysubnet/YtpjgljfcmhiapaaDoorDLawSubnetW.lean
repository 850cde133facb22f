/- The walk of DutySubnet. -/
import Derived.Test.YtpjgljfcmhiapaaDoorDutH
import Derived.OpenShut
namespace Go.Proofs.YtpjgljfcmhiapaaDoor
open Go.RowKit Go.Lib

set_option maxHeartbeats 4000000 in
set_option maxRecDepth 100000 in
theorem dsubnet_walk (n0 n1 n2 n3 n4 n5 ep : Int) (Z : Nat) (b0 : I64K n0) (b1 : I64K n1) (b2 : I64K n2) (b3 : I64K n3) (b4 : I64K n4) (b5 : I64K n5) (be : I64K ep) (w : World) (hT : Both w) :
    Calls Tryd.prog 6 #[.agg #[.int .i64 n0, .int .i64 n1, .int .i64 n2, .int .i64 n3, .int .i64 n4, .int .i64 n5], .int .u64 (Z : Int), .int .i64 ep] w fun o w' => o = .returned (.bool true) ∧ Below w.heap.size w w' := by
  obtain ⟨V, S, C, N, T, D, R, K, G, hfit, cCh⟩ := raw_chain n0 n1 n2 n3 n4 n5 b0 b1 b2 b3 b4 b5 Z
  obtain ⟨s1, s2, c1, c2, nn1, nn2⟩ : 1 ≤ S ∧ S ≤ 32 ∧ 1 ≤ C ∧ C ≤ 8 ∧ 1 ≤ N ∧ N ≤ 64 := ⟨hfit.s1, hfit.s2, hfit.c1, hfit.c2, hfit.n1, hfit.n2⟩
  have hp1 := pickS_lt ep 1073741824 (by decide)
  have cP := fun W => pick10_any ep 1073741824 W be (by decide) (by decide)
  generalize pickS ep 1073741824 = e at *
  have q6 := RowAt.new w 25 #[.int .i64 n0, .int .i64 n1, .int .i64 n2, .int .i64 n3, .int .i64 n4, .int .i64 n5]
  have B0 := (Below.refl w.heap.size w).alloc (Nat.le_refl _) (.cells #[.int .i64 n0, .int .i64 n1, .int .i64 n2, .int .i64 n3, .int .i64 n4, .int .i64 n5] 25)
  have hT0 : Both (w.alloc (.cells #[.int .i64 n0, .int .i64 n1, .int .i64 n2, .int .i64 n3, .int .i64 n4, .int .i64 n5] 25)) := ⟨hT.1.below B0 hT.1.lt, hT.2.below B0 hT.2.lt⟩
  go_enter Tryd.func6, Tryd.ntmps6
  go_wp2_with fail
  with_reducible refine (awake10_any _ hT0).mono ?_
  rintro o w1 ⟨rfl, bN⟩
  replace q6 := q6.on bN
  have hT1 := hT0.on bN
  have B1 := B0.trans (bN.mono B0.size)
  clear bN B0 hT0
  have x0 : w1.cell? ⟨w.heap.size, 0, none⟩ = some (.int .i64 n0) := q6.cell 0
  have x1 : w1.cell? ⟨w.heap.size, 1, none⟩ = some (.int .i64 n1) := q6.cell 1
  have x2 : w1.cell? ⟨w.heap.size, 2, none⟩ = some (.int .i64 n2) := q6.cell 2
  have x3 : w1.cell? ⟨w.heap.size, 3, none⟩ = some (.int .i64 n3) := q6.cell 3
  have x4 : w1.cell? ⟨w.heap.size, 4, none⟩ = some (.int .i64 n4) := q6.cell 4
  have x5 : w1.cell? ⟨w.heap.size, 5, none⟩ = some (.int .i64 n5) := q6.cell 5
  go_wp2_with fail
  with_reducible refine (cCh _).mono ?_
  rintro o w2 ⟨rfl, bN⟩
  have hT2 := hT1.on bN
  have B2 := B1.trans (bN.mono B1.size)
  clear bN B1 hT1 q6 x0 x1 x2 x3 x4 x5
  go_upto_region 3 with (fail)
  have q := RowAt.new w2 24 #[.int .i64 (V : Int), .int .i64 (S : Int), .int .i64 (C : Int), .int .i64 (N : Int), .int .i64 (T : Int), .int .i64 (D : Int), .int .i64 (R : Int), .int .i64 (K : Int), .int .i64 (G : Int), .int .u64 (Z : Int)]
  have bx := (Below.refl w2.heap.size w2).alloc (Nat.le_refl _) (.cells #[.int .i64 (V : Int), .int .i64 (S : Int), .int .i64 (C : Int), .int .i64 (N : Int), .int .i64 (T : Int), .int .i64 (D : Int), .int .i64 (R : Int), .int .i64 (K : Int), .int .i64 (G : Int), .int .u64 (Z : Int)] 24)
  have hT3 := hT2.on bx
  have B3 := B2.trans (bx.mono B2.size)
  clear bx B2 hT2
  generalize w2.alloc (.cells #[.int .i64 (V : Int), .int .i64 (S : Int), .int .i64 (C : Int), .int .i64 (N : Int), .int .i64 (T : Int), .int .i64 (D : Int), .int .i64 (R : Int), .int .i64 (K : Int), .int .i64 (G : Int), .int .u64 (Z : Int)] 24) = w3 at *
  generalize w2.heap.size = gC at *
  go_wp2_with fail
  with_reducible refine (cP _).mono ?_
  rintro o w4 ⟨rfl, rfl⟩
  clear cP cCh
  have eS : (e : Int) * (S : Int) = ((e * S : Nat) : Int) := (Int.natCast_mul _ _).symm
  have hES : e * S ≤ 1073741824 * 32 := Nat.mul_le_mul (by omega) s2
  have HY := Lib.hid (fun (s i : Nat) (W : World) (hW : Both W) (hs : s < S) (hi : i < C) => Subnet_yes V S C N T D R K G Z (e * S + s) i W hW hfit (by omega) hi)
  have HD := Lib.hid (fun (s i : Nat) (hs : s < S) => show numD S C (e * S + s) i = s * C + i by unfold numD; rw [Nat.mul_comm e S, Nat.mul_add_mod, Nat.mod_eq_of_lt hs])
  obtain ⟨P, hP⟩ : ∃ P, e * S = P := ⟨_, rfl⟩
  rw [hP] at eS hES HY HD
  have wP : IntKind.i64.wrap (P : Int) = (P : Int) := wrap_small (by omega) (by omega)
  clear hP
  go_wp2_with fail
  go_loopw [10, 11] (fun nv sv wr => ∃ s : Nat, s ≤ S ∧ nv = .int .i64 ((s * C % N : Nat) : Int) ∧ sv = .int .i64 (s : Int) ∧ Below w3.heap.size w3 wr) (fun _ sv _ => S - (RowKit.intOf sv).toNat)
  case atStart => exact ⟨0, Nat.zero_le _, by simp, rfl, Below.refl _ _⟩
  case round =>
    obtain ⟨s, hs, rfl, rfl, hb⟩ := hrel
    obtain ⟨wo, hwo⟩ : ∃ wo, wo = wr := ⟨_, rfl⟩
    subst hwo
    replace q := q.on hb
    replace hT3 := hT3.on hb
    have Bo := B3.trans (hb.mono B3.size)
    have z0 : wo.cell? ⟨gC, 0, none⟩ = some (.int .i64 (V : Int)) := q.cell 0
    have z1 : wo.cell? ⟨gC, 1, none⟩ = some (.int .i64 (S : Int)) := q.cell 1
    have z2 : wo.cell? ⟨gC, 2, none⟩ = some (.int .i64 (C : Int)) := q.cell 2
    have z3 : wo.cell? ⟨gC, 3, none⟩ = some (.int .i64 (N : Int)) := q.cell 3
    have z4 : wo.cell? ⟨gC, 4, none⟩ = some (.int .i64 (T : Int)) := q.cell 4
    have z5 : wo.cell? ⟨gC, 5, none⟩ = some (.int .i64 (D : Int)) := q.cell 5
    have z6 : wo.cell? ⟨gC, 6, none⟩ = some (.int .i64 (R : Int)) := q.cell 6
    have z7 : wo.cell? ⟨gC, 7, none⟩ = some (.int .i64 (K : Int)) := q.cell 7
    have z8 : wo.cell? ⟨gC, 8, none⟩ = some (.int .i64 (G : Int)) := q.cell 8
    have z9 : wo.cell? ⟨gC, 9, none⟩ = some (.int .u64 (Z : Int)) := q.cell 9
    by_cases hsS : s < S
    · have g1 : ((s : Int) < (S : Int)) = True := eq_true (by omega)
      have g2 : (s < S) = True := eq_true hsS
      have hsC : s * C ≤ 32 * 8 := Nat.mul_le_mul (by omega) c2
      clear z0 z1 z2 z3 z4 z5 z6 z7 z8 z9
      have z1 : wo.cell? ⟨gC, 1, none⟩ = some (.int .i64 (S : Int)) := q.cell 1
      go_wp2_with fail
      go_loopw [10, 12] (fun nv iv wr => ∃ i : Nat, i ≤ C ∧ nv = .int .i64 (((s * C + i) % N : Nat) : Int) ∧ iv = .int .i64 (i : Int) ∧ Below wo.heap.size wo wr) (fun _ iv _ => C - (RowKit.intOf iv).toNat)
      case atStart => exact ⟨0, Nat.zero_le _, rfl, rfl, Below.refl _ _⟩
      case round =>
        obtain ⟨i, hi, rfl, rfl, hbi⟩ := hrel
        replace q := q.on hbi
        replace hT3 := hT3.on hbi
        clear z1
        have z0 : wr.cell? ⟨gC, 0, none⟩ = some (.int .i64 (V : Int)) := q.cell 0
        have z1 : wr.cell? ⟨gC, 1, none⟩ = some (.int .i64 (S : Int)) := q.cell 1
        have z2 : wr.cell? ⟨gC, 2, none⟩ = some (.int .i64 (C : Int)) := q.cell 2
        have z3 : wr.cell? ⟨gC, 3, none⟩ = some (.int .i64 (N : Int)) := q.cell 3
        have z4 : wr.cell? ⟨gC, 4, none⟩ = some (.int .i64 (T : Int)) := q.cell 4
        have z5 : wr.cell? ⟨gC, 5, none⟩ = some (.int .i64 (D : Int)) := q.cell 5
        have z6 : wr.cell? ⟨gC, 6, none⟩ = some (.int .i64 (R : Int)) := q.cell 6
        have z7 : wr.cell? ⟨gC, 7, none⟩ = some (.int .i64 (K : Int)) := q.cell 7
        have z8 : wr.cell? ⟨gC, 8, none⟩ = some (.int .i64 (G : Int)) := q.cell 8
        have z9 : wr.cell? ⟨gC, 9, none⟩ = some (.int .u64 (Z : Int)) := q.cell 9
        by_cases hiC : i < C
        · have g3 : ((i : Int) < (C : Int)) = True := eq_true (by omega)
          have g4 : (i < C) = True := eq_true hiC
          have cY := HY.out s i wr hT3 hsS hiC
          rw [HD.out s i hsS] at cY
          obtain ⟨xx, hxx⟩ : ∃ xx, P + s = xx := ⟨_, rfl⟩
          have e5 : (P : Int) + (s : Int) = (xx : Int) := by omega
          have e6 : IntKind.i64.wrap (xx : Int) = (xx : Int) := wrap_small (by omega) (by omega)
          rw [hxx] at cY
          have hm : (s * C + i) % N < N := Nat.mod_lt _ (by omega)
          have HN := Lib.hid (show ((s * C + i) % N + 1) % N = (s * C + (i + 1)) % N by rw [Nat.mod_add_mod]; rfl)
          generalize (s * C + i) % N = nx at *
          have e7 : IntKind.i64.wrap ((nx : Int) + 1) = (nx : Int) + 1 := wrap_small (by omega) (by omega)
          have e8 : ((nx : Int) + 1).tmod (N : Int) = (((nx + 1) % N : Nat) : Int) := tmod_nat (nx + 1) N
          have hm2 : (nx + 1) % N < N := Nat.mod_lt _ (by omega)
          rw [HN.out] at e8 hm2
          obtain ⟨ny, hny⟩ : ∃ ny, (s * C + (i + 1)) % N = ny := ⟨_, rfl⟩
          rw [hny] at e8 hm2
          have HNY := Lib.hid hny
          have e9 : IntKind.i64.wrap (ny : Int) = (ny : Int) := wrap_small (by omega) (by omega)
          have e10 : ((N : Int) = 0) = False := eq_false (by omega)
          have e11 : (N = 0) = False := eq_false (by omega)
          clear hxx hny
          go_wp2_with fail
          with_reducible refine cY.mono ?_
          rintro o w6 ⟨rfl, b6⟩
          have z3' : w6.cell? ⟨gC, 3, none⟩ = some (.int .i64 (N : Int)) := (q.on b6).cell 3
          clear z0 z1 z2 z3 z4 z5 z6 z7 z8 z9 cY
          go_wp2_with fail
          go_roundw
          case rel => exact ⟨i + 1, by omega, by rw [HNY.out], by go_num, hbi.trans (b6.mono hbi.size)⟩
          case measure => simp [RowKit.intOf]; omega
        · obtain rfl : i = C := by omega
          have g3 : ((i : Int) < (i : Int)) = False := eq_false (by omega)
          go_wp2_with fail
          go_roundw
          case rel => exact ⟨s + 1, by omega, by rw [Nat.succ_mul], by go_num, hb.trans (hbi.mono hb.size)⟩
          case measure => simp [RowKit.intOf]; omega
    · obtain rfl : s = S := by omega
      have g1 : ((s : Int) < (s : Int)) = False := eq_false (by omega)
      have cN1 := Subnet_no V s C N T D R K G Z (P : Int) C wo hT3 (.inr (.inr (.inr (Int.le_refl _))))
      go_wp2_with fail
      with_reducible refine cN1.mono ?_
      rintro o w7 ⟨rfl, b7⟩
      replace q := q.on b7
      replace hT3 := hT3.on b7
      have B7 := Bo.trans (b7.mono Bo.size)
      clear z0 z1 z2 z3 z4 z5 z6 z7 z8 z9 cN1 b7 Bo
      have z0 : w7.cell? ⟨gC, 0, none⟩ = some (.int .i64 (V : Int)) := q.cell 0
      have z1 : w7.cell? ⟨gC, 1, none⟩ = some (.int .i64 (s : Int)) := q.cell 1
      have z2 : w7.cell? ⟨gC, 2, none⟩ = some (.int .i64 (C : Int)) := q.cell 2
      have z3 : w7.cell? ⟨gC, 3, none⟩ = some (.int .i64 (N : Int)) := q.cell 3
      have z4 : w7.cell? ⟨gC, 4, none⟩ = some (.int .i64 (T : Int)) := q.cell 4
      have z5 : w7.cell? ⟨gC, 5, none⟩ = some (.int .i64 (D : Int)) := q.cell 5
      have z6 : w7.cell? ⟨gC, 6, none⟩ = some (.int .i64 (R : Int)) := q.cell 6
      have z7 : w7.cell? ⟨gC, 7, none⟩ = some (.int .i64 (K : Int)) := q.cell 7
      have z8 : w7.cell? ⟨gC, 8, none⟩ = some (.int .i64 (G : Int)) := q.cell 8
      have z9 : w7.cell? ⟨gC, 9, none⟩ = some (.int .u64 (Z : Int)) := q.cell 9
      have e12 : IntKind.i64.wrap (-1 - (e : Int)) = -1 - (e : Int) := IntWalk.i64_in _ (by omega)
      have cN2 := Subnet_no V s C N T D R K G Z (-1 - (e : Int)) 0 w7 hT3 (.inr (.inl (by unfold isTickB; rw [decide_eq_false (by omega)]; rfl)))
      go_wp2_with fail
      with_reducible refine cN2.mono ?_
      rintro o w8 ⟨rfl, b8⟩
      go_wp2_with fail
      go_ret
      exact ⟨rfl, B7.trans (b8.mono B7.size)⟩
theorem dsubnet_calls {n0 n1 n2 n3 n4 n5 : Int} (b0 : I64K n0) (b1 : I64K n1) (b2 : I64K n2) (b3 : I64K n3) (b4 : I64K n4) (b5 : I64K n5) (a1 : Int) (w1 : (Lit.int .u64 a1).wf = true) (a2 : Int) (w2 : (Lit.int .i64 a2).wf = true) (w : World) (hT : Both w) :
    Calls Tryd.prog 6 #[.agg #[.int .i64 n0, .int .i64 n1, .int .i64 n2, .int .i64 n3, .int .i64 n4, .int .i64 n5], .int .u64 a1, .int .i64 a2] w fun o w' => o = .returned (.bool true) ∧ Below w.heap.size w w' := by
  have h1 := bounds_u64 w1
  obtain ⟨k, rfl⟩ := Int.eq_ofNat_of_zero_le h1.1
  exact dsubnet_walk n0 n1 n2 n3 n4 n5 a2 k b0 b1 b2 b3 b4 b5 (bounds_i64 w2) w hT
end Go.Proofs.YtpjgljfcmhiapaaDoor
