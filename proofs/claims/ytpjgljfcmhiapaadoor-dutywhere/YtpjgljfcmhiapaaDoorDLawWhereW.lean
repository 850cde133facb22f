/- Layer 10's laws: plain facts on committees.
   The walk of DutyWhere. -/
import Derived.Test.YtpjgljfcmhiapaaDoorDutH
import Derived.OpenShut
namespace Go.Proofs.YtpjgljfcmhiapaaDoor
open Go.RowKit Go.Lib

theorem hold_uniq {V M j k : Nat} (hV : 1 ≤ V) (hM : 1 ≤ M) (h1 : bndC V M k ≤ j) (h2 : j < bndC V M (k + 1)) : holdD V M j = k := by
  unfold bndC at h1 h2
  have hp : 1 ≤ (j + 1) * M := Nat.mul_pos (by omega) hM
  have a1 : V * k < (j + 1) * M := by
    rw [← Nat.div_lt_iff_lt_mul (by omega)]; omega
  have a2 : (j + 1) * M ≤ V * (k + 1) := by
    rw [← Nat.le_div_iff_mul_le (by omega)]; omega
  unfold holdD
  apply Nat.le_antisymm
  · have : ((j + 1) * M - 1) / V < k + 1 := (Nat.div_lt_iff_lt_mul (by omega)).2 (by rw [Nat.mul_comm (k + 1) V]; omega)
    omega
  · exact (Nat.le_div_iff_mul_le (by omega)).2 (by rw [Nat.mul_comm k V]; omega)
theorem numD_at {S C e s i : Nat} (hs : s < S) : numD S C (e * S + s) i = s * C + i := by
  unfold numD
  rw [Nat.mul_comm e S, Nat.mul_add_mod, Nat.mod_eq_of_lt hs]
theorem slot_div {S e s : Nat} (hs : s < S) : (e * S + s) / S = e := by
  rw [Nat.mul_comm e S, Nat.mul_add_div (by omega), Nat.div_eq_of_lt hs, Nat.add_zero]
theorem num_parts {S C kk : Nat} (hC : 1 ≤ C) (hk : kk < numC S C) : kk / C < S ∧ kk % C < C ∧ kk / C * C + kk % C = kk := by
  unfold numC at hk
  refine ⟨?_, Nat.mod_lt _ hC, Nat.div_add_mod' kk C⟩
  rw [Nat.div_lt_iff_lt_mul hC]; exact hk
theorem memL_get {V K sd a b i : Nat} (h : i < (memL V K sd a b).length) : (memL V K sd a b)[i] = placeS (roundS V sd) K (a + i) := by
  simp only [memL, List.getElem_map, List.getElem_range', Nat.one_mul]
end Go.Proofs.YtpjgljfcmhiapaaDoor

namespace Go.Proofs.YtpjgljfcmhiapaaDoor
open Go.RowKit Go.Lib

set_option maxHeartbeats 4000000 in
set_option maxRecDepth 100000 in
theorem dwhere_walk (n0 n1 n2 n3 n4 n5 ep who slot index : Int) (Z : Nat) (b0 : I64K n0) (b1 : I64K n1) (b2 : I64K n2) (b3 : I64K n3) (b4 : I64K n4) (b5 : I64K n5) (be : I64K ep) (bw : I64K who) (bs : I64K slot) (bi : I64K index) (w : World) (hT : Both w) :
    Calls Tryd.prog 4 #[.agg #[.int .i64 n0, .int .i64 n1, .int .i64 n2, .int .i64 n3, .int .i64 n4, .int .i64 n5], .int .u64 (Z : Int), .int .i64 ep, .int .i64 who, .int .i64 slot, .int .i64 index] w fun o w' => o = .returned (.bool true) ∧ Below w.heap.size w w' := by
  obtain ⟨V, S, C, N, T, D, R, K, G, hfit, cCh⟩ := raw_chain n0 n1 n2 n3 n4 n5 b0 b1 b2 b3 b4 b5 Z
  obtain ⟨v1, v2, k2', s1, s2, c1, c2⟩ : 1 ≤ V ∧ V ≤ 1024 ∧ K ≤ 90 ∧ 1 ≤ S ∧ S ≤ 32 ∧ 1 ≤ C ∧ C ≤ 8 := ⟨hfit.v1, hfit.v2, hfit.k2, hfit.s1, hfit.s2, hfit.c1, hfit.c2⟩
  obtain ⟨m1, m2⟩ := numC_bd s1 s2 c1 c2
  have hp1 := pickS_lt ep 1073741824 (by decide)
  have cP := fun W => pick10_any ep 1073741824 W be (by decide) (by decide)
  generalize pickS ep 1073741824 = e at *
  have hp2 := pickS_lt who (V : Int) (by omega)
  have cPv := fun W => pick10_any who (V : Int) W bw (by omega) (by omega)
  generalize pickS who (V : Int) = v at *
  have hp3 := pickS_lt slot (S : Int) (by omega)
  have cPs := fun W => pick10_any slot (S : Int) W bs (by omega) (by omega)
  generalize pickS slot (S : Int) = ss at *
  have hp4 := pickS_lt index (C : Int) (by omega)
  have cPi := fun W => pick10_any index (C : Int) W bi (by omega) (by omega)
  generalize pickS index (C : Int) = ii at *
  have hvV : v < V := by omega
  have hsS : ss < S := by omega
  have hiC : ii < C := by omega
  -- what Where and Members tell of the validator
  obtain ⟨sd, hsd⟩ : ∃ sd, foldB [Z, e] = sd := ⟨_, rfl⟩
  obtain ⟨j, hj⟩ : ∃ j, backS (roundS V sd) K v = j := ⟨_, rfl⟩
  have hjV : j < V := by rw [← hj]; exact runS_lt stS_lt _ hvV
  have hpj : placeS (roundS V sd) K j = v := by rw [← hj]; exact place_back stS_lt stS_st K hvV
  obtain ⟨kk, hkk⟩ : ∃ kk, holdD V (numC S C) j = kk := ⟨_, rfl⟩
  have hkM : kk < numC S C := by rw [← hkk]; exact hold_lt m1 hjV
  have hf1 : bndC V (numC S C) kk ≤ j := by rw [← hkk]; exact hold_le m1
  have hf2 : j < bndC V (numC S C) (kk + 1) := by rw [← hkk]; exact hold_gt v1 m1
  obtain ⟨hd1, hd2, hd3⟩ := num_parts c1 hkM
  have hES : e * S ≤ 1073741824 * 32 := Nat.mul_le_mul (by omega) s2
  have cW := fun W hW => Where_yes V S C N T D R K G Z e v W hW hfit (by omega) hvV j kk (by rw [hsd]; exact hj) hkk
  have cM := fun W hW => Members_yes V S C N T D R K G Z (e * S + kk / C) (kk % C) W hW hfit (by omega) hd2 _ rfl
  rw [slot_div hd1, numD_at hd1, hd3, hsd] at cM
  have hl1 : (memL V K sd (bndC V (numC S C) kk) (bndC V (numC S C) (kk + 1))).length = bndC V (numC S C) (kk + 1) - bndC V (numC S C) kk := memL_length _ _ _ _ _
  have hpl : j - bndC V (numC S C) kk < (memL V K sd (bndC V (numC S C) kk) (bndC V (numC S C) (kk + 1))).length := by rw [hl1]; omega
  have hget : (memL V K sd (bndC V (numC S C) kk) (bndC V (numC S C) (kk + 1)))[j - bndC V (numC S C) kk]? = some v := by
    rw [List.getElem?_eq_getElem hpl, memL_get, show bndC V (numC S C) kk + (j - bndC V (numC S C) kk) = j by omega, hpj]
  generalize memL V K sd (bndC V (numC S C) kk) (bndC V (numC S C) (kk + 1)) = l1 at *
  generalize hfb : bndC V (numC S C) kk = fb at *
  obtain ⟨pp, hpp⟩ : ∃ pp, j - fb = pp := ⟨_, rfl⟩
  rw [hpp] at hget hpl cW
  have hsdiv : (e * S + kk / C) / S = e := slot_div hd1
  obtain ⟨s0, hs0⟩ : ∃ s0, e * S + kk / C = s0 := ⟨_, rfl⟩
  rw [hs0] at cW cM hsdiv
  have hs09 : s0 ≤ 1073741824 * 32 + 32 := by omega
  generalize kk % C = i0 at *
  -- what they tell of the committee
  obtain ⟨k2, hk2⟩ : ∃ k2, ss * C + ii = k2 := ⟨_, rfl⟩
  have hk2M : k2 < numC S C := by
    have := numD_lt (x := e * S + ss) s1 hiC
    rw [numD_at hsS, hk2] at this
    exact this
  have hq1 : k2 / C = ss := by rw [← hk2, Nat.mul_comm, Nat.mul_add_div (by omega), Nat.div_eq_of_lt hiC, Nat.add_zero]
  have hq2 : k2 % C = ii := by rw [← hk2, Nat.mul_comm, Nat.mul_add_mod, Nat.mod_eq_of_lt hiC]
  have cM2 := fun W hW => Members_yes V S C N T D R K G Z (e * S + ss) ii W hW hfit (by omega) hiC _ rfl
  rw [slot_div hsS, numD_at hsS, hk2, hsd] at cM2
  have hbV : bndC V (numC S C) (k2 + 1) ≤ V := bnd_le m1 hk2M
  have hl2 : (memL V K sd (bndC V (numC S C) k2) (bndC V (numC S C) (k2 + 1))).length = bndC V (numC S C) (k2 + 1) - bndC V (numC S C) k2 := memL_length _ _ _ _ _
  have cW2 : ∀ k (hk : k < (memL V K sd (bndC V (numC S C) k2) (bndC V (numC S C) (k2 + 1))).length) W (_ : Both W), Calls Tryd.prog 16 #[.agg #[.int .i64 (V : Int), .int .i64 (S : Int), .int .i64 (C : Int), .int .i64 (N : Int), .int .i64 (T : Int), .int .i64 (D : Int), .int .i64 (R : Int), .int .i64 (K : Int), .int .i64 (G : Int), .int .u64 (Z : Int)], .int .i64 (e : Int), .int .i64 ((memL V K sd (bndC V (numC S C) k2) (bndC V (numC S C) (k2 + 1)))[k] : Int)] W fun o w' => o = .returned (.tuple #[.int .i64 ((e * S + ss : Nat) : Int), .int .i64 (ii : Int), .int .i64 (k : Int), .int .i64 0]) ∧ Below W.heap.size W w' := fun k hk W hW => by
    have hk9 : k < bndC V (numC S C) (k2 + 1) - bndC V (numC S C) k2 := by rw [← hl2]; exact hk
    have hjk : bndC V (numC S C) k2 + k < V := by omega
    have := Where_yes V S C N T D R K G Z e (placeS (roundS V sd) K (bndC V (numC S C) k2 + k)) W hW hfit (by omega) (runS_lt stS_lt _ hjk) (bndC V (numC S C) k2 + k) k2 (by rw [hsd]; exact back_place stS_lt stS_st K hjk) (hold_uniq v1 m1 (by omega) (by omega))
    rw [hq1, hq2, show bndC V (numC S C) k2 + k - bndC V (numC S C) k2 = k by omega] at this
    rw [memL_get]
    exact this
  generalize memL V K sd (bndC V (numC S C) k2) (bndC V (numC S C) (k2 + 1)) = l2 at *
  have hl29 : l2.length ≤ 1024 := by omega
  obtain ⟨a0, ha0⟩ : ∃ a0, e * S + ss = a0 := ⟨_, rfl⟩
  rw [ha0] at cM2 cW2
  have eS : (e : Int) * (S : Int) = ((e * S : Nat) : Int) := (Int.natCast_mul _ _).symm
  obtain ⟨P, hP⟩ : ∃ P, e * S = P := ⟨_, rfl⟩
  rw [hP] at eS hES ha0 hs0
  have wP : IntKind.i64.wrap (P : Int) = (P : Int) := wrap_small (by omega) (by omega)
  have e5 : (P : Int) + (ss : Int) = (a0 : Int) := by omega
  have e6 : IntKind.i64.wrap (a0 : Int) = (a0 : Int) := wrap_small (by omega) (by omega)
  have HW2 := Lib.hid cW2
  have HG := Lib.hid hget
  have hppl : pp < l1.length := hpl
  have hl19 : l1.length ≤ 2000 := by
    have : bndC V (numC S C) (kk + 1) ≤ V := bnd_le m1 hkM
    omega
  clear hget hpl hl1 hl2 hsd hj hpj hkk hf1 hf2 hfb hpp hs0 hP ha0 hk2 hq1 hq2 cW2 hd1 hd3 hkM hk2M hbV
  have t1 : (s0 : Int).tdiv (S : Int) = (e : Int) := by rw [tdiv_nat, hsdiv]
  have t2 : ((S : Int) = 0) = False := eq_false (by omega)
  have t3 : (S = 0) = False := eq_false (by omega)
  have t4 : IntKind.i64.wrap (e : Int) = (e : Int) := wrap_small (by omega) (by omega)
  have t5 : ((s0 : Int) < 0) = False := eq_false (by omega)
  have t6 : ((i0 : Int) < 0) = False := eq_false (by omega)
  have t7 : ((C : Int) ≤ (i0 : Int)) = False := eq_false (by omega)
  have t8 : (C ≤ i0) = False := eq_false (by omega)
  have t9 : ((pp : Int) < 0) = False := eq_false (by omega)
  have t10 : ((l1.length : Int) ≤ (pp : Int)) = False := eq_false (by omega)
  have t11 : (l1.length ≤ pp) = False := eq_false (by omega)
  have t12 : ((pp : Int) < (l1.length : Int)) = True := eq_true (by omega)
  have t13 : (pp < l1.length) = True := eq_true hppl
  clear hsdiv
  have q6 := RowAt.new w 25 #[.int .i64 n0, .int .i64 n1, .int .i64 n2, .int .i64 n3, .int .i64 n4, .int .i64 n5]
  have B0 := (Below.refl w.heap.size w).alloc (Nat.le_refl _) (.cells #[.int .i64 n0, .int .i64 n1, .int .i64 n2, .int .i64 n3, .int .i64 n4, .int .i64 n5] 25)
  have hT0 : Both (w.alloc (.cells #[.int .i64 n0, .int .i64 n1, .int .i64 n2, .int .i64 n3, .int .i64 n4, .int .i64 n5] 25)) := ⟨hT.1.below B0 hT.1.lt, hT.2.below B0 hT.2.lt⟩
  go_enter Tryd.func4, Tryd.ntmps4
  go_wp2_with fail
  with_reducible refine (awake10_any _ hT0).mono ?_
  rintro o w1 ⟨rfl, bN⟩
  replace q6 := q6.on bN
  have hT1 := hT0.on bN
  have B1 := B0.trans (bN.mono B0.size)
  clear bN B0 hT0
  have x0 : w1.cell? ⟨w.heap.size, 0, none⟩ = some (.int .i64 n0) := q6.cell 0
  have x1 : w1.cell? ⟨w.heap.size, 1, none⟩ = some (.int .i64 n1) := q6.cell 1
  have x2 : w1.cell? ⟨w.heap.size, 2, none⟩ = some (.int .i64 n2) := q6.cell 2
  have x3 : w1.cell? ⟨w.heap.size, 3, none⟩ = some (.int .i64 n3) := q6.cell 3
  have x4 : w1.cell? ⟨w.heap.size, 4, none⟩ = some (.int .i64 n4) := q6.cell 4
  have x5 : w1.cell? ⟨w.heap.size, 5, none⟩ = some (.int .i64 n5) := q6.cell 5
  go_wp2_with fail
  with_reducible refine (cCh _).mono ?_
  rintro o w2 ⟨rfl, bN⟩
  have hT2 := hT1.on bN
  have B2 := B1.trans (bN.mono B1.size)
  clear bN B1 hT1 q6 x0 x1 x2 x3 x4 x5
  go_upto_region 3 with (fail)
  have q := RowAt.new w2 24 #[.int .i64 (V : Int), .int .i64 (S : Int), .int .i64 (C : Int), .int .i64 (N : Int), .int .i64 (T : Int), .int .i64 (D : Int), .int .i64 (R : Int), .int .i64 (K : Int), .int .i64 (G : Int), .int .u64 (Z : Int)]
  have bx := (Below.refl w2.heap.size w2).alloc (Nat.le_refl _) (.cells #[.int .i64 (V : Int), .int .i64 (S : Int), .int .i64 (C : Int), .int .i64 (N : Int), .int .i64 (T : Int), .int .i64 (D : Int), .int .i64 (R : Int), .int .i64 (K : Int), .int .i64 (G : Int), .int .u64 (Z : Int)] 24)
  have hT3 := hT2.on bx
  have B3 := B2.trans (bx.mono B2.size)
  clear bx B2 hT2
  generalize w2.alloc (.cells #[.int .i64 (V : Int), .int .i64 (S : Int), .int .i64 (C : Int), .int .i64 (N : Int), .int .i64 (T : Int), .int .i64 (D : Int), .int .i64 (R : Int), .int .i64 (K : Int), .int .i64 (G : Int), .int .u64 (Z : Int)] 24) = w3 at *
  generalize w2.heap.size = gC at *
  go_wp2_with fail
  with_reducible refine (cP _).mono ?_
  rintro o w4 ⟨rfl, rfl⟩
  have z0 : w3.cell? ⟨gC, 0, none⟩ = some (.int .i64 (V : Int)) := q.cell 0
  have z1 : w3.cell? ⟨gC, 1, none⟩ = some (.int .i64 (S : Int)) := q.cell 1
  have z2 : w3.cell? ⟨gC, 2, none⟩ = some (.int .i64 (C : Int)) := q.cell 2
  have z3 : w3.cell? ⟨gC, 3, none⟩ = some (.int .i64 (N : Int)) := q.cell 3
  have z4 : w3.cell? ⟨gC, 4, none⟩ = some (.int .i64 (T : Int)) := q.cell 4
  have z5 : w3.cell? ⟨gC, 5, none⟩ = some (.int .i64 (D : Int)) := q.cell 5
  have z6 : w3.cell? ⟨gC, 6, none⟩ = some (.int .i64 (R : Int)) := q.cell 6
  have z7 : w3.cell? ⟨gC, 7, none⟩ = some (.int .i64 (K : Int)) := q.cell 7
  have z8 : w3.cell? ⟨gC, 8, none⟩ = some (.int .i64 (G : Int)) := q.cell 8
  have z9 : w3.cell? ⟨gC, 9, none⟩ = some (.int .u64 (Z : Int)) := q.cell 9
  go_wp2_with fail
  with_reducible refine (cPv _).mono ?_
  rintro o w4 ⟨rfl, rfl⟩
  go_wp2_with fail
  with_reducible refine (cW _ hT3).mono ?_
  rintro o w5 ⟨rfl, bN⟩
  replace q := q.on bN
  have hT5 := hT3.on bN
  have B5 := B3.trans (bN.mono B3.size)
  clear bN B3 hT3 z0 z1 z2 z3 z4 z5 z6 z7 z8 z9 cW
  have z0 : w5.cell? ⟨gC, 0, none⟩ = some (.int .i64 (V : Int)) := q.cell 0
  have z1 : w5.cell? ⟨gC, 1, none⟩ = some (.int .i64 (S : Int)) := q.cell 1
  have z2 : w5.cell? ⟨gC, 2, none⟩ = some (.int .i64 (C : Int)) := q.cell 2
  have z3 : w5.cell? ⟨gC, 3, none⟩ = some (.int .i64 (N : Int)) := q.cell 3
  have z4 : w5.cell? ⟨gC, 4, none⟩ = some (.int .i64 (T : Int)) := q.cell 4
  have z5 : w5.cell? ⟨gC, 5, none⟩ = some (.int .i64 (D : Int)) := q.cell 5
  have z6 : w5.cell? ⟨gC, 6, none⟩ = some (.int .i64 (R : Int)) := q.cell 6
  have z7 : w5.cell? ⟨gC, 7, none⟩ = some (.int .i64 (K : Int)) := q.cell 7
  have z8 : w5.cell? ⟨gC, 8, none⟩ = some (.int .i64 (G : Int)) := q.cell 8
  have z9 : w5.cell? ⟨gC, 9, none⟩ = some (.int .u64 (Z : Int)) := q.cell 9
  go_wp2_with fail
  with_reducible refine (cM _ hT5).mono ?_
  rintro o w6 ⟨g1, rfl, rL, bN⟩
  replace q := q.on bN
  have hT6 := hT5.on bN
  have B6 := B5.trans (bN.mono B5.size)
  clear bN B5 hT5 z0 z1 z2 z3 z4 z5 z6 z7 z8 z9 cM
  have z0 : w6.cell? ⟨gC, 0, none⟩ = some (.int .i64 (V : Int)) := q.cell 0
  have z1 : w6.cell? ⟨gC, 1, none⟩ = some (.int .i64 (S : Int)) := q.cell 1
  have z2 : w6.cell? ⟨gC, 2, none⟩ = some (.int .i64 (C : Int)) := q.cell 2
  have z3 : w6.cell? ⟨gC, 3, none⟩ = some (.int .i64 (N : Int)) := q.cell 3
  have z4 : w6.cell? ⟨gC, 4, none⟩ = some (.int .i64 (T : Int)) := q.cell 4
  have z5 : w6.cell? ⟨gC, 5, none⟩ = some (.int .i64 (D : Int)) := q.cell 5
  have z6 : w6.cell? ⟨gC, 6, none⟩ = some (.int .i64 (R : Int)) := q.cell 6
  have z7 : w6.cell? ⟨gC, 7, none⟩ = some (.int .i64 (K : Int)) := q.cell 7
  have z8 : w6.cell? ⟨gC, 8, none⟩ = some (.int .i64 (G : Int)) := q.cell 8
  have z9 : w6.cell? ⟨gC, 9, none⟩ = some (.int .u64 (Z : Int)) := q.cell 9
  have zl : w6.cell? ⟨g1, pp, none⟩ = some (.int .i64 (v : Int)) := by rw [rL.cell]; exact intsV_get HG.out
  go_upto_region 9 with (fail)
  clear zl rL z0 z1 z2 z3 z4 z5 z6 z7 z8 z9 HG
  have z0 := q.later7 0 _ rfl
  have z1 := q.later7 1 _ rfl
  have z2 := q.later7 2 _ rfl
  have z3 := q.later7 3 _ rfl
  have z4 := q.later7 4 _ rfl
  have z5 := q.later7 5 _ rfl
  have z6 := q.later7 6 _ rfl
  have z7 := q.later7 7 _ rfl
  have z8 := q.later7 8 _ rfl
  have z9 := q.later7 9 _ rfl
  have HPs : ∀ p : Later w6, Calls Tryd.prog 11 #[.int .i64 slot, .int .i64 (S : Int)] p.W fun o w_ => o = .returned (.int .i64 (ss : Int)) ∧ ∃ p : Later w6, w_ = p.W := fun p => later_same ((cPs p.W).mono fun o w' ⟨h1, h2⟩ => ⟨h1, h2⟩)
  refine wp_region_later (by kernel_rfl) (by kernel_rfl) ?_
  repeat (go_big_quiet_step (first | (go_at_call 11; exact HPs _)))
  refine wpQuiet_nil ?_
  intro _ hw'
  obtain ⟨pq, rfl⟩ := hw'
  have b7 := pq.h
  generalize pq.W = w7 at b7 ⊢
  clear pq HPs z0 z1 z2 z3 z4 z5 z6 z7 z8 z9
  replace q := q.on b7
  have hT7 := hT6.on b7
  have B7 := B6.trans (b7.mono B6.size)
  clear b7 B6 hT6
  have z0 : w7.cell? ⟨gC, 0, none⟩ = some (.int .i64 (V : Int)) := q.cell 0
  have z1 : w7.cell? ⟨gC, 1, none⟩ = some (.int .i64 (S : Int)) := q.cell 1
  have z2 : w7.cell? ⟨gC, 2, none⟩ = some (.int .i64 (C : Int)) := q.cell 2
  have z3 : w7.cell? ⟨gC, 3, none⟩ = some (.int .i64 (N : Int)) := q.cell 3
  have z4 : w7.cell? ⟨gC, 4, none⟩ = some (.int .i64 (T : Int)) := q.cell 4
  have z5 : w7.cell? ⟨gC, 5, none⟩ = some (.int .i64 (D : Int)) := q.cell 5
  have z6 : w7.cell? ⟨gC, 6, none⟩ = some (.int .i64 (R : Int)) := q.cell 6
  have z7 : w7.cell? ⟨gC, 7, none⟩ = some (.int .i64 (K : Int)) := q.cell 7
  have z8 : w7.cell? ⟨gC, 8, none⟩ = some (.int .i64 (G : Int)) := q.cell 8
  have z9 : w7.cell? ⟨gC, 9, none⟩ = some (.int .u64 (Z : Int)) := q.cell 9
  go_wp2_with fail
  with_reducible refine (cPi _).mono ?_
  rintro o w8 ⟨rfl, rfl⟩
  go_wp2_with fail
  with_reducible refine (cM2 _ hT7).mono ?_
  rintro o w8 ⟨g2, rfl, rM, bN⟩
  replace q := q.on bN
  have hT8 := hT7.on bN
  have B8 := B7.trans (bN.mono B7.size)
  clear bN B7 hT7 z0 z1 z2 z3 z4 z5 z6 z7 z8 z9 cM2 cPi cPs cP cPv cCh
  go_wp2_with fail
  go_loopw [27] (fun iv wr => ∃ k : Nat, k ≤ l2.length ∧ iv = .int .i64 (k : Int) ∧ Below w8.heap.size w8 wr) (fun iv _ => l2.length - (RowKit.intOf iv).toNat)
  case atStart => exact ⟨0, Nat.zero_le _, rfl, Below.refl _ _⟩
  case round =>
    obtain ⟨k, hk, rfl, hb⟩ := hrel
    replace q := q.on hb
    have hT9 := hT8.on hb
    have rW := rM.on hb
    by_cases hlt : k < l2.length
    · have g1' : ((k : Int) < (l2.length : Int)) = True := eq_true (by omega)
      have g2' : (k < l2.length) = True := eq_true hlt
      have cW9 := fun W hW => HW2.out k hlt W hW
      have y0 : ∀ p : Later wr, p.W.cell? ⟨g2, k, none⟩ = some (.int .i64 (l2[k] : Int)) := rW.later7 k _ (intsV_get (List.getElem?_eq_getElem hlt))
      have z0 := q.later7 0 _ rfl
      have z1 := q.later7 1 _ rfl
      have z2 := q.later7 2 _ rfl
      have z3 := q.later7 3 _ rfl
      have z4 := q.later7 4 _ rfl
      have z5 := q.later7 5 _ rfl
      have z6 := q.later7 6 _ rfl
      have z7 := q.later7 7 _ rfl
      have z8 := q.later7 8 _ rfl
      have z9 := q.later7 9 _ rfl
      have HWh : ∀ p : Later wr, Calls Tryd.prog 16 #[.agg #[.int .i64 (V : Int), .int .i64 (S : Int), .int .i64 (C : Int), .int .i64 (N : Int), .int .i64 (T : Int), .int .i64 (D : Int), .int .i64 (R : Int), .int .i64 (K : Int), .int .i64 (G : Int), .int .u64 (Z : Int)], .int .i64 (e : Int), .int .i64 (l2[k] : Int)] p.W fun o w_ => o = .returned (.tuple #[.int .i64 (a0 : Int), .int .i64 (ii : Int), .int .i64 (k : Int), .int .i64 0]) ∧ ∃ p : Later wr, w_ = p.W := fun p => later_of (cW9 _ (hT9.on p.h))
      clear cW9
      generalize l2[k] = mk at *
      go_wp2_with fail
      refine wp_region_later (by kernel_rfl) (by kernel_rfl) ?_
      repeat (go_big_quiet_step (first | (go_at_call 16; exact HWh _)))
      refine wpQuiet_nil ?_
      intro _ hw'
      obtain ⟨pq, rfl⟩ := hw'
      have b9 := pq.h
      generalize pq.W = w9 at b9 ⊢
      clear pq HWh y0 z0 z1 z2 z3 z4 z5 z6 z7 z8 z9
      have hb9 := hb.trans (b9.mono hb.size)
      go_wp2_with fail
      go_roundw
      case rel => exact ⟨k + 1, by omega, by go_num, hb9⟩
      case measure => simp [RowKit.intOf]; omega
    · obtain rfl : k = l2.length := by omega
      have g1' : ((l2.length : Int) < (l2.length : Int)) = False := eq_false (by omega)
      go_wp2_with fail
      go_ret
      exact ⟨rfl, B8.trans (hb.mono B8.size)⟩
theorem dwhere_calls {n0 n1 n2 n3 n4 n5 : Int} (b0 : I64K n0) (b1 : I64K n1) (b2 : I64K n2) (b3 : I64K n3) (b4 : I64K n4) (b5 : I64K n5) (a1 : Int) (w1 : (Lit.int .u64 a1).wf = true) (a2 : Int) (w2 : (Lit.int .i64 a2).wf = true) (a3 : Int) (w3 : (Lit.int .i64 a3).wf = true) (a4 : Int) (w4 : (Lit.int .i64 a4).wf = true) (a5 : Int) (w5 : (Lit.int .i64 a5).wf = true) (w : World) (hT : Both w) :
    Calls Tryd.prog 4 #[.agg #[.int .i64 n0, .int .i64 n1, .int .i64 n2, .int .i64 n3, .int .i64 n4, .int .i64 n5], .int .u64 a1, .int .i64 a2, .int .i64 a3, .int .i64 a4, .int .i64 a5] w fun o w' => o = .returned (.bool true) ∧ Below w.heap.size w w' := by
  have h1 := bounds_u64 w1
  obtain ⟨k, rfl⟩ := Int.eq_ofNat_of_zero_le h1.1
  exact dwhere_walk n0 n1 n2 n3 n4 n5 a2 a3 a4 a5 k b0 b1 b2 b3 b4 b5 (bounds_i64 w2) (bounds_i64 w3) (bounds_i64 w4) (bounds_i64 w5) w hT
end Go.Proofs.YtpjgljfcmhiapaaDoor
