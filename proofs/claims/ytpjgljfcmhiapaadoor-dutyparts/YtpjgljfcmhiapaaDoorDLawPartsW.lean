/- Layer 10's laws: plain facts on committees.
   The walk of DutyParts. -/
import Derived.Test.YtpjgljfcmhiapaaDoorDutH
import Derived.OpenShut
namespace Go.Proofs.YtpjgljfcmhiapaaDoor
open Go.RowKit Go.Lib

theorem hold_uniq {V M j k : Nat} (hV : 1 ≤ V) (hM : 1 ≤ M) (h1 : bndC V M k ≤ j) (h2 : j < bndC V M (k + 1)) : holdD V M j = k := by
  unfold bndC at h1 h2
  have hp : 1 ≤ (j + 1) * M := Nat.mul_pos (by omega) hM
  have a1 : V * k < (j + 1) * M := by
    rw [← Nat.div_lt_iff_lt_mul (by omega)]; omega
  have a2 : (j + 1) * M ≤ V * (k + 1) := by
    rw [← Nat.le_div_iff_mul_le (by omega)]; omega
  unfold holdD
  apply Nat.le_antisymm
  · have : ((j + 1) * M - 1) / V < k + 1 := (Nat.div_lt_iff_lt_mul (by omega)).2 (by rw [Nat.mul_comm (k + 1) V]; omega)
    omega
  · exact (Nat.le_div_iff_mul_le (by omega)).2 (by rw [Nat.mul_comm k V]; omega)
theorem numD_at {S C e s i : Nat} (hs : s < S) : numD S C (e * S + s) i = s * C + i := by
  unfold numD
  rw [Nat.mul_comm e S, Nat.mul_add_mod, Nat.mod_eq_of_lt hs]
theorem slot_div {S e s : Nat} (hs : s < S) : (e * S + s) / S = e := by
  rw [Nat.mul_comm e S, Nat.mul_add_div (by omega), Nat.div_eq_of_lt hs, Nat.add_zero]
theorem num_parts {S C kk : Nat} (hC : 1 ≤ C) (hk : kk < numC S C) : kk / C < S ∧ kk % C < C ∧ kk / C * C + kk % C = kk := by
  unfold numC at hk
  refine ⟨?_, Nat.mod_lt _ hC, Nat.div_add_mod' kk C⟩
  rw [Nat.div_lt_iff_lt_mul hC]; exact hk
theorem memL_get {V K sd a b i : Nat} (h : i < (memL V K sd a b).length) : (memL V K sd a b)[i] = placeS (roundS V sd) K (a + i) := by
  simp only [memL, List.getElem_map, List.getElem_range', Nat.one_mul]
end Go.Proofs.YtpjgljfcmhiapaaDoor

namespace Go.Proofs.YtpjgljfcmhiapaaDoor
open Go.RowKit Go.Lib

theorem mem_memL {V K sd m y : Nat} : y ∈ memL V K sd 0 m ↔ ∃ j, j < m ∧ placeS (roundS V sd) K j = y := by
  unfold memL
  rw [Nat.sub_zero, ← List.range_eq_range', List.mem_map]
  simp only [List.mem_range]
/-- Which validators there were among the first m. -/
def hadR (V K sd m : Nat) : List Value := (List.range V).map fun x => .bool (decide (x ∈ memL V K sd 0 m))
theorem hadR_length (V K sd m : Nat) : (hadR V K sd m).length = V := by simp [hadR]
theorem hadR_zero (V K sd : Nat) : hadR V K sd 0 = List.replicate V (.bool false) := by
  unfold hadR
  rw [List.eq_replicate_iff]
  refine ⟨by simp, fun b hb => ?_⟩
  obtain ⟨x, _, rfl⟩ := List.mem_map.1 hb
  rw [decide_eq_false fun h => by obtain ⟨j, hj, _⟩ := mem_memL.1 h; omega]
theorem hadR_get {V K sd m : Nat} (hm : m < V) : (hadR V K sd m)[placeS (roundS V sd) K m]? = some (.bool false) := by
  have hx : placeS (roundS V sd) K m < V := runS_lt stS_lt _ hm
  unfold hadR
  rw [List.getElem?_map, List.getElem?_range hx, Option.map_some, decide_eq_false fun h => by
    obtain ⟨j, hj, e⟩ := mem_memL.1 h
    have := (place_inj stS_lt stS_st K (show j < V by omega) hm).1 e
    omega]
theorem hadR_set {V K sd m : Nat} (hm : m < V) : (hadR V K sd m).set (placeS (roundS V sd) K m) (.bool true) = hadR V K sd (m + 1) := by
  apply List.ext_getElem
  · simp [hadR]
  · intro y h1 h2
    simp only [hadR, List.getElem_set, List.getElem_map, List.getElem_range]
    by_cases e : placeS (roundS V sd) K m = y
    · rw [if_pos e, decide_eq_true (mem_memL.2 ⟨m, by omega, e⟩)]
    · rw [if_neg e]
      congr 1
      apply decide_eq_decide.2
      rw [mem_memL, mem_memL]
      constructor
      · rintro ⟨j, hj, h⟩; exact ⟨j, by omega, h⟩
      · rintro ⟨j, hj, h⟩
        by_cases hjm : j = m
        · subst hjm; exact absurd h e
        · exact ⟨j, by omega, h⟩
theorem bnd_step {V M k : Nat} (hM : 1 ≤ M) : bndC V M k + V / M ≤ bndC V M (k + 1) ∧ bndC V M (k + 1) ≤ bndC V M k + V / M + 1 := by
  unfold bndC
  rw [Nat.mul_succ]
  generalize V * k = a
  refine ⟨(Nat.le_div_iff_mul_le (by omega)).2 (by rw [Nat.add_mul]; exact Nat.add_le_add (Nat.div_mul_le_self _ _) (Nat.div_mul_le_self _ _)), ?_⟩
  have h1 : a < (a / M + 1) * M := by rw [Nat.mul_comm]; exact Nat.lt_mul_div_succ a (by omega)
  have h2 : V < (V / M + 1) * M := by rw [Nat.mul_comm]; exact Nat.lt_mul_div_succ V (by omega)
  have h3 : (a + V) / M < a / M + V / M + 2 := by
    rw [Nat.div_lt_iff_lt_mul (by omega), show a / M + V / M + 2 = (a / M + 1) + (V / M + 1) by omega, Nat.add_mul]
    omega
  omega
theorem info_bool : (Tryd.prog.info? 4).map (fun i => (i.zero, i.size, i.bytes)) = some (some (.bool false), 1, 1) := by kernel_rfl

set_option maxHeartbeats 4000000 in
set_option maxRecDepth 100000 in
theorem dparts_walk (n0 n1 n2 n3 n4 n5 ep : Int) (Z : Nat) (b0 : I64K n0) (b1 : I64K n1) (b2 : I64K n2) (b3 : I64K n3) (b4 : I64K n4) (b5 : I64K n5) (be : I64K ep) (w : World) (hT : Both w) :
    Calls Tryd.prog 5 #[.agg #[.int .i64 n0, .int .i64 n1, .int .i64 n2, .int .i64 n3, .int .i64 n4, .int .i64 n5], .int .u64 (Z : Int), .int .i64 ep] w fun o w' => o = .returned (.bool true) ∧ Below w.heap.size w w' := by
  obtain ⟨V, S, C, N, T, D, R, K, G, hfit, cCh⟩ := raw_chain n0 n1 n2 n3 n4 n5 b0 b1 b2 b3 b4 b5 Z
  obtain ⟨v1, v2, kK, s1, s2, c1, c2⟩ : 1 ≤ V ∧ V ≤ 1024 ∧ K ≤ 90 ∧ 1 ≤ S ∧ S ≤ 32 ∧ 1 ≤ C ∧ C ≤ 8 := ⟨hfit.v1, hfit.v2, hfit.k2, hfit.s1, hfit.s2, hfit.c1, hfit.c2⟩
  obtain ⟨m1, m2⟩ := numC_bd s1 s2 c1 c2
  obtain ⟨i0, hi, hy0, hy1, hy2⟩ := info_parts info_bool
  obtain ⟨ZZ, hZZ⟩ : ∃ ZZ, ZZ = madeCells (Value.bool false).cells (V * i0.size) := ⟨_, rfl⟩
  have hZs : ZZ.toList = List.replicate V (.bool false) := by rw [hZZ, hy1, Nat.mul_one]; exact toList_madeCells_one _ _
  have hmk : ∀ W : World, (Instr.makeSlice 50 (.int .i64 (V : Int)) (.int .i64 (V : Int))).run Tryd.prog W = .ok (.slice (some ⟨W.heap.size, 0, none⟩) V V) (W.alloc (.cells ZZ 4)) := fun W => by
    have hr := run_make (P := Tryd.prog) W 50 4 i0 (.bool false) Tryd.underlying50 hi hy0 .i64 .i64 (V : Int) (V : Int) (by omega) (by omega) (by rw [hy2]; omega) (by omega)
    rw [hZZ]
    simpa using hr
  clear hZZ hi hy0 hy1 hy2
  have hp1 := pickS_lt ep 1073741824 (by decide)
  have cP := fun W => pick10_any ep 1073741824 W be (by decide) (by decide)
  generalize pickS ep 1073741824 = e at *
  have q6 := RowAt.new w 25 #[.int .i64 n0, .int .i64 n1, .int .i64 n2, .int .i64 n3, .int .i64 n4, .int .i64 n5]
  have B0 := (Below.refl w.heap.size w).alloc (Nat.le_refl _) (.cells #[.int .i64 n0, .int .i64 n1, .int .i64 n2, .int .i64 n3, .int .i64 n4, .int .i64 n5] 25)
  have hT0 : Both (w.alloc (.cells #[.int .i64 n0, .int .i64 n1, .int .i64 n2, .int .i64 n3, .int .i64 n4, .int .i64 n5] 25)) := ⟨hT.1.below B0 hT.1.lt, hT.2.below B0 hT.2.lt⟩
  go_enter Tryd.func5, Tryd.ntmps5
  go_wp2_with fail
  with_reducible refine (awake10_any _ hT0).mono ?_
  rintro o w1 ⟨rfl, bN⟩
  replace q6 := q6.on bN
  have hT1 := hT0.on bN
  have B1 := B0.trans (bN.mono B0.size)
  clear bN B0 hT0
  have x0 : w1.cell? ⟨w.heap.size, 0, none⟩ = some (.int .i64 n0) := q6.cell 0
  have x1 : w1.cell? ⟨w.heap.size, 1, none⟩ = some (.int .i64 n1) := q6.cell 1
  have x2 : w1.cell? ⟨w.heap.size, 2, none⟩ = some (.int .i64 n2) := q6.cell 2
  have x3 : w1.cell? ⟨w.heap.size, 3, none⟩ = some (.int .i64 n3) := q6.cell 3
  have x4 : w1.cell? ⟨w.heap.size, 4, none⟩ = some (.int .i64 n4) := q6.cell 4
  have x5 : w1.cell? ⟨w.heap.size, 5, none⟩ = some (.int .i64 n5) := q6.cell 5
  go_wp2_with fail
  with_reducible refine (cCh _).mono ?_
  rintro o w2 ⟨rfl, bN⟩
  have hT2 := hT1.on bN
  have B2 := B1.trans (bN.mono B1.size)
  clear bN B1 hT1 q6 x0 x1 x2 x3 x4 x5
  go_upto_region 3 with (fail)
  have q := RowAt.new w2 24 #[.int .i64 (V : Int), .int .i64 (S : Int), .int .i64 (C : Int), .int .i64 (N : Int), .int .i64 (T : Int), .int .i64 (D : Int), .int .i64 (R : Int), .int .i64 (K : Int), .int .i64 (G : Int), .int .u64 (Z : Int)]
  have bx := (Below.refl w2.heap.size w2).alloc (Nat.le_refl _) (.cells #[.int .i64 (V : Int), .int .i64 (S : Int), .int .i64 (C : Int), .int .i64 (N : Int), .int .i64 (T : Int), .int .i64 (D : Int), .int .i64 (R : Int), .int .i64 (K : Int), .int .i64 (G : Int), .int .u64 (Z : Int)] 24)
  have hT3 := hT2.on bx
  have B3 := B2.trans (bx.mono B2.size)
  clear bx B2 hT2
  generalize w2.alloc (.cells #[.int .i64 (V : Int), .int .i64 (S : Int), .int .i64 (C : Int), .int .i64 (N : Int), .int .i64 (T : Int), .int .i64 (D : Int), .int .i64 (R : Int), .int .i64 (K : Int), .int .i64 (G : Int), .int .u64 (Z : Int)] 24) = w3 at *
  generalize w2.heap.size = gC at *
  go_wp2_with fail
  with_reducible refine (cP _).mono ?_
  rintro o w4 ⟨rfl, rfl⟩
  clear cP cCh
  have eS : (e : Int) * (S : Int) = ((e * S : Nat) : Int) := (Int.natCast_mul _ _).symm
  have hES : e * S ≤ 34359738368 := Nat.le_trans (Nat.mul_le_mul (show e ≤ 1073741824 by omega) s2) (by decide)
  obtain ⟨sd, hsd⟩ : ∃ sd, foldB [Z, e] = sd := ⟨_, rfl⟩
  have HY := Lib.hid (fun (s i : Nat) (W : World) (hW : Both W) (hs : s < S) (hi : i < C) => (by
    have := Members_yes V S C N T D R K G Z (e * S + s) i W hW hfit (by omega) hi _ rfl
    rw [slot_div hs, numD_at hs, hsd] at this
    exact this : Calls Tryd.prog 12 #[.agg #[.int .i64 (V : Int), .int .i64 (S : Int), .int .i64 (C : Int), .int .i64 (N : Int), .int .i64 (T : Int), .int .i64 (D : Int), .int .i64 (R : Int), .int .i64 (K : Int), .int .i64 (G : Int), .int .u64 (Z : Int)], .int .i64 ((e * S + s : Nat) : Int), .int .i64 (i : Int)] W fun o w' => ∃ gg : Nat, o = .returned (.tuple #[.slice (some ⟨gg, 0, none⟩) (memL V K sd (bndC V (numC S C) (s * C + i)) (bndC V (numC S C) (s * C + i + 1))).length (memL V K sd (bndC V (numC S C) (s * C + i)) (bndC V (numC S C) (s * C + i + 1))).length, .int .i64 0]) ∧ RowAt w' gg 3 (intsV (memL V K sd (bndC V (numC S C) (s * C + i)) (bndC V (numC S C) (s * C + i + 1)))) ∧ Below W.heap.size W w'))
  have HB := Lib.hid (fun (k : Nat) (hk : k ≤ numC S C) => (bnd_le m1 hk : bndC V (numC S C) k ≤ V))
  have HK := Lib.hid (fun (s i : Nat) (hs : s < S) (hi : i < C) => (by
    have := numD_lt (x := e * S + s) s1 hi
    rwa [numD_at hs] at this : s * C + i < numC S C))
  have HL := Lib.hid (show bndC V (numC S C) (S * C) = V by unfold bndC numC; exact Nat.mul_div_cancel _ m1)
  have HZ := Lib.hid (show bndC V (numC S C) 0 = 0 by unfold bndC; simp)
  have HS := Lib.hid (fun k => bnd_step (V := V) (k := k) m1)
  have hfV : V / numC S C ≤ V := Nat.div_le_self _ _
  obtain ⟨P, hP⟩ : ∃ P, e * S = P := ⟨_, rfl⟩
  rw [hP] at eS hES HY
  have wP : IntKind.i64.wrap (P : Int) = (P : Int) := wrap_small (by omega) (by omega)
  clear hP
  generalize hbd : bndC V (numC S C) = bd at *
  generalize V / numC S C = fl at *
  have z0 : w3.cell? ⟨gC, 0, none⟩ = some (.int .i64 (V : Int)) := q.cell 0
  have z1 : w3.cell? ⟨gC, 1, none⟩ = some (.int .i64 (S : Int)) := q.cell 1
  have z2 : w3.cell? ⟨gC, 2, none⟩ = some (.int .i64 (C : Int)) := q.cell 2
  have z3 : w3.cell? ⟨gC, 3, none⟩ = some (.int .i64 (N : Int)) := q.cell 3
  have z4 : w3.cell? ⟨gC, 4, none⟩ = some (.int .i64 (T : Int)) := q.cell 4
  have z5 : w3.cell? ⟨gC, 5, none⟩ = some (.int .i64 (D : Int)) := q.cell 5
  have z6 : w3.cell? ⟨gC, 6, none⟩ = some (.int .i64 (R : Int)) := q.cell 6
  have z7 : w3.cell? ⟨gC, 7, none⟩ = some (.int .i64 (K : Int)) := q.cell 7
  have z8 : w3.cell? ⟨gC, 8, none⟩ = some (.int .i64 (G : Int)) := q.cell 8
  have z9 : w3.cell? ⟨gC, 9, none⟩ = some (.int .u64 (Z : Int)) := q.cell 9
  have HQ := Lib.hid (And.intro eS (And.intro hES (And.intro wP (And.intro hfV (And.intro hfit (And.intro hp1 (And.intro m1 m2)))))))
  clear hsd hbd eS hES wP hfV hfit hp1 m1 m2
  have bA : Below w3.heap.size w3 (w3.alloc (.cells ZZ 4)) := (Below.refl _ _).alloc (Nat.le_refl _) _
  have zA : (w3.alloc (.cells ZZ 4)).cell? ⟨gC, 0, none⟩ = some (.int .i64 (V : Int)) := (q.on bA).cell 0
  go_wp2_with fail
  obtain ⟨eS, hES, wP, hfV, hfit, hp1, m1, m2⟩ := HQ.out
  clear z0 z1 z2 z3 z4 z5 z6 z7 z8 z9 zA
  obtain ⟨w5, hw5⟩ : ∃ w5, w5 = w3.alloc (.cells ZZ 4) := ⟨_, rfl⟩
  have b35 : Below w3.heap.size w3 w5 := by rw [hw5]; exact bA
  have rH : RowAt w5 w3.heap.size 4 (hadR V K sd 0) := by
    have := RowAt.new w3 4 ZZ
    rw [hZs, ← hadR_zero V K sd] at this
    rw [hw5]; exact this
  rw [← hw5]
  clear hw5 hZs hmk bA
  obtain ⟨gH, hgH⟩ : ∃ gH, gH = w3.heap.size := ⟨_, rfl⟩
  rw [← hgH] at rH ⊢
  have hgle : w3.heap.size ≤ gH := by omega
  clear hgH
  go_loopw [11, 12, 13, 14] (fun av lv mv sv wr => ∃ s lo mo : Nat, s ≤ S ∧ av = .int .i64 (bd (s * C) : Int) ∧ lv = .int .i64 (lo : Int) ∧ mv = .int .i64 (mo : Int) ∧ sv = .int .i64 (s : Int) ∧ fl ≤ lo ∧ lo ≤ V ∧ mo ≤ fl + 1 ∧ RowAt wr gH 4 (hadR V K sd (bd (s * C))) ∧ Below w3.heap.size w3 wr) (fun _ _ _ sv _ => S - (RowKit.intOf sv).toNat)
  case atStart => exact ⟨0, V, 0, Nat.zero_le _, by rw [Nat.zero_mul, HZ.out]; rfl, rfl, rfl, rfl, hfV, Nat.le_refl _, Nat.zero_le _, by rw [Nat.zero_mul, HZ.out]; exact rH, b35⟩
  case round =>
    obtain ⟨s, lo, mo, hs, rfl, rfl, rfl, rfl, hlo, hloV, hmo, rW, hb⟩ := hrel
    obtain ⟨wo, hwo⟩ : ∃ wo, wo = wr := ⟨_, rfl⟩
    subst hwo
    have q3 := q
    clear rH
    replace q := q.on hb
    have Bo := B3.trans (hb.mono B3.size)
    have z0 : wo.cell? ⟨gC, 0, none⟩ = some (.int .i64 (V : Int)) := q.cell 0
    have z1 : wo.cell? ⟨gC, 1, none⟩ = some (.int .i64 (S : Int)) := q.cell 1
    have z2 : wo.cell? ⟨gC, 2, none⟩ = some (.int .i64 (C : Int)) := q.cell 2
    have z3 : wo.cell? ⟨gC, 3, none⟩ = some (.int .i64 (N : Int)) := q.cell 3
    have z4 : wo.cell? ⟨gC, 4, none⟩ = some (.int .i64 (T : Int)) := q.cell 4
    have z5 : wo.cell? ⟨gC, 5, none⟩ = some (.int .i64 (D : Int)) := q.cell 5
    have z6 : wo.cell? ⟨gC, 6, none⟩ = some (.int .i64 (R : Int)) := q.cell 6
    have z7 : wo.cell? ⟨gC, 7, none⟩ = some (.int .i64 (K : Int)) := q.cell 7
    have z8 : wo.cell? ⟨gC, 8, none⟩ = some (.int .i64 (G : Int)) := q.cell 8
    have z9 : wo.cell? ⟨gC, 9, none⟩ = some (.int .u64 (Z : Int)) := q.cell 9
    by_cases hsS : s < S
    · have g1 : ((s : Int) < (S : Int)) = True := eq_true (by omega)
      have g2 : (s < S) = True := eq_true hsS
      go_wp2_with fail
      clear z0 z1 z2 z3 z4 z5 z6 z7 z8 z9
      go_loopw [11, 12, 13, 15] (fun av lv mv iv wr => ∃ i lo mo : Nat, i ≤ C ∧ av = .int .i64 (bd (s * C + i) : Int) ∧ lv = .int .i64 (lo : Int) ∧ mv = .int .i64 (mo : Int) ∧ iv = .int .i64 (i : Int) ∧ fl ≤ lo ∧ lo ≤ V ∧ mo ≤ fl + 1 ∧ RowAt wr gH 4 (hadR V K sd (bd (s * C + i))) ∧ Below w3.heap.size w3 wr) (fun _ _ _ iv _ => C - (RowKit.intOf iv).toNat)
      case atStart => exact ⟨0, lo, mo, Nat.zero_le _, rfl, rfl, rfl, rfl, hlo, hloV, hmo, rW, hb⟩
      case round =>
        clear hlo hloV hmo
        obtain ⟨i, lo, mo, hi', rfl, rfl, rfl, rfl, hlo, hloV, hmo, rW, hbi⟩ := hrel
        replace q := q3.on hbi
        have hTi := hT3.on hbi
        have z0 : wr.cell? ⟨gC, 0, none⟩ = some (.int .i64 (V : Int)) := q.cell 0
        have z1 : wr.cell? ⟨gC, 1, none⟩ = some (.int .i64 (S : Int)) := q.cell 1
        have z2 : wr.cell? ⟨gC, 2, none⟩ = some (.int .i64 (C : Int)) := q.cell 2
        have z3 : wr.cell? ⟨gC, 3, none⟩ = some (.int .i64 (N : Int)) := q.cell 3
        have z4 : wr.cell? ⟨gC, 4, none⟩ = some (.int .i64 (T : Int)) := q.cell 4
        have z5 : wr.cell? ⟨gC, 5, none⟩ = some (.int .i64 (D : Int)) := q.cell 5
        have z6 : wr.cell? ⟨gC, 6, none⟩ = some (.int .i64 (R : Int)) := q.cell 6
        have z7 : wr.cell? ⟨gC, 7, none⟩ = some (.int .i64 (K : Int)) := q.cell 7
        have z8 : wr.cell? ⟨gC, 8, none⟩ = some (.int .i64 (G : Int)) := q.cell 8
        have z9 : wr.cell? ⟨gC, 9, none⟩ = some (.int .u64 (Z : Int)) := q.cell 9
        by_cases hiC : i < C
        · have g3 : ((i : Int) < (C : Int)) = True := eq_true (by omega)
          have g4 : (i < C) = True := eq_true hiC
          have cY := HY.out s i wr hTi hsS hiC
          have hk := HK.out s i hsS hiC
          have hV9 : bd (s * C + i + 1) ≤ V := HB.out _ hk
          obtain ⟨st1, st2⟩ := HS.out (s * C + i)
          have hml : (memL V K sd (bd (s * C + i)) (bd (s * C + i + 1))).length = bd (s * C + i + 1) - bd (s * C + i) := memL_length _ _ _ _ _
          have hmg : ∀ j (hj : j < (memL V K sd (bd (s * C + i)) (bd (s * C + i + 1))).length), (memL V K sd (bd (s * C + i)) (bd (s * C + i + 1)))[j] = placeS (roundS V sd) K (bd (s * C + i) + j) := fun j hj => memL_get hj
          have HMG := Lib.hid hmg
          clear hmg
          obtain ⟨xx, hxx⟩ : ∃ xx, P + s = xx := ⟨_, rfl⟩
          have e5 : (P : Int) + (s : Int) = (xx : Int) := by omega
          have e6 : IntKind.i64.wrap (xx : Int) = (xx : Int) := wrap_small (by omega) (by omega)
          rw [hxx] at cY
          generalize memL V K sd (bd (s * C + i)) (bd (s * C + i + 1)) = ml at *
          obtain ⟨bb, hbb⟩ : ∃ bb, bd (s * C + i + 1) = bb := ⟨_, rfl⟩
          have HBB := Lib.hid hbb
          rw [hbb] at hml hV9 st1 st2
          generalize bd (s * C + i) = ba at *
          obtain ⟨mn, hmn⟩ : ∃ mn, ml.length = mn := ⟨_, rfl⟩
          have HMN := Lib.hid hmn
          rw [hmn] at cY
          have hb1 : ba + mn ≤ bb := by omega
          have hb2 : bb ≤ ba + mn := by omega
          have hf1 : fl ≤ mn := by omega
          have hf2 : mn ≤ fl + 1 := by omega
          clear hxx hmn hbb hml st1 st2
          go_wp2_with fail
          with_reducible refine cY.mono ?_
          rintro o w6 ⟨gg, rfl, rG, b6⟩
          have hb6 := hbi.trans (b6.mono hbi.size)
          have rW6 := rW.on b6
          have hne : gg ≠ gH := fun e => by
            subst e
            have h9 := (rG : _ = _).symm.trans rW6
            injection h9 with h9
            injection h9 with _ h9 _
            exact absurd h9 (by decide)
          clear z0 z1 z2 z3 z4 z5 z6 z7 z8 z9 cY b6
          go_wp2_with fail
          go_loopw [18] (fun kv wr => ∃ k : Nat, k ≤ mn ∧ kv = .int .i64 (k : Int) ∧ RowAt wr gH 4 (hadR V K sd (ba + k)) ∧ RowAt wr gg 3 (intsV ml) ∧ Below w3.heap.size w3 wr) (fun kv _ => mn - (RowKit.intOf kv).toNat)
          case atStart => exact ⟨0, Nat.zero_le _, rfl, rW6, rG, hb6⟩
          case round =>
            obtain ⟨k, hkm, rfl, rX, rY, hbk⟩ := hrel
            clear rW6 rW rG
            by_cases hkl : k < mn
            · have g5 : ((k : Int) < (mn : Int)) = True := eq_true (by omega)
              have g6 : (k < mn) = True := eq_true hkl
              have hkl' : k < ml.length := by rw [HMN.out]; exact hkl
              have hbV : ba + k < V := by omega
              have hgx := HMG.out k hkl'
              have hxV : placeS (roundS V sd) K (ba + k) < V := runS_lt stS_lt _ hbV
              have zl : wr.cell? ⟨gg, k, none⟩ = some (.int .i64 (placeS (roundS V sd) K (ba + k) : Int)) := by rw [rY.cell]; exact intsV_get (by rw [List.getElem?_eq_getElem hkl', hgx])
              have zh : wr.cell? ⟨gH, placeS (roundS V sd) K (ba + k), none⟩ = some (.bool false) := by rw [rX.cell]; exact hadR_get hbV
              have R1 := rX.set (placeS (roundS V sd) K (ba + k)) (.bool true)
              rw [hadR_set hbV] at R1
              have fz := rX.frozen (placeS (roundS V sd) K (ba + k))
              have R2 := rY.far (p := ⟨gH, placeS (roundS V sd) K (ba + k), none⟩) (by exact hne) (.bool true)
              have R3 := hbk.setCell (p := ⟨gH, placeS (roundS V sd) K (ba + k), none⟩) hgle (.bool true)
              have z0 : wr.cell? ⟨gC, 0, none⟩ = some (.int .i64 (V : Int)) := (q3.on hbk).cell 0
              clear hgx rX rY hbk
              generalize placeS (roundS V sd) K (ba + k) = x at *
              have t1 : ((x : Int) < 0) = False := eq_false (by omega)
              have t2 : ((V : Int) ≤ (x : Int)) = False := eq_false (by omega)
              have t3 : (V ≤ x) = False := eq_false (by omega)
              have t4 : ((x : Int) < (V : Int)) = True := eq_true (by omega)
              have t5 : (x < V) = True := eq_true hxV
              have t6 : decide ((x : Int) < 0) = false := by simp
              have t7 : decide ((V : Int) ≤ (x : Int)) = false := decide_eq_false (by omega)
              go_wp2_with fail
              go_quiet (fail)
              have zl' : (wr.drewN nq).cell? ⟨gg, k, none⟩ = some (.int .i64 (x : Int)) := zl
              have zh' : (wr.drewN nq).cell? ⟨gH, x, none⟩ = some (.bool false) := zh
              have fz' : (wr.drewN nq).frozen? ⟨gH, x, none⟩ = false := fz
              have R1' : RowAt ((wr.drewN nq).setCell ⟨gH, x, none⟩ (.bool true)) gH 4 (hadR V K sd (ba + k + 1)) := R1
              have R2' : RowAt ((wr.drewN nq).setCell ⟨gH, x, none⟩ (.bool true)) gg 3 (intsV ml) := R2
              have R3' : Below w3.heap.size w3 ((wr.drewN nq).setCell ⟨gH, x, none⟩ (.bool true)) := ⟨R3.os, R3.tape, R3.output, R3.size, R3.block⟩
              clear zl zh fz R1 R2 R3 z0
              generalize wr.drewN nq = wd at *
              go_wp2_with fail
              go_roundw
              case rel => exact ⟨k + 1, by omega, by go_num, R1', R2', R3'⟩
              case measure => simp [RowKit.intOf]; omega
            · obtain rfl : k = mn := by omega
              have g5 : ((k : Int) < (k : Int)) = False := eq_false (by omega)
              obtain ⟨lo2, hlo2⟩ : ∃ lo2, min lo k = lo2 := ⟨_, rfl⟩
              obtain ⟨mo2, hmo2⟩ : ∃ mo2, max mo k = mo2 := ⟨_, rfl⟩
              have u1 : min (lo : Int) (k : Int) = (lo2 : Int) := by omega
              have u2 : max (mo : Int) (k : Int) = (mo2 : Int) := by omega
              have u3 : (ba : Int) + (k : Int) = (bb : Int) := by omega
              have u4 : IntKind.i64.wrap (bb : Int) = (bb : Int) := wrap_small (by omega) (by omega)
              have u5 : fl ≤ lo2 ∧ lo2 ≤ V ∧ mo2 ≤ fl + 1 := by omega
              have hbb2 : ba + k = bb := by omega
              rw [hbb2] at rX
              clear hlo2 hmo2 hbb2 hb1 hb2 hf1 hf2 hlo hloV hmo
              go_wp2_with fail
              go_roundw
              case rel => exact ⟨i + 1, lo2, mo2, by omega, by rw [← HBB.out]; rfl, rfl, rfl, by go_num, u5.1, u5.2.1, u5.2.2, by rw [← HBB.out] at rX; exact rX, hbk⟩
              case measure => simp [RowKit.intOf]; omega
        · obtain rfl : i = C := by omega
          have g3 : ((i : Int) < (i : Int)) = False := eq_false (by omega)
          have eC : (s + 1) * i = s * i + i := Nat.succ_mul s i
          go_wp2_with fail
          go_roundw
          case rel => exact ⟨s + 1, lo, mo, by omega, by rw [eC], rfl, rfl, by go_num, hlo, hloV, hmo, by rw [eC]; exact rW, hbi⟩
          case measure => simp [RowKit.intOf]; omega
    · obtain rfl : s = S := by omega
      have g1 : ((s : Int) < (s : Int)) = False := eq_false (by omega)
      rw [HL.out]
      have u1 : IntKind.i64.wrap ((lo : Int) + 1) = (lo : Int) + 1 := wrap_small (by omega) (by omega)
      have u2 : ((mo : Int) ≤ (lo : Int) + 1) = True := eq_true (by omega)
      go_wp2_with fail
      go_ret
      exact ⟨rfl, Bo⟩
theorem dparts_calls {n0 n1 n2 n3 n4 n5 : Int} (b0 : I64K n0) (b1 : I64K n1) (b2 : I64K n2) (b3 : I64K n3) (b4 : I64K n4) (b5 : I64K n5) (a1 : Int) (w1 : (Lit.int .u64 a1).wf = true) (a2 : Int) (w2 : (Lit.int .i64 a2).wf = true) (w : World) (hT : Both w) :
    Calls Tryd.prog 5 #[.agg #[.int .i64 n0, .int .i64 n1, .int .i64 n2, .int .i64 n3, .int .i64 n4, .int .i64 n5], .int .u64 a1, .int .i64 a2] w fun o w' => o = .returned (.bool true) ∧ Below w.heap.size w w' := by
  have h1 := bounds_u64 w1
  obtain ⟨k, rfl⟩ := Int.eq_ofNat_of_zero_le h1.1
  exact dparts_walk n0 n1 n2 n3 n4 n5 a2 k b0 b1 b2 b3 b4 b5 (bounds_i64 w2) w hT
end Go.Proofs.YtpjgljfcmhiapaaDoor
