/- Of DutySelected: what hangs on size by Aggregators alone; a token with a key ahead of all is not right.
   The walk of DutySelected. -/
import Derived.Test.YtjipibpcnheniaaDoorDutH
import Derived.Test.YtjipibpcnheniaaDoorTokM
namespace Go.Proofs.YtjipibpcnheniaaDoor
open Go.RowKit Go.Lib

/-- Selected hangs on size by Aggregators, and below two of it each one is. -/
theorem selD_by {y G : Nat} {f : Bool} {l : List Pr} (hG : 1 ≤ G) : selD (max (y / G) 1 * G) G f l = selD y G f l := by
  unfold selD
  rw [Nat.mul_div_cancel _ (show 0 < G by omega)]
  generalize y / G = q
  by_cases h : q = 0
  · rw [h]; simp [Nat.mod_one]
  · rw [show max q 1 = q by omega]
theorem selD_all {y G : Nat} {f : Bool} {l : List Pr} (hG : 1 ≤ G) (hy : y < 2 * G) (h0 : (encT f l).2 = 0) : selD y G f l = true := by
  have h2 : y / G < 2 := (Nat.div_lt_iff_lt_mul (by omega)).2 hy
  unfold selD
  rw [h0]
  generalize y / G = q at *
  rcases (show q = 0 ∨ q = 1 by omega) with h | h <;> rw [h] <;> simp [Nat.mod_one]
theorem encT_raw (f : Bool) (raw : List Int) : (encT f (tokL raw)).2 = 0 := by
  unfold encT
  rw [if_pos (tokL_right raw)]
theorem wrong_right {raw : List Int} (h : tokL raw ≠ []) : rightT ((99, 0) :: tokL raw) = false := by
  have hs := tokL_small raw
  generalize tokL raw = l at *
  cases l with
  | nil => exact absurd rfl h
  | cons b l =>
    unfold rightT
    rw [srt_cons2, show aheadB b (99, 0) = true by rw [ahead_iff]; exact Or.inl (by have := (hs b (by simp)).1; show b.1 < 99; omega)]
    rfl
theorem selD_wrong {y G : Nat} {f : Bool} {raw : List Int} (h : tokL raw ≠ []) : selD y G f ((99, 0) :: tokL raw) = false := by
  unfold selD encT
  rw [if_neg (by rw [wrong_right h]; decide)]
  rfl
theorem selD_short {f : Bool} {raw : List Int} (h : tokL raw ≠ []) : (encT f ((99, 0) :: tokL raw)).1.length ≤ 1000 := by
  unfold encT
  rw [if_neg (by rw [wrong_right h]; decide)]
  exact Nat.zero_le _
theorem news_all10 {w W : World} {A : Option Addr} {c : Nat} {l : List Pr} (hP : Prs w w.heap.size (.slice A l.length c) l) (hb : Below w.heap.size w W) :
    0 < l.length → ∃ ad, A = some ad ∧ ∀ j u, (l.flatMap pairCells)[j]? = some u → W.cell? (ad.add j) = some u := by
  have := news_first hP hb (Nat.le_refl _)
  rwa [List.take_length] at this
end Go.Proofs.YtjipibpcnheniaaDoor

namespace Go.Proofs.YtjipibpcnheniaaDoor
open Go.RowKit Go.Lib

set_option maxHeartbeats 4000000 in
set_option maxRecDepth 100000 in
theorem dsel_walk (n0 n1 n2 n3 n4 n5 sz : Int) (b0 : I64K n0) (b1 : I64K n1) (b2 : I64K n2) (b3 : I64K n3) (b4 : I64K n4) (b5 : I64K n5) (be : I64K sz) (v : Value) (raw : List Int) (f : Bool) (w : World) (hv : Ints w w.heap.size v raw) (hI : ∀ r ∈ raw, I64 r) (h9 : raw.length ≤ maxLen) (hT : Both w) :
    Calls Tryd.prog 7 #[.agg #[.int .i64 n0, .int .i64 n1, .int .i64 n2, .int .i64 n3, .int .i64 n4, .int .i64 n5], .int .i64 sz, v, .bool f] w fun o w' => o = .returned (.bool true) ∧ Below w.heap.size w w' := by
  obtain ⟨V, S, C, N, T, D, R, K, G, hfit, cCh0⟩ := raw_chain n0 n1 n2 n3 n4 n5 b0 b1 b2 b3 b4 b5 0
  have cCh : ∀ w, Calls Tryd.prog 10 #[.agg #[.int .i64 n0, .int .i64 n1, .int .i64 n2, .int .i64 n3, .int .i64 n4, .int .i64 n5], .int .u64 0] w fun o w' => o = .returned (.agg #[.int .i64 (V : Int), .int .i64 (S : Int), .int .i64 (C : Int), .int .i64 (N : Int), .int .i64 (T : Int), .int .i64 (D : Int), .int .i64 (R : Int), .int .i64 (K : Int), .int .i64 (G : Int), .int .u64 0]) ∧ Below w.heap.size w w' := cCh0
  clear cCh0
  obtain ⟨s1, s2, g1, g2⟩ : 1 ≤ S ∧ S ≤ 32 ∧ 1 ≤ G ∧ G ≤ 16 := ⟨hfit.s1, hfit.s2, hfit.g1, hfit.g2⟩
  have hp1 := pickS_lt sz 200 (by decide)
  have cP := fun W => pick10_any sz 200 W be (by decide) (by decide)
  generalize pickS sz 200 = p at *
  have cT := fun W hW => Token_any v raw f W hW hI h9
  have q6 := RowAt.new w 25 #[.int .i64 n0, .int .i64 n1, .int .i64 n2, .int .i64 n3, .int .i64 n4, .int .i64 n5]
  have B0 := (Below.refl w.heap.size w).alloc (Nat.le_refl _) (.cells #[.int .i64 n0, .int .i64 n1, .int .i64 n2, .int .i64 n3, .int .i64 n4, .int .i64 n5] 25)
  have hT0 : Both (w.alloc (.cells #[.int .i64 n0, .int .i64 n1, .int .i64 n2, .int .i64 n3, .int .i64 n4, .int .i64 n5] 25)) := ⟨hT.1.below B0 hT.1.lt, hT.2.below B0 hT.2.lt⟩
  go_enter Tryd.func7, Tryd.ntmps7
  go_wp2_with fail
  with_reducible refine (awake10_any _ hT0).mono ?_
  rintro o w1 ⟨rfl, bN⟩
  replace q6 := q6.on bN
  have hT1 := hT0.on bN
  have B1 := B0.trans (bN.mono B0.size)
  clear bN B0 hT0
  have x0 : w1.cell? ⟨w.heap.size, 0, none⟩ = some (.int .i64 n0) := q6.cell 0
  have x1 : w1.cell? ⟨w.heap.size, 1, none⟩ = some (.int .i64 n1) := q6.cell 1
  have x2 : w1.cell? ⟨w.heap.size, 2, none⟩ = some (.int .i64 n2) := q6.cell 2
  have x3 : w1.cell? ⟨w.heap.size, 3, none⟩ = some (.int .i64 n3) := q6.cell 3
  have x4 : w1.cell? ⟨w.heap.size, 4, none⟩ = some (.int .i64 n4) := q6.cell 4
  have x5 : w1.cell? ⟨w.heap.size, 5, none⟩ = some (.int .i64 n5) := q6.cell 5
  go_wp2_with fail
  with_reducible refine (cCh _).mono ?_
  rintro o w2 ⟨rfl, bN⟩
  have hT2 := hT1.on bN
  have B2 := B1.trans (bN.mono B1.size)
  clear bN B1 hT1 q6 x0 x1 x2 x3 x4 x5 cCh
  go_upto_region 3 with (fail)
  have q := RowAt.new w2 24 #[.int .i64 (V : Int), .int .i64 (S : Int), .int .i64 (C : Int), .int .i64 (N : Int), .int .i64 (T : Int), .int .i64 (D : Int), .int .i64 (R : Int), .int .i64 (K : Int), .int .i64 (G : Int), .int .u64 0]
  have bx := (Below.refl w2.heap.size w2).alloc (Nat.le_refl _) (.cells #[.int .i64 (V : Int), .int .i64 (S : Int), .int .i64 (C : Int), .int .i64 (N : Int), .int .i64 (T : Int), .int .i64 (D : Int), .int .i64 (R : Int), .int .i64 (K : Int), .int .i64 (G : Int), .int .u64 0] 24)
  have hT3 := hT2.on bx
  have B3 := B2.trans (bx.mono B2.size)
  clear bx B2 hT2
  generalize w2.alloc (.cells #[.int .i64 (V : Int), .int .i64 (S : Int), .int .i64 (C : Int), .int .i64 (N : Int), .int .i64 (T : Int), .int .i64 (D : Int), .int .i64 (R : Int), .int .i64 (K : Int), .int .i64 (G : Int), .int .u64 0] 24) = w3 at *
  generalize w2.heap.size = gC at *
  go_wp2_with fail
  with_reducible refine (cT _ (hv.on B3)).mono ?_
  rintro o w4 ⟨x, rfl, hx, bN⟩
  obtain ⟨A, pc, rfl, hpc, hx⟩ := hx.form
  replace q := q.on bN
  have hT4 := hT3.on bN
  have B4 := B3.trans (bN.mono B3.size)
  clear bN B3 hT3 cT
  have hlen := tokL_length raw
  go_upto_region 4 with (fail)
  have hgCT := q.lt
  have qt := RowAt.new w4 28 #[.bool f, .slice A (tokL raw).length pc]
  have bx := (Below.refl w4.heap.size w4).alloc (Nat.le_refl _) (.cells #[.bool f, .slice A (tokL raw).length pc] 28)
  replace q := q.on bx
  replace hx := hx.on bx
  have hT5 := hT4.on bx
  have B5 := B4.trans (bx.mono B4.size)
  clear bx B4 hT4
  generalize w4.alloc (.cells #[.bool f, .slice A (tokL raw).length pc] 28) = w5 at *
  generalize w4.heap.size = gT at *
  go_wp2_with fail
  with_reducible refine (cP _).mono ?_
  rintro o w6 ⟨rfl, rfl⟩
  clear cP
  obtain ⟨y, hy⟩ : ∃ y, 1 + p = y := ⟨_, rfl⟩
  have e1 : (1 : Int) + (p : Int) = (y : Int) := by omega
  have y1 : 1 ≤ y := by omega
  have y2 : y ≤ 200 := by omega
  clear hy hp1
  have e2 : IntKind.i64.wrap (y : Int) = (y : Int) := wrap_small (by omega) (by omega)
  obtain ⟨H, hH⟩ : ∃ H, 2 * G = H := ⟨_, rfl⟩
  have e3 : (2 : Int) * (G : Int) = (H : Int) := by omega
  have e4 : IntKind.i64.wrap (H : Int) = (H : Int) := wrap_small (by omega) (by omega)
  have HH := Lib.hid hH
  have HW := Lib.hid (fun (h : tokL raw ≠ []) => (selD_wrong h : selD y G f ((99, 0) :: tokL raw) = false))
  have H0 := Lib.hid (encT_raw f raw)
  have HL := Lib.hid (show (encT f (tokL raw)).1.length ≤ 1000 by unfold encT; rw [if_pos (tokL_right raw)]; show (encB f (tokL raw)).length ≤ 1000; rw [encB_length]; omega)
  have HLW := Lib.hid (fun (h : tokL raw ≠ []) => (selD_short h : (encT f ((99, 0) :: tokL raw)).1.length ≤ 1000))
  generalize tokL raw = l at *
  have hl9 : l.length ≤ maxLen := by unfold maxLen; omega
  have C1 := Lib.hid (fun (W : World) (hW : Both W) (hX : Prs W W.heap.size (.slice A l.length pc) l) => (by exact Selected_yes V S C N T D R K G 0 y A pc f l W hW hfit y1 (by omega) hX hl9 HL.out : Calls Tryd.prog 22 #[.agg #[.int .i64 (V : Int), .int .i64 (S : Int), .int .i64 (C : Int), .int .i64 (N : Int), .int .i64 (T : Int), .int .i64 (D : Int), .int .i64 (R : Int), .int .i64 (K : Int), .int .i64 (G : Int), .int .u64 0], .int .i64 (y : Int), .agg #[.bool f, .slice A l.length pc]] W fun o w' => o = .returned (.bool (selD y G f l)) ∧ Below W.heap.size W w'))
  clear hH
  have z0 : w5.cell? ⟨gC, 0, none⟩ = some (.int .i64 (V : Int)) := q.cell 0
  have z1 : w5.cell? ⟨gC, 1, none⟩ = some (.int .i64 (S : Int)) := q.cell 1
  have z2 : w5.cell? ⟨gC, 2, none⟩ = some (.int .i64 (C : Int)) := q.cell 2
  have z3 : w5.cell? ⟨gC, 3, none⟩ = some (.int .i64 (N : Int)) := q.cell 3
  have z4 : w5.cell? ⟨gC, 4, none⟩ = some (.int .i64 (T : Int)) := q.cell 4
  have z5 : w5.cell? ⟨gC, 5, none⟩ = some (.int .i64 (D : Int)) := q.cell 5
  have z6 : w5.cell? ⟨gC, 6, none⟩ = some (.int .i64 (R : Int)) := q.cell 6
  have z7 : w5.cell? ⟨gC, 7, none⟩ = some (.int .i64 (K : Int)) := q.cell 7
  have z8 : w5.cell? ⟨gC, 8, none⟩ = some (.int .i64 (G : Int)) := q.cell 8
  have z9 : w5.cell? ⟨gC, 9, none⟩ = some (.int .u64 0) := q.cell 9
  by_cases hyH : y < H
  · have g5 : ((y : Int) < (H : Int)) = True := eq_true (by omega)
    have g6 : (y < H) = True := eq_true hyH
    obtain ⟨t0, t1⟩ := qt.two
    have hb1 : selD y G f l = true := selD_all g1 (by rw [HH.out]; exact hyH) H0.out
    have cS := C1.out _ hT5 hx
    rw [hb1] at cS
    go_wp2_with fail
    with_reducible refine cS.mono ?_
    rintro o w6 ⟨rfl, bN⟩
    replace q := q.on bN
    replace qt := qt.on bN
    replace hx := hx.on bN
    have hT6 := hT5.on bN
    have B6 := B5.trans (bN.mono B5.size)
    clear bN B5 hT5 z0 z1 z2 z3 z4 z5 z6 z7 z8 z9 t0 t1 cS hb1
    have z0 : w6.cell? ⟨gC, 0, none⟩ = some (.int .i64 (V : Int)) := q.cell 0
    have z1 : w6.cell? ⟨gC, 1, none⟩ = some (.int .i64 (S : Int)) := q.cell 1
    have z2 : w6.cell? ⟨gC, 2, none⟩ = some (.int .i64 (C : Int)) := q.cell 2
    have z3 : w6.cell? ⟨gC, 3, none⟩ = some (.int .i64 (N : Int)) := q.cell 3
    have z4 : w6.cell? ⟨gC, 4, none⟩ = some (.int .i64 (T : Int)) := q.cell 4
    have z5 : w6.cell? ⟨gC, 5, none⟩ = some (.int .i64 (D : Int)) := q.cell 5
    have z6 : w6.cell? ⟨gC, 6, none⟩ = some (.int .i64 (R : Int)) := q.cell 6
    have z7 : w6.cell? ⟨gC, 7, none⟩ = some (.int .i64 (K : Int)) := q.cell 7
    have z8 : w6.cell? ⟨gC, 8, none⟩ = some (.int .i64 (G : Int)) := q.cell 8
    have z9 : w6.cell? ⟨gC, 9, none⟩ = some (.int .u64 0) := q.cell 9
    have qD := RowAt.new w6 24 #[.int .i64 (V : Int), .int .i64 (S : Int), .int .i64 (C : Int), .int .i64 (N : Int), .int .i64 (T : Int), .int .i64 (D : Int), .int .i64 (R : Int), .int .i64 (K : Int), .int .i64 (G : Int), .int .u64 0]
    have fD := qD.frozen 9
    have hgC := q.lt
    have hgT := qt.lt
    go_upto_region 9 with (fail)
    have qD1 := RowAt.new w6 24 #[.int .i64 (V : Int), .int .i64 (S : Int), .int .i64 (C : Int), .int .i64 (N : Int), .int .i64 (T : Int), .int .i64 (D : Int), .int .i64 (R : Int), .int .i64 (K : Int), .int .i64 (G : Int), .int .u64 77]
    have bD := (Below.refl w6.heap.size w6).alloc (Nat.le_refl _) (.cells #[.int .i64 (V : Int), .int .i64 (S : Int), .int .i64 (C : Int), .int .i64 (N : Int), .int .i64 (T : Int), .int .i64 (D : Int), .int .i64 (R : Int), .int .i64 (K : Int), .int .i64 (G : Int), .int .u64 77] 24)
    generalize w6.alloc (.cells #[.int .i64 (V : Int), .int .i64 (S : Int), .int .i64 (C : Int), .int .i64 (N : Int), .int .i64 (T : Int), .int .i64 (D : Int), .int .i64 (R : Int), .int .i64 (K : Int), .int .i64 (G : Int), .int .u64 77] 24) = w7 at *
    clear z0 z1 z2 z3 z4 z5 z6 z7 z8 z9 qD fD
    have z1 : w7.cell? ⟨gC, 1, none⟩ = some (.int .i64 (S : Int)) := (q.on bD).cell 1
    have fD := qD1.frozen 1
    have zD : w7.cell? ⟨w6.heap.size, 1, none⟩ = some (.int .i64 (S : Int)) := qD1.cell 1
    have m1 : (S : Int).tmod 32 = ((S % 32 : Nat) : Int) := by rw [Int.tmod_eq_emod_of_nonneg (by omega)]; rfl
    obtain ⟨M, hM⟩ : ∃ M, S % 32 = M := ⟨_, rfl⟩
    rw [hM] at m1
    have m2 : IntKind.i64.wrap (M : Int) = (M : Int) := wrap_small (by omega) (by omega)
    obtain ⟨S2, hS2⟩ : ∃ S2, 1 + M = S2 := ⟨_, rfl⟩
    have m3 : (1 : Int) + (M : Int) = (S2 : Int) := by omega
    have m4 : IntKind.i64.wrap (S2 : Int) = (S2 : Int) := wrap_small (by omega) (by omega)
    have hfit2 : FitD V S2 C N T D R K G := ⟨hfit.v1, hfit.v2, by omega, by omega, hfit.c1, hfit.c2, hfit.n1, hfit.n2, hfit.t1, hfit.t2, hfit.d2, hfit.r1, hfit.r2, hfit.k2, hfit.g1, hfit.g2⟩
    clear hM hS2
    obtain ⟨by_, hby⟩ : ∃ by_, y / G = by_ := ⟨_, rfl⟩
    have d1 : (y : Int).tdiv (G : Int) = (by_ : Int) := by rw [← hby]; exact tdiv_nat y G
    have d2 : ((G : Int) = 0) = False := eq_false (by omega)
    have d3 : (G = 0) = False := eq_false (by omega)
    have hby2 : by_ ≤ y := by rw [← hby]; exact Nat.div_le_self _ _
    have d4 : IntKind.i64.wrap (by_ : Int) = (by_ : Int) := wrap_small (by omega) (by omega)
    have HBY := Lib.hid hby
    clear hby
    have qD2 : RowAt (w7.setCell ⟨w6.heap.size, 1, none⟩ (.int .i64 (S2 : Int))) w6.heap.size 24 [.int .i64 (V : Int), .int .i64 (S2 : Int), .int .i64 (C : Int), .int .i64 (N : Int), .int .i64 (T : Int), .int .i64 (D : Int), .int .i64 (R : Int), .int .i64 (K : Int), .int .i64 (G : Int), .int .u64 77] := qD1.set 1 (.int .i64 (S2 : Int))
    have bD2 := bD.setCell (p := ⟨w6.heap.size, 1, none⟩) (Nat.le_refl _) (.int .i64 (S2 : Int))
    have z8 : (w7.setCell ⟨w6.heap.size, 1, none⟩ (.int .i64 (S2 : Int))).cell? ⟨gC, 8, none⟩ = some (.int .i64 (G : Int)) := (q.on bD2).cell 8
    have t0 : (w7.setCell ⟨w6.heap.size, 1, none⟩ (.int .i64 (S2 : Int))).cell? ⟨gT, 0, none⟩ = some (.bool f) := (qt.on bD2).cell 0
    have t1 : (w7.setCell ⟨w6.heap.size, 1, none⟩ (.int .i64 (S2 : Int))).cell? ⟨gT, 1, none⟩ = some (.slice A l.length pc) := (qt.on bD2).cell 1
    go_upto_region 12 with (fail)
    clear z1 zD fD m1 m2 m3 m4 qD1 bD z8 t0 t1 d1 d2 d3 d4
    have hsz8 : (w7.setCell ⟨w6.heap.size, 1, none⟩ (.int .i64 (S2 : Int))).heap.size = w7.heap.size := by simp [World.setCell]
    generalize w7.setCell ⟨w6.heap.size, 1, none⟩ (.int .i64 (S2 : Int)) = w8 at *
    rw [← hsz8]
    clear hsz8
    obtain ⟨gD, hgD⟩ : ∃ gD, gD = w6.heap.size := ⟨_, rfl⟩
    rw [← hgD] at qD2 ⊢
    replace q := q.on bD2
    replace qt := qt.on bD2
    replace hx := hx.on bD2
    have hT8 := hT6.on bD2
    have B8 := B6.trans (bD2.mono B6.size)
    have gCD : gC ≠ gD := by omega
    have gTD : gT ≠ gD := by omega
    clear bD2 hT6 B6 hgD
    have qW := RowAt.new w8 28 #[.bool f, .slice A l.length pc]
    have bx := (Below.refl w8.heap.size w8).alloc (Nat.le_refl _) (.cells #[.bool f, .slice A l.length pc] 28)
    have qtA := qt.on bx
    have hx7 := hx.on bx
    have hlt8 := bx.size
    have b8 := bx
    clear bx
    generalize w8.alloc (.cells #[.bool f, .slice A l.length pc] 28) = wA at *
    obtain ⟨gW, hgW⟩ : ∃ gW, gW = w8.heap.size := ⟨_, rfl⟩
    rw [← hgW] at qW ⊢
    have HGW := Lib.hid hgW
    clear hgW
    obtain ⟨i0, hi, hz0, hz1, hz2⟩ := info_parts info_pair
    refine wp_region_E (fun W => W.cell? ⟨gT, 1, none⟩ = some (.slice A l.length pc)) 7 (by kernel_rfl) ?_
    have hSd : wA.drew.cell? ⟨gT, 1, none⟩ = some (.slice A l.length pc) := qtA.two.2
    refine E_take (i := 0) (.agg #[.int .u64 99, .int .u64 0]) (by simp only [List.getElem?_toArray, List.getElem?_cons_zero]; rfl) (by kernel_rfl) (by kernel_rfl) (by kernel_rfl) (by kernel_rfl) (by kernel_rfl) (by exact fun _ _ _ h => h) (by rfl) (by intro W hW; go_simp) hSd ?_
    (try simp only [Act.put]); (try simp only [List.setIfInBounds_toArray]); (try simp only [List.set_cons_succ, List.set_cons_zero])
    refine E_take (i := 3) (.pointer (some ⟨gT, 1, none⟩)) (by simp only [List.getElem?_toArray, List.getElem?_cons_succ, List.getElem?_cons_zero]; rfl) (by kernel_rfl) (by kernel_rfl) (by kernel_rfl) (by kernel_rfl) (by kernel_rfl) (by exact fun _ _ _ h => h) (by rfl) (by intro W hW; go_simp) hSd ?_
    (try simp only [Act.put]); (try simp only [List.setIfInBounds_toArray]); (try simp only [List.set_cons_succ, List.set_cons_zero])
    refine E_take (i := 4) (.slice A l.length pc) (by simp only [List.getElem?_toArray, List.getElem?_cons_succ, List.getElem?_cons_zero]; rfl) (by kernel_rfl) (by kernel_rfl) (by kernel_rfl) (by kernel_rfl) (by kernel_rfl) (by exact fun _ _ _ h => h) (by rfl) (by intro W hW; go_simp) hSd ?_
    (try simp only [Act.put]); (try simp only [List.setIfInBounds_toArray]); (try simp only [List.set_cons_succ, List.set_cons_zero])
    refine E_one (i := 1) (by kernel_rfl) (by simp only [List.getElem?_toArray, List.getElem?_cons_succ, List.getElem?_cons_zero]; rfl) (fun K hK => ?_)
    go_simp
    have hB0 : Below wA.heap.size wA (wA.drew.alloc (.cells #[.int .u64 99, .int .u64 0] 53)) := ((Below.refl _ _).drew).alloc (Nat.le_refl _) _
    refine hK _ _ (fun _ => (qtA.on hB0).two.2) ?_
    clear hK K
    (try simp only [Act.put]); (try simp only [List.setIfInBounds_toArray]); (try simp only [List.set_cons_succ, List.set_cons_zero])
    refine E_one (i := 2) (by kernel_rfl) (by simp only [List.getElem?_toArray, List.getElem?_cons_succ, List.getElem?_cons_zero]; rfl) (fun K hK => ?_)
    refine step_append_any rfl _ _ 26 rfl wA.heap.size 53 i0 (.agg #[.int .u64 0, .int .u64 0]) 2 16 Tryd.underlying26 hi hz0 hz1 hz2 rfl (by decide) (.slice none 0 0) 0 [] rfl (World.ownsRow_nil _ _ _ _) _ 1 1 [.int .u64 99, .int .u64 0] rfl rfl (fun _ => ⟨_, rfl, news_pair (RowAt.new wA.drew 53 #[.int .u64 99, .int .u64 0])⟩) (by intro u hu0; simp at hu0; rcases hu0 with rfl | rfl <;> rfl) (by unfold maxLen; omega) (by omega) hB0.size ?_
    intro S1 cap1 wB1 own1 grow1
    simp only [Nat.zero_add, List.nil_append] at own1 ⊢
    have hB1 : Below wA.heap.size wA wB1 := Below.grown hB0 grow1 hB0.size (fun k h => by cases h)
    refine hK _ _ (fun _ => (qtA.on hB1).two.2) ?_
    clear hK K
    (try simp only [Act.put]); (try simp only [List.setIfInBounds_toArray]); (try simp only [List.set_cons_succ, List.set_cons_zero])
    refine E_one (i := 5) (by kernel_rfl) (by simp only [List.getElem?_toArray, List.getElem?_cons_succ, List.getElem?_cons_zero]; rfl) (fun K hK => ?_)
    refine step_append_any rfl _ _ 26 rfl wA.heap.size 53 i0 (.agg #[.int .u64 0, .int .u64 0]) 2 16 Tryd.underlying26 hi hz0 hz1 hz2 rfl (by decide) (.slice S1 1 cap1) 1 _ rfl own1 A l.length pc (l.flatMap pairCells) rfl (by rw [flat_pairs_length]) (news_all10 hx7 hB1) (pairs_one _) (by unfold maxLen; omega) (by omega) hB1.size ?_
    intro S3 cap3 wB3 own3 grow3
    have hB3 : Below wA.heap.size wA wB3 := Below.grown hB1 grow3 hB1.size (fun k h => (own1.lt k h).1)
    refine hK _ _ (fun _ => (qtA.on hB3).two.2) ?_
    clear hK K
    (try simp only [Act.put]); (try simp only [List.setIfInBounds_toArray]); (try simp only [List.set_cons_succ, List.set_cons_zero])
    have g3 := (qW.on hB3).frozen 1
    have y3 := (qW.on hB3).two.2
    refine E_one (i := 6) (by kernel_rfl) (by simp only [List.getElem?_toArray, List.getElem?_cons_succ, List.getElem?_cons_zero]; rfl) (fun K hK => ?_)
    go_simp
    refine hK _ _ (fun _ => (qtA.on hB3).two.2) ?_
    clear hK K
    (try simp only [Act.put]); (try simp only [List.setIfInBounds_toArray]); (try simp only [List.set_cons_succ, List.set_cons_zero])
    refine E_one (i := 7) (by kernel_rfl) (by simp only [List.getElem?_toArray, List.getElem?_cons_succ, List.getElem?_cons_zero]; rfl) (fun K hK => ?_)
    go_simp
    refine hK _ _ (fun h => absurd rfl h) ?_
    clear hK K
    refine E_done (by kernel_rfl) ?_ _
    have RR : wB3.ownsRow wA.heap.size 53 2 (.slice S3 (((99, 0) : Pr) :: l).length cap3) (((99, 0) : Pr) :: l).length ((((99, 0) : Pr) :: l).flatMap pairCells) := by
      rw [List.flatMap_cons, List.length_cons, Nat.add_comm l.length 1]; exact own3
    obtain ⟨lw, hlw⟩ : ∃ lw, ((99, 0) : Pr) :: l = lw := ⟨_, rfl⟩
    have hlw1 : 1 + l.length = lw.length := by rw [← hlw, List.length_cons]; omega
    rw [hlw] at RR HW HLW
    rw [hlw1]
    have hne : (Value.slice S3 lw.length cap3).ownBlock ≠ some gW := fun h => by have := (RR.lt gW h).1; have := qW.lt; omega
    have R2 := ownsRow_setCell_other RR (a := ⟨gW, 1, none⟩) hne (.slice S3 lw.length cap3)
    have hX : Prs (wB3.setCell ⟨gW, 1, none⟩ (.slice S3 lw.length cap3)) _ (.slice S3 lw.length cap3) lw := Prs.own R2
    have qWW := (qW.on hB3).set 1 (.slice S3 lw.length cap3)
    have bF := (b8.trans (hB3.mono b8.size)).setCell (p := ⟨gW, 1, none⟩) (by show w8.heap.size ≤ gW; rw [HGW.out]; exact Nat.le_refl _) (.slice S3 lw.length cap3)
    clear own1 own3 grow1 grow3 RR R2 hne hB0 hB1 hB3 b8 qtA hx7 qW y3 g3 hi hz0 hz1 hz2 hlw1 hSd
    generalize wB3.setCell ⟨gW, 1, none⟩ (.slice S3 lw.length cap3) = w10 at *
    replace q := q.on bF
    replace qt := qt.on bF
    replace qD2 := qD2.on bF
    replace hx := hx.on bF
    have hT10 := hT8.on bF
    have B10 := B8.trans (bF.mono B8.size)
    clear bF hT8 B8
    have c0_ := q.later7 0 _ rfl
    have d0_ := qD2.later7 0 _ rfl
    have c1_ := q.later7 1 _ rfl
    have d1_ := qD2.later7 1 _ rfl
    have c2_ := q.later7 2 _ rfl
    have d2_ := qD2.later7 2 _ rfl
    have c3_ := q.later7 3 _ rfl
    have d3_ := qD2.later7 3 _ rfl
    have c4_ := q.later7 4 _ rfl
    have d4_ := qD2.later7 4 _ rfl
    have c5_ := q.later7 5 _ rfl
    have d5_ := qD2.later7 5 _ rfl
    have c6_ := q.later7 6 _ rfl
    have d6_ := qD2.later7 6 _ rfl
    have c7_ := q.later7 7 _ rfl
    have d7_ := qD2.later7 7 _ rfl
    have c8_ := q.later7 8 _ rfl
    have d8_ := qD2.later7 8 _ rfl
    have c9_ := q.later7 9 _ rfl
    have d9_ := qD2.later7 9 _ rfl
    have t0 := qt.later7 0 _ rfl
    have t1 := qt.later7 1 _ rfl
    have u0 := qWW.later7 0 _ rfl
    have u1 := qWW.later7 1 _ rfl
    obtain ⟨mx, hmx⟩ : ∃ mx, max by_ 1 = mx := ⟨_, rfl⟩
    have k1 : max (by_ : Int) 1 = (mx : Int) := by omega
    have hmx2 : mx ≤ 200 := by omega
    obtain ⟨mg, hmg⟩ : ∃ mg, mx * G = mg := ⟨_, rfl⟩
    have k2 : (mx : Int) * (G : Int) = (mg : Int) := by rw [← hmg]; exact (Int.natCast_mul _ _).symm
    have hmg2 : mg ≤ 200 * 16 := by rw [← hmg]; exact Nat.mul_le_mul hmx2 g2
    have hmg1 : 1 ≤ mg := by rw [← hmg]; exact Nat.mul_pos (by omega) (by omega)
    have k3 : IntKind.i64.wrap (mg : Int) = (mg : Int) := wrap_small (by omega) (by omega)
    have k4 : IntKind.i64.wrap (-(y : Int)) = -(y : Int) := IntWalk.i64_in _ (by omega)
    have hby3 : selD mg G f l = selD y G f l := by rw [← hmg, ← hmx, ← HBY.out]; exact selD_by g1
    obtain ⟨bb, hbb⟩ : ∃ bb, selD y G f l = bb := ⟨_, rfl⟩
    have HS1 : ∀ p : Later w10, Calls Tryd.prog 22 #[.agg #[.int .i64 (V : Int), .int .i64 (S : Int), .int .i64 (C : Int), .int .i64 (N : Int), .int .i64 (T : Int), .int .i64 (D : Int), .int .i64 (R : Int), .int .i64 (K : Int), .int .i64 (G : Int), .int .u64 0], .int .i64 (y : Int), .agg #[.bool f, .slice A l.length pc]] p.W fun o w_ => o = .returned (.bool bb) ∧ ∃ p : Later w10, w_ = p.W := fun p => later_of (by rw [← hbb]; exact C1.out _ (hT10.on p.h) (hx.on p.h))
    have HS2 : ∀ p : Later w10, Calls Tryd.prog 22 #[.agg #[.int .i64 (V : Int), .int .i64 (S2 : Int), .int .i64 (C : Int), .int .i64 (N : Int), .int .i64 (T : Int), .int .i64 (D : Int), .int .i64 (R : Int), .int .i64 (K : Int), .int .i64 (G : Int), .int .u64 77], .int .i64 (mg : Int), .agg #[.bool f, .slice A l.length pc]] p.W fun o w_ => o = .returned (.bool bb) ∧ ∃ p : Later w10, w_ = p.W := fun p => later_of (by rw [← hbb, ← hby3]; exact Selected_yes V S2 C N T D R K G 77 mg A pc f l _ (hT10.on p.h) hfit2 hmg1 (by omega) (hx.on p.h) hl9 HL.out)
    have HS4 : ∀ p : Later w10, Calls Tryd.prog 22 #[.agg #[.int .i64 (V : Int), .int .i64 (S : Int), .int .i64 (C : Int), .int .i64 (N : Int), .int .i64 (T : Int), .int .i64 (D : Int), .int .i64 (R : Int), .int .i64 (K : Int), .int .i64 (G : Int), .int .u64 0], .int .i64 (-(y : Int)), .agg #[.bool f, .slice A l.length pc]] p.W fun o w_ => o = .returned (.bool false) ∧ ∃ p : Later w10, w_ = p.W := fun p => later_of (Selected_no _ _ _ _ _ _ _ _ _ _ _ _ _ _ rfl _ (hT10.on p.h) (Or.inr (by omega)))
    have HS5 : ∀ p : Later w10, Calls Tryd.prog 22 #[.agg #[.int .i64 0, .int .i64 0, .int .i64 0, .int .i64 0, .int .i64 0, .int .i64 0, .int .i64 0, .int .i64 0, .int .i64 0, .int .u64 0], .int .i64 (y : Int), .agg #[.bool f, .slice A l.length pc]] p.W fun o w_ => o = .returned (.bool false) ∧ ∃ p : Later w10, w_ = p.W := fun p => later_of (Selected_no _ _ _ _ _ _ _ _ _ _ _ _ _ _ rfl _ (hT10.on p.h) (Or.inl (by decide)))
    have HS3 : ∀ (hl : l ≠ []) (p : Later w10), Calls Tryd.prog 22 #[.agg #[.int .i64 (V : Int), .int .i64 (S : Int), .int .i64 (C : Int), .int .i64 (N : Int), .int .i64 (T : Int), .int .i64 (D : Int), .int .i64 (R : Int), .int .i64 (K : Int), .int .i64 (G : Int), .int .u64 0], .int .i64 (y : Int), .agg #[.bool f, .slice S3 lw.length cap3]] p.W fun o w_ => o = .returned (.bool false) ∧ ∃ p : Later w10, w_ = p.W := fun hl p => later_of (by rw [← HW.out hl]; exact Selected_yes V S C N T D R K G 0 y S3 cap3 f lw _ (hT10.on p.h) hfit y1 (by omega) (hX.on p.h) (by rw [← hlw, List.length_cons]; unfold maxLen; omega) (HLW.out hl))
    clear hbb hby3 hmg hmx HBY hX hx C1 HL HW HLW H0 HH
    go_upto_region 13 with (fail)
    by_cases hl : l = []
    · have v0 : l.length = 0 := by rw [hl]; rfl
      rw [v0] at HS1 HS2 HS4 HS5 t1 ⊢
      clear HS3 hlw
      refine wp_region_later (by kernel_rfl) (by kernel_rfl) ?_
      repeat (go_big_quiet_step (first | (go_at_call 22; (first | with_reducible exact HS1 _ | with_reducible exact HS2 _ | with_reducible exact HS4 _ | with_reducible exact HS5 _))))
      refine wpQuiet_nil ?_
      intro _ hw'
      obtain ⟨pq, rfl⟩ := hw'
      go_wp2_with fail
      go_ret
      exact ⟨by simp, B10.trans (pq.h.mono B10.size)⟩
    · have h0 : l.length ≠ 0 := fun h => hl (List.eq_nil_of_length_eq_zero h)
      have v1 : ((l.length : Int) = 0) = False := eq_false (by omega)
      have v2 : (l.length = 0) = False := eq_false h0
      have v3 : decide ((l.length : Int) = 0) = false := decide_eq_false (by omega)
      have v4 : ((l.length : Int) == 0) = false := by rw [beq_eq_false_iff_ne]; omega
      have v5 : (l.length == 0) = false := by rw [beq_eq_false_iff_ne]; exact h0
      have v6 : decide (l.length = 0) = false := decide_eq_false h0
      have HS6 := HS3 hl
      clear HS3 hlw
      refine wp_region_later (by kernel_rfl) (by kernel_rfl) ?_
      repeat (go_big_quiet_step (first | (go_at_call 22; (first | with_reducible exact HS1 _ | with_reducible exact HS2 _ | with_reducible exact HS6 _ | with_reducible exact HS4 _ | with_reducible exact HS5 _))))
      refine wpQuiet_nil ?_
      intro _ hw'
      obtain ⟨pq, rfl⟩ := hw'
      go_wp2_with fail
      go_ret
      exact ⟨by simp, B10.trans (pq.h.mono B10.size)⟩
  · have g5 : ((y : Int) < (H : Int)) = False := eq_false (by omega)
    have g6 : (y < H) = False := eq_false hyH
    clear z0 z1 z2 z3 z4 z5 z6 z7 z8 z9
    have z0 : w5.cell? ⟨gC, 0, none⟩ = some (.int .i64 (V : Int)) := q.cell 0
    have z1 : w5.cell? ⟨gC, 1, none⟩ = some (.int .i64 (S : Int)) := q.cell 1
    have z2 : w5.cell? ⟨gC, 2, none⟩ = some (.int .i64 (C : Int)) := q.cell 2
    have z3 : w5.cell? ⟨gC, 3, none⟩ = some (.int .i64 (N : Int)) := q.cell 3
    have z4 : w5.cell? ⟨gC, 4, none⟩ = some (.int .i64 (T : Int)) := q.cell 4
    have z5 : w5.cell? ⟨gC, 5, none⟩ = some (.int .i64 (D : Int)) := q.cell 5
    have z6 : w5.cell? ⟨gC, 6, none⟩ = some (.int .i64 (R : Int)) := q.cell 6
    have z7 : w5.cell? ⟨gC, 7, none⟩ = some (.int .i64 (K : Int)) := q.cell 7
    have z8 : w5.cell? ⟨gC, 8, none⟩ = some (.int .i64 (G : Int)) := q.cell 8
    have z9 : w5.cell? ⟨gC, 9, none⟩ = some (.int .u64 0) := q.cell 9
    have qD := RowAt.new w5 24 #[.int .i64 (V : Int), .int .i64 (S : Int), .int .i64 (C : Int), .int .i64 (N : Int), .int .i64 (T : Int), .int .i64 (D : Int), .int .i64 (R : Int), .int .i64 (K : Int), .int .i64 (G : Int), .int .u64 0]
    have fD := qD.frozen 9
    have hgC := q.lt
    have hgT := qt.lt
    go_upto_region 9 with (fail)
    have qD1 := RowAt.new w5 24 #[.int .i64 (V : Int), .int .i64 (S : Int), .int .i64 (C : Int), .int .i64 (N : Int), .int .i64 (T : Int), .int .i64 (D : Int), .int .i64 (R : Int), .int .i64 (K : Int), .int .i64 (G : Int), .int .u64 77]
    have bD := (Below.refl w5.heap.size w5).alloc (Nat.le_refl _) (.cells #[.int .i64 (V : Int), .int .i64 (S : Int), .int .i64 (C : Int), .int .i64 (N : Int), .int .i64 (T : Int), .int .i64 (D : Int), .int .i64 (R : Int), .int .i64 (K : Int), .int .i64 (G : Int), .int .u64 77] 24)
    generalize w5.alloc (.cells #[.int .i64 (V : Int), .int .i64 (S : Int), .int .i64 (C : Int), .int .i64 (N : Int), .int .i64 (T : Int), .int .i64 (D : Int), .int .i64 (R : Int), .int .i64 (K : Int), .int .i64 (G : Int), .int .u64 77] 24) = w7 at *
    clear z0 z1 z2 z3 z4 z5 z6 z7 z8 z9 qD fD
    have z1 : w7.cell? ⟨gC, 1, none⟩ = some (.int .i64 (S : Int)) := (q.on bD).cell 1
    have fD := qD1.frozen 1
    have zD : w7.cell? ⟨w5.heap.size, 1, none⟩ = some (.int .i64 (S : Int)) := qD1.cell 1
    have m1 : (S : Int).tmod 32 = ((S % 32 : Nat) : Int) := by rw [Int.tmod_eq_emod_of_nonneg (by omega)]; rfl
    obtain ⟨M, hM⟩ : ∃ M, S % 32 = M := ⟨_, rfl⟩
    rw [hM] at m1
    have m2 : IntKind.i64.wrap (M : Int) = (M : Int) := wrap_small (by omega) (by omega)
    obtain ⟨S2, hS2⟩ : ∃ S2, 1 + M = S2 := ⟨_, rfl⟩
    have m3 : (1 : Int) + (M : Int) = (S2 : Int) := by omega
    have m4 : IntKind.i64.wrap (S2 : Int) = (S2 : Int) := wrap_small (by omega) (by omega)
    have hfit2 : FitD V S2 C N T D R K G := ⟨hfit.v1, hfit.v2, by omega, by omega, hfit.c1, hfit.c2, hfit.n1, hfit.n2, hfit.t1, hfit.t2, hfit.d2, hfit.r1, hfit.r2, hfit.k2, hfit.g1, hfit.g2⟩
    clear hM hS2
    obtain ⟨by_, hby⟩ : ∃ by_, y / G = by_ := ⟨_, rfl⟩
    have d1 : (y : Int).tdiv (G : Int) = (by_ : Int) := by rw [← hby]; exact tdiv_nat y G
    have d2 : ((G : Int) = 0) = False := eq_false (by omega)
    have d3 : (G = 0) = False := eq_false (by omega)
    have hby2 : by_ ≤ y := by rw [← hby]; exact Nat.div_le_self _ _
    have d4 : IntKind.i64.wrap (by_ : Int) = (by_ : Int) := wrap_small (by omega) (by omega)
    have HBY := Lib.hid hby
    clear hby
    have qD2 : RowAt (w7.setCell ⟨w5.heap.size, 1, none⟩ (.int .i64 (S2 : Int))) w5.heap.size 24 [.int .i64 (V : Int), .int .i64 (S2 : Int), .int .i64 (C : Int), .int .i64 (N : Int), .int .i64 (T : Int), .int .i64 (D : Int), .int .i64 (R : Int), .int .i64 (K : Int), .int .i64 (G : Int), .int .u64 77] := qD1.set 1 (.int .i64 (S2 : Int))
    have bD2 := bD.setCell (p := ⟨w5.heap.size, 1, none⟩) (Nat.le_refl _) (.int .i64 (S2 : Int))
    have z8 : (w7.setCell ⟨w5.heap.size, 1, none⟩ (.int .i64 (S2 : Int))).cell? ⟨gC, 8, none⟩ = some (.int .i64 (G : Int)) := (q.on bD2).cell 8
    have t0 : (w7.setCell ⟨w5.heap.size, 1, none⟩ (.int .i64 (S2 : Int))).cell? ⟨gT, 0, none⟩ = some (.bool f) := (qt.on bD2).cell 0
    have t1 : (w7.setCell ⟨w5.heap.size, 1, none⟩ (.int .i64 (S2 : Int))).cell? ⟨gT, 1, none⟩ = some (.slice A l.length pc) := (qt.on bD2).cell 1
    go_upto_region 12 with (fail)
    clear z1 zD fD m1 m2 m3 m4 qD1 bD z8 t0 t1 d1 d2 d3 d4
    have hsz8 : (w7.setCell ⟨w5.heap.size, 1, none⟩ (.int .i64 (S2 : Int))).heap.size = w7.heap.size := by simp [World.setCell]
    generalize w7.setCell ⟨w5.heap.size, 1, none⟩ (.int .i64 (S2 : Int)) = w8 at *
    rw [← hsz8]
    clear hsz8
    obtain ⟨gD, hgD⟩ : ∃ gD, gD = w5.heap.size := ⟨_, rfl⟩
    rw [← hgD] at qD2 ⊢
    replace q := q.on bD2
    replace qt := qt.on bD2
    replace hx := hx.on bD2
    have hT8 := hT5.on bD2
    have B8 := B5.trans (bD2.mono B5.size)
    have gCD : gC ≠ gD := by omega
    have gTD : gT ≠ gD := by omega
    clear bD2 hT5 B5 hgD
    have qW := RowAt.new w8 28 #[.bool f, .slice A l.length pc]
    have bx := (Below.refl w8.heap.size w8).alloc (Nat.le_refl _) (.cells #[.bool f, .slice A l.length pc] 28)
    have qtA := qt.on bx
    have hx7 := hx.on bx
    have hlt8 := bx.size
    have b8 := bx
    clear bx
    generalize w8.alloc (.cells #[.bool f, .slice A l.length pc] 28) = wA at *
    obtain ⟨gW, hgW⟩ : ∃ gW, gW = w8.heap.size := ⟨_, rfl⟩
    rw [← hgW] at qW ⊢
    have HGW := Lib.hid hgW
    clear hgW
    obtain ⟨i0, hi, hz0, hz1, hz2⟩ := info_parts info_pair
    refine wp_region_E (fun W => W.cell? ⟨gT, 1, none⟩ = some (.slice A l.length pc)) 7 (by kernel_rfl) ?_
    have hSd : wA.drew.cell? ⟨gT, 1, none⟩ = some (.slice A l.length pc) := qtA.two.2
    refine E_take (i := 0) (.agg #[.int .u64 99, .int .u64 0]) (by simp only [List.getElem?_toArray, List.getElem?_cons_zero]; rfl) (by kernel_rfl) (by kernel_rfl) (by kernel_rfl) (by kernel_rfl) (by kernel_rfl) (by exact fun _ _ _ h => h) (by rfl) (by intro W hW; go_simp) hSd ?_
    (try simp only [Act.put]); (try simp only [List.setIfInBounds_toArray]); (try simp only [List.set_cons_succ, List.set_cons_zero])
    refine E_take (i := 3) (.pointer (some ⟨gT, 1, none⟩)) (by simp only [List.getElem?_toArray, List.getElem?_cons_succ, List.getElem?_cons_zero]; rfl) (by kernel_rfl) (by kernel_rfl) (by kernel_rfl) (by kernel_rfl) (by kernel_rfl) (by exact fun _ _ _ h => h) (by rfl) (by intro W hW; go_simp) hSd ?_
    (try simp only [Act.put]); (try simp only [List.setIfInBounds_toArray]); (try simp only [List.set_cons_succ, List.set_cons_zero])
    refine E_take (i := 4) (.slice A l.length pc) (by simp only [List.getElem?_toArray, List.getElem?_cons_succ, List.getElem?_cons_zero]; rfl) (by kernel_rfl) (by kernel_rfl) (by kernel_rfl) (by kernel_rfl) (by kernel_rfl) (by exact fun _ _ _ h => h) (by rfl) (by intro W hW; go_simp) hSd ?_
    (try simp only [Act.put]); (try simp only [List.setIfInBounds_toArray]); (try simp only [List.set_cons_succ, List.set_cons_zero])
    refine E_one (i := 1) (by kernel_rfl) (by simp only [List.getElem?_toArray, List.getElem?_cons_succ, List.getElem?_cons_zero]; rfl) (fun K hK => ?_)
    go_simp
    have hB0 : Below wA.heap.size wA (wA.drew.alloc (.cells #[.int .u64 99, .int .u64 0] 53)) := ((Below.refl _ _).drew).alloc (Nat.le_refl _) _
    refine hK _ _ (fun _ => (qtA.on hB0).two.2) ?_
    clear hK K
    (try simp only [Act.put]); (try simp only [List.setIfInBounds_toArray]); (try simp only [List.set_cons_succ, List.set_cons_zero])
    refine E_one (i := 2) (by kernel_rfl) (by simp only [List.getElem?_toArray, List.getElem?_cons_succ, List.getElem?_cons_zero]; rfl) (fun K hK => ?_)
    refine step_append_any rfl _ _ 26 rfl wA.heap.size 53 i0 (.agg #[.int .u64 0, .int .u64 0]) 2 16 Tryd.underlying26 hi hz0 hz1 hz2 rfl (by decide) (.slice none 0 0) 0 [] rfl (World.ownsRow_nil _ _ _ _) _ 1 1 [.int .u64 99, .int .u64 0] rfl rfl (fun _ => ⟨_, rfl, news_pair (RowAt.new wA.drew 53 #[.int .u64 99, .int .u64 0])⟩) (by intro u hu0; simp at hu0; rcases hu0 with rfl | rfl <;> rfl) (by unfold maxLen; omega) (by omega) hB0.size ?_
    intro S1 cap1 wB1 own1 grow1
    simp only [Nat.zero_add, List.nil_append] at own1 ⊢
    have hB1 : Below wA.heap.size wA wB1 := Below.grown hB0 grow1 hB0.size (fun k h => by cases h)
    refine hK _ _ (fun _ => (qtA.on hB1).two.2) ?_
    clear hK K
    (try simp only [Act.put]); (try simp only [List.setIfInBounds_toArray]); (try simp only [List.set_cons_succ, List.set_cons_zero])
    refine E_one (i := 5) (by kernel_rfl) (by simp only [List.getElem?_toArray, List.getElem?_cons_succ, List.getElem?_cons_zero]; rfl) (fun K hK => ?_)
    refine step_append_any rfl _ _ 26 rfl wA.heap.size 53 i0 (.agg #[.int .u64 0, .int .u64 0]) 2 16 Tryd.underlying26 hi hz0 hz1 hz2 rfl (by decide) (.slice S1 1 cap1) 1 _ rfl own1 A l.length pc (l.flatMap pairCells) rfl (by rw [flat_pairs_length]) (news_all10 hx7 hB1) (pairs_one _) (by unfold maxLen; omega) (by omega) hB1.size ?_
    intro S3 cap3 wB3 own3 grow3
    have hB3 : Below wA.heap.size wA wB3 := Below.grown hB1 grow3 hB1.size (fun k h => (own1.lt k h).1)
    refine hK _ _ (fun _ => (qtA.on hB3).two.2) ?_
    clear hK K
    (try simp only [Act.put]); (try simp only [List.setIfInBounds_toArray]); (try simp only [List.set_cons_succ, List.set_cons_zero])
    have g3 := (qW.on hB3).frozen 1
    have y3 := (qW.on hB3).two.2
    refine E_one (i := 6) (by kernel_rfl) (by simp only [List.getElem?_toArray, List.getElem?_cons_succ, List.getElem?_cons_zero]; rfl) (fun K hK => ?_)
    go_simp
    refine hK _ _ (fun _ => (qtA.on hB3).two.2) ?_
    clear hK K
    (try simp only [Act.put]); (try simp only [List.setIfInBounds_toArray]); (try simp only [List.set_cons_succ, List.set_cons_zero])
    refine E_one (i := 7) (by kernel_rfl) (by simp only [List.getElem?_toArray, List.getElem?_cons_succ, List.getElem?_cons_zero]; rfl) (fun K hK => ?_)
    go_simp
    refine hK _ _ (fun h => absurd rfl h) ?_
    clear hK K
    refine E_done (by kernel_rfl) ?_ _
    have RR : wB3.ownsRow wA.heap.size 53 2 (.slice S3 (((99, 0) : Pr) :: l).length cap3) (((99, 0) : Pr) :: l).length ((((99, 0) : Pr) :: l).flatMap pairCells) := by
      rw [List.flatMap_cons, List.length_cons, Nat.add_comm l.length 1]; exact own3
    obtain ⟨lw, hlw⟩ : ∃ lw, ((99, 0) : Pr) :: l = lw := ⟨_, rfl⟩
    have hlw1 : 1 + l.length = lw.length := by rw [← hlw, List.length_cons]; omega
    rw [hlw] at RR HW HLW
    rw [hlw1]
    have hne : (Value.slice S3 lw.length cap3).ownBlock ≠ some gW := fun h => by have := (RR.lt gW h).1; have := qW.lt; omega
    have R2 := ownsRow_setCell_other RR (a := ⟨gW, 1, none⟩) hne (.slice S3 lw.length cap3)
    have hX : Prs (wB3.setCell ⟨gW, 1, none⟩ (.slice S3 lw.length cap3)) _ (.slice S3 lw.length cap3) lw := Prs.own R2
    have qWW := (qW.on hB3).set 1 (.slice S3 lw.length cap3)
    have bF := (b8.trans (hB3.mono b8.size)).setCell (p := ⟨gW, 1, none⟩) (by show w8.heap.size ≤ gW; rw [HGW.out]; exact Nat.le_refl _) (.slice S3 lw.length cap3)
    clear own1 own3 grow1 grow3 RR R2 hne hB0 hB1 hB3 b8 qtA hx7 qW y3 g3 hi hz0 hz1 hz2 hlw1 hSd
    generalize wB3.setCell ⟨gW, 1, none⟩ (.slice S3 lw.length cap3) = w10 at *
    replace q := q.on bF
    replace qt := qt.on bF
    replace qD2 := qD2.on bF
    replace hx := hx.on bF
    have hT10 := hT8.on bF
    have B10 := B8.trans (bF.mono B8.size)
    clear bF hT8 B8
    have c0_ := q.later7 0 _ rfl
    have d0_ := qD2.later7 0 _ rfl
    have c1_ := q.later7 1 _ rfl
    have d1_ := qD2.later7 1 _ rfl
    have c2_ := q.later7 2 _ rfl
    have d2_ := qD2.later7 2 _ rfl
    have c3_ := q.later7 3 _ rfl
    have d3_ := qD2.later7 3 _ rfl
    have c4_ := q.later7 4 _ rfl
    have d4_ := qD2.later7 4 _ rfl
    have c5_ := q.later7 5 _ rfl
    have d5_ := qD2.later7 5 _ rfl
    have c6_ := q.later7 6 _ rfl
    have d6_ := qD2.later7 6 _ rfl
    have c7_ := q.later7 7 _ rfl
    have d7_ := qD2.later7 7 _ rfl
    have c8_ := q.later7 8 _ rfl
    have d8_ := qD2.later7 8 _ rfl
    have c9_ := q.later7 9 _ rfl
    have d9_ := qD2.later7 9 _ rfl
    have t0 := qt.later7 0 _ rfl
    have t1 := qt.later7 1 _ rfl
    have u0 := qWW.later7 0 _ rfl
    have u1 := qWW.later7 1 _ rfl
    obtain ⟨mx, hmx⟩ : ∃ mx, max by_ 1 = mx := ⟨_, rfl⟩
    have k1 : max (by_ : Int) 1 = (mx : Int) := by omega
    have hmx2 : mx ≤ 200 := by omega
    obtain ⟨mg, hmg⟩ : ∃ mg, mx * G = mg := ⟨_, rfl⟩
    have k2 : (mx : Int) * (G : Int) = (mg : Int) := by rw [← hmg]; exact (Int.natCast_mul _ _).symm
    have hmg2 : mg ≤ 200 * 16 := by rw [← hmg]; exact Nat.mul_le_mul hmx2 g2
    have hmg1 : 1 ≤ mg := by rw [← hmg]; exact Nat.mul_pos (by omega) (by omega)
    have k3 : IntKind.i64.wrap (mg : Int) = (mg : Int) := wrap_small (by omega) (by omega)
    have k4 : IntKind.i64.wrap (-(y : Int)) = -(y : Int) := IntWalk.i64_in _ (by omega)
    have hby3 : selD mg G f l = selD y G f l := by rw [← hmg, ← hmx, ← HBY.out]; exact selD_by g1
    obtain ⟨bb, hbb⟩ : ∃ bb, selD y G f l = bb := ⟨_, rfl⟩
    have HS1 : ∀ p : Later w10, Calls Tryd.prog 22 #[.agg #[.int .i64 (V : Int), .int .i64 (S : Int), .int .i64 (C : Int), .int .i64 (N : Int), .int .i64 (T : Int), .int .i64 (D : Int), .int .i64 (R : Int), .int .i64 (K : Int), .int .i64 (G : Int), .int .u64 0], .int .i64 (y : Int), .agg #[.bool f, .slice A l.length pc]] p.W fun o w_ => o = .returned (.bool bb) ∧ ∃ p : Later w10, w_ = p.W := fun p => later_of (by rw [← hbb]; exact C1.out _ (hT10.on p.h) (hx.on p.h))
    have HS2 : ∀ p : Later w10, Calls Tryd.prog 22 #[.agg #[.int .i64 (V : Int), .int .i64 (S2 : Int), .int .i64 (C : Int), .int .i64 (N : Int), .int .i64 (T : Int), .int .i64 (D : Int), .int .i64 (R : Int), .int .i64 (K : Int), .int .i64 (G : Int), .int .u64 77], .int .i64 (mg : Int), .agg #[.bool f, .slice A l.length pc]] p.W fun o w_ => o = .returned (.bool bb) ∧ ∃ p : Later w10, w_ = p.W := fun p => later_of (by rw [← hbb, ← hby3]; exact Selected_yes V S2 C N T D R K G 77 mg A pc f l _ (hT10.on p.h) hfit2 hmg1 (by omega) (hx.on p.h) hl9 HL.out)
    have HS4 : ∀ p : Later w10, Calls Tryd.prog 22 #[.agg #[.int .i64 (V : Int), .int .i64 (S : Int), .int .i64 (C : Int), .int .i64 (N : Int), .int .i64 (T : Int), .int .i64 (D : Int), .int .i64 (R : Int), .int .i64 (K : Int), .int .i64 (G : Int), .int .u64 0], .int .i64 (-(y : Int)), .agg #[.bool f, .slice A l.length pc]] p.W fun o w_ => o = .returned (.bool false) ∧ ∃ p : Later w10, w_ = p.W := fun p => later_of (Selected_no _ _ _ _ _ _ _ _ _ _ _ _ _ _ rfl _ (hT10.on p.h) (Or.inr (by omega)))
    have HS5 : ∀ p : Later w10, Calls Tryd.prog 22 #[.agg #[.int .i64 0, .int .i64 0, .int .i64 0, .int .i64 0, .int .i64 0, .int .i64 0, .int .i64 0, .int .i64 0, .int .i64 0, .int .u64 0], .int .i64 (y : Int), .agg #[.bool f, .slice A l.length pc]] p.W fun o w_ => o = .returned (.bool false) ∧ ∃ p : Later w10, w_ = p.W := fun p => later_of (Selected_no _ _ _ _ _ _ _ _ _ _ _ _ _ _ rfl _ (hT10.on p.h) (Or.inl (by decide)))
    have HS3 : ∀ (hl : l ≠ []) (p : Later w10), Calls Tryd.prog 22 #[.agg #[.int .i64 (V : Int), .int .i64 (S : Int), .int .i64 (C : Int), .int .i64 (N : Int), .int .i64 (T : Int), .int .i64 (D : Int), .int .i64 (R : Int), .int .i64 (K : Int), .int .i64 (G : Int), .int .u64 0], .int .i64 (y : Int), .agg #[.bool f, .slice S3 lw.length cap3]] p.W fun o w_ => o = .returned (.bool false) ∧ ∃ p : Later w10, w_ = p.W := fun hl p => later_of (by rw [← HW.out hl]; exact Selected_yes V S C N T D R K G 0 y S3 cap3 f lw _ (hT10.on p.h) hfit y1 (by omega) (hX.on p.h) (by rw [← hlw, List.length_cons]; unfold maxLen; omega) (HLW.out hl))
    clear hbb hby3 hmg hmx HBY hX hx C1 HL HW HLW H0 HH
    go_upto_region 13 with (fail)
    by_cases hl : l = []
    · have v0 : l.length = 0 := by rw [hl]; rfl
      rw [v0] at HS1 HS2 HS4 HS5 t1 ⊢
      clear HS3 hlw
      refine wp_region_later (by kernel_rfl) (by kernel_rfl) ?_
      repeat (go_big_quiet_step (first | (go_at_call 22; (first | with_reducible exact HS1 _ | with_reducible exact HS2 _ | with_reducible exact HS4 _ | with_reducible exact HS5 _))))
      refine wpQuiet_nil ?_
      intro _ hw'
      obtain ⟨pq, rfl⟩ := hw'
      go_wp2_with fail
      go_ret
      exact ⟨by simp, B10.trans (pq.h.mono B10.size)⟩
    · have h0 : l.length ≠ 0 := fun h => hl (List.eq_nil_of_length_eq_zero h)
      have v1 : ((l.length : Int) = 0) = False := eq_false (by omega)
      have v2 : (l.length = 0) = False := eq_false h0
      have v3 : decide ((l.length : Int) = 0) = false := decide_eq_false (by omega)
      have v4 : ((l.length : Int) == 0) = false := by rw [beq_eq_false_iff_ne]; omega
      have v5 : (l.length == 0) = false := by rw [beq_eq_false_iff_ne]; exact h0
      have v6 : decide (l.length = 0) = false := decide_eq_false h0
      have HS6 := HS3 hl
      clear HS3 hlw
      refine wp_region_later (by kernel_rfl) (by kernel_rfl) ?_
      repeat (go_big_quiet_step (first | (go_at_call 22; (first | with_reducible exact HS1 _ | with_reducible exact HS2 _ | with_reducible exact HS6 _ | with_reducible exact HS4 _ | with_reducible exact HS5 _))))
      refine wpQuiet_nil ?_
      intro _ hw'
      obtain ⟨pq, rfl⟩ := hw'
      go_wp2_with fail
      go_ret
      exact ⟨by simp, B10.trans (pq.h.mono B10.size)⟩
end Go.Proofs.YtjipibpcnheniaaDoor
