/- The walk of WindowTells. -/
import Derived.Test.YtjcpeimlebpglaaDoorWinD
import Derived.Test.YtjcpeimlebpglaaDoorBitW
import Derived.Test.YtjcpeimlebpglaaDoorRegU
import Derived.Test.YtjcpeimlebpglaaDoorLagL
import Derived.Lib.MinMax
import Derived.Deep.CutRange
import Derived.Deep.LoopGhost
namespace Go.Proofs.YtjcpeimlebpglaaDoor
open Go.RowKit Go.Lib

theorem two_chainsW {W : World} {q : Nat} {t : TypeId} {a0 a1 a2 a3 a4 a5 a6 a7 a8 d0 d1 d2 d3 d4 d5 d6 d7 d8 za zd : Int}
    (h : RowAt W q t [.int .i64 a0, .int .i64 a1, .int .i64 a2, .int .i64 a3, .int .i64 a4, .int .i64 a5, .int .i64 a6, .int .i64 a7, .int .i64 a8, .int .u64 za, .int .i64 d0, .int .i64 d1, .int .i64 d2, .int .i64 d3, .int .i64 d4, .int .i64 d5, .int .i64 d6, .int .i64 d7, .int .i64 d8, .int .u64 zd]) (m : Nat) (hm : m < 2) :
    ∃ (x0 x1 x2 x3 x4 x5 x6 x7 x8 z : Int), W.cell? ⟨q, m * 10, none⟩ = some (.int .i64 x0) ∧ W.cell? ⟨q, m * 10 + 1, none⟩ = some (.int .i64 x1) ∧ W.cell? ⟨q, m * 10 + 2, none⟩ = some (.int .i64 x2) ∧ W.cell? ⟨q, m * 10 + 3, none⟩ = some (.int .i64 x3) ∧ W.cell? ⟨q, m * 10 + 4, none⟩ = some (.int .i64 x4) ∧ W.cell? ⟨q, m * 10 + 5, none⟩ = some (.int .i64 x5) ∧ W.cell? ⟨q, m * 10 + 6, none⟩ = some (.int .i64 x6) ∧ W.cell? ⟨q, m * 10 + 7, none⟩ = some (.int .i64 x7) ∧ W.cell? ⟨q, m * 10 + 8, none⟩ = some (.int .i64 x8) ∧ W.cell? ⟨q, m * 10 + 9, none⟩ = some (.int .u64 z) := by
  have hm2 : m = 0 ∨ m = 1 := by omega
  rcases hm2 with rfl | rfl
  · exact ⟨a0, a1, a2, a3, a4, a5, a6, a7, a8, za, by rw [h.cell]; rfl, by rw [h.cell]; rfl, by rw [h.cell]; rfl, by rw [h.cell]; rfl, by rw [h.cell]; rfl, by rw [h.cell]; rfl, by rw [h.cell]; rfl, by rw [h.cell]; rfl, by rw [h.cell]; rfl, by rw [h.cell]; rfl⟩
  · exact ⟨d0, d1, d2, d3, d4, d5, d6, d7, d8, zd, by rw [h.cell]; rfl, by rw [h.cell]; rfl, by rw [h.cell]; rfl, by rw [h.cell]; rfl, by rw [h.cell]; rfl, by rw [h.cell]; rfl, by rw [h.cell]; rfl, by rw [h.cell]; rfl, by rw [h.cell]; rfl, by rw [h.cell]; rfl⟩
theorem four_k {W : World} {g : Nat} {t : TypeId} {x0 y0 x1 y1 x2 y2 x3 y3 : Int} (h : RowAt W g t [.int .i64 x0, .int .i64 y0, .int .i64 x1, .int .i64 y1, .int .i64 x2, .int .i64 y2, .int .i64 x3, .int .i64 y3]) (hx0 : I64K x0) (hy0 : I64K y0) (hx1 : I64K x1) (hy1 : I64K y1) (hx2 : I64K x2) (hy2 : I64K y2) (hx3 : I64K x3) (hy3 : I64K y3) (m : Nat) (hm : m < 4) :
    ∃ x y : Int, I64K x ∧ I64K y ∧ W.cell? ⟨g, m * 2, none⟩ = some (.int .i64 x) ∧ W.cell? ⟨g, m * 2 + 1, none⟩ = some (.int .i64 y) := by
  have hm2 : m = 0 ∨ m = 1 ∨ m = 2 ∨ m = 3 := by omega
  rcases hm2 with rfl | rfl | rfl | rfl
  · exact ⟨x0, y0, hx0, hy0, by rw [h.cell]; rfl, by rw [h.cell]; rfl⟩
  · exact ⟨x1, y1, hx1, hy1, by rw [h.cell]; rfl, by rw [h.cell]; rfl⟩
  · exact ⟨x2, y2, hx2, hy2, by rw [h.cell]; rfl, by rw [h.cell]; rfl⟩
  · exact ⟨x3, y3, hx3, hy3, by rw [h.cell]; rfl, by rw [h.cell]; rfl⟩
/-- One answer of both sides: which slots may come. -/
theorem span_both (v s c n t d r k g z y : Int) (hy : I64K y) : ∃ lo hi e : Int,
    (∀ W : World, Spans W → Calls Tryd.prog 17 #[.agg #[.int .i64 v, .int .i64 s, .int .i64 c, .int .i64 n, .int .i64 t, .int .i64 d, .int .i64 r, .int .i64 k, .int .i64 g, .int .u64 z], .int .i64 y] W fun o w' => o = .returned (.tuple #[.int .i64 lo, .int .i64 hi, .int .i64 e]) ∧ Below W.heap.size W w') ∧
    (∀ W : World, Calls Tryd.prog 18 #[.agg #[.int .i64 v, .int .i64 s, .int .i64 c, .int .i64 n, .int .i64 t, .int .i64 d, .int .i64 r, .int .i64 k, .int .i64 g, .int .u64 z], .int .i64 y] W fun o w' => o = .returned (.tuple #[.int .i64 lo, .int .i64 hi, .int .i64 e]) ∧ Below W.heap.size W w') := by
  obtain ⟨fit, hf⟩ : ∃ fit, fitsC v s c n t d r k g = fit := ⟨_, rfl⟩
  by_cases hno : (fit && isTickB y) = false
  · exact ⟨0, 0, 1, fun W hW => wSpan_no hf z W hW y hy hno, fun W => rSpan_no hf z W y hy hno⟩
  · have hyes : (fit && isTickB y) = true := by simpa using hno
    rw [Bool.and_eq_true] at hyes
    obtain ⟨rfl, hk⟩ := hyes
    have hk' := (isTickB_iff y).1 hk
    obtain ⟨t1, t2, _, _⟩ := fits_t hf
    obtain ⟨d1, d2, r1, r2⟩ := fits_d hf
    obtain ⟨T, rfl⟩ := Int.eq_ofNat_of_zero_le (show 0 ≤ t by omega)
    obtain ⟨D, rfl⟩ := Int.eq_ofNat_of_zero_le d1
    obtain ⟨R, rfl⟩ := Int.eq_ofNat_of_zero_le (show 0 ≤ r by omega)
    obtain ⟨Y, rfl⟩ := Int.eq_ofNat_of_zero_le hk'.1
    have S1 := span_nat T D R Y (by omega) (by omega)
    exact ⟨_, _, 0, fun W hW => wSpan_yes hf z W hW _ hk' _ _ S1, fun W => rSpan_yes hf z W _ hk' _ _ S1⟩
set_option maxHeartbeats 8000000 in
set_option maxRecDepth 100000 in
theorem ntells_walk {n0 n1 n2 n3 n4 n5 v s c n t d r k g : Int} (hch : ChainOf n0 n1 n2 n3 n4 n5 v s c n t d r k g) (a0 a1 a2 a3 a4 a5 a6 a7 a8 za x y : Int) (b0 : I64K n0) (b1 : I64K n1) (b2 : I64K n2) (b3 : I64K n3) (b4 : I64K n4) (b5 : I64K n5) (hx : I64K x) (hy : I64K y) (w : World) (hT : Spans w) :
    Calls Tryd.prog 3 #[.agg #[.int .i64 a0, .int .i64 a1, .int .i64 a2, .int .i64 a3, .int .i64 a4, .int .i64 a5, .int .i64 a6, .int .i64 a7, .int .i64 a8, .int .u64 za], .agg #[.int .i64 n0, .int .i64 n1, .int .i64 n2, .int .i64 n3, .int .i64 n4, .int .i64 n5], .int .i64 x, .int .i64 y] w fun o w' => o = .returned (.bool true) ∧ Below w.heap.size w w' := by
  obtain ⟨t1, t2⟩ := hch.small.T
  have cp1 := fun W => pickW_any x 200 W hx (by omega) (by omega)
  have cp2 := fun W => pickW_any y 30 W hy (by omega) (by omega)
  have cp3 := fun W => pickW_any x 1099511627777 W hx (by omega) (by omega)
  have cp4 := fun W => pickW_any y 20 W hy (by omega) (by omega)
  have cp5 := fun W => pickW_any y 12 W hy (by omega) (by omega)
  have l1 := cpick_bd x 200 (by omega)
  have l2 := cpick_bd y 30 (by omega)
  have l3 := cpick_bd x 1099511627777 (by omega)
  have l4 := cpick_bd y 20 (by omega)
  have l5 := cpick_bd y 12 (by omega)
  generalize cpick x 200 = p1 at *
  generalize cpick y 30 = p2 at *
  generalize cpick x 1099511627777 = p3 at *
  generalize cpick y 20 = p4 at *
  generalize cpick y 12 = p5 at *
  obtain ⟨A, hA⟩ : ∃ A, p3.tdiv t = A := ⟨_, rfl⟩
  have hA' : p3 / t = A := by rw [← hA, Int.tdiv_eq_ediv_of_nonneg l3.1]
  have hAb := div_bd (a := p3) (b := t) l3.1 (by omega) t1
  rw [hA'] at hAb
  have hAc : A ≤ 1099511627776 := by
    have := Int.ediv_le_self t l3.1
    omega
  obtain ⟨B, hB⟩ : ∃ B, (1099511627776 : Int).tdiv t = B := ⟨_, rfl⟩
  have hB' : (1099511627776 : Int) / t = B := by rw [← hB, Int.tdiv_eq_ediv_of_nonneg (by omega)]
  have hBb := div_bd (a := 1099511627776) (b := t) (by omega) (by omega) t1
  rw [hB'] at hBb
  have hBc : B ≤ 1099511627776 := by
    have := Int.ediv_le_self (a := 1099511627776) t (by omega)
    omega
  have HQ := Lib.hid (And.intro (show IntKind.i64.wrap (p3.tdiv t) = A by rw [hA]; exact IntWalk.i64_in _ (by omega)) (And.intro (show IntKind.i64.wrap (A + p4) = A + p4 from IntWalk.i64_in _ (by omega)) (And.intro (show IntKind.i64.wrap (A + p4 - 12) = A + p4 - 12 from IntWalk.i64_in _ (by omega)) (And.intro (show IntKind.i64.wrap (1099511627776 - p1) = 1099511627776 - p1 from IntWalk.i64_in _ (by omega)) (And.intro (show IntKind.i64.wrap ((1099511627776 : Int).tdiv t) = B by rw [hB]; exact IntWalk.i64_in _ (by omega)) (And.intro (show IntKind.i64.wrap (B - p5) = B - p5 from IntWalk.i64_in _ (by omega)) (And.intro (show IntKind.i64.wrap (B - p5 + 4) = B - p5 + 4 from IntWalk.i64_in _ (by omega)) (show (t == 0) = false by simp; omega))))))))
  have o5 : I64K (A + p4 - 12) := ⟨by omega, by omega⟩
  have o6 : I64K (1099511627776 - p1) := ⟨by omega, by omega⟩
  have o7 : I64K (B - p5 + 4) := ⟨by omega, by omega⟩
  have o1 : I64K p1 := ⟨by omega, by omega⟩
  have o2 : I64K p2 := ⟨by omega, by omega⟩
  have o3 : I64K p3 := ⟨by omega, by omega⟩
  clear hA hA' hAb hAc hB hB' hBb hBc l1 l2 l3 l4 l5
  have B0 := Below.refl w.heap.size w
  go_enter Tryd.func3, Tryd.ntmps3
  go_upto_region 1 with (fail)
  replace B0 := B0.alloc B0.size (.cells #[.int .i64 a0, .int .i64 a1, .int .i64 a2, .int .i64 a3, .int .i64 a4, .int .i64 a5, .int .i64 a6, .int .i64 a7, .int .i64 a8, .int .u64 za] 24)
  replace B0 := B0.alloc B0.size (.cells #[.int .i64 n0, .int .i64 n1, .int .i64 n2, .int .i64 n3, .int .i64 n4, .int .i64 n5] 25)
  have qw := RowAt.new w 24 #[.int .i64 a0, .int .i64 a1, .int .i64 a2, .int .i64 a3, .int .i64 a4, .int .i64 a5, .int .i64 a6, .int .i64 a7, .int .i64 a8, .int .u64 za]
  replace qw := qw.alloc (.cells #[.int .i64 n0, .int .i64 n1, .int .i64 n2, .int .i64 n3, .int .i64 n4, .int .i64 n5] 25)
  have q6 := RowAt.new (w.alloc (.cells #[.int .i64 a0, .int .i64 a1, .int .i64 a2, .int .i64 a3, .int .i64 a4, .int .i64 a5, .int .i64 a6, .int .i64 a7, .int .i64 a8, .int .u64 za] 24)) 25 #[.int .i64 n0, .int .i64 n1, .int .i64 n2, .int .i64 n3, .int .i64 n4, .int .i64 n5]
  rw [World.size_alloc] at q6
  generalize ((w.alloc (.cells #[.int .i64 a0, .int .i64 a1, .int .i64 a2, .int .i64 a3, .int .i64 a4, .int .i64 a5, .int .i64 a6, .int .i64 a7, .int .i64 a8, .int .u64 za] 24)).alloc (.cells #[.int .i64 n0, .int .i64 n1, .int .i64 n2, .int .i64 n3, .int .i64 n4, .int .i64 n5] 25)) = v1_ at *
  go_wp2_with fail
  with_reducible refine (awake12_any _ (hT.on B0)).mono ?_
  rintro o v2_ ⟨rfl, bN⟩
  replace qw := qw.on bN
  replace q6 := q6.on bN
  replace B0 := B0.trans (bN.mono B0.size)
  clear bN
  have q6_ := q6.cell
  have q6_0 := q6_ 0
  have q6_1 := q6_ 1
  have q6_2 := q6_ 2
  have q6_3 := q6_ 3
  have q6_4 := q6_ 4
  have q6_5 := q6_ 5
  simp only [List.getElem?_cons_zero, List.getElem?_cons_succ] at q6_0 q6_1 q6_2 q6_3 q6_4 q6_5
  clear q6_
  go_wp2_with fail
  with_reducible refine (Chain_any hch 0 _ b0 b1 b2 b3 b4 b5).mono ?_
  rintro o v3_ ⟨rfl, bN⟩
  clear q6_0 q6_1 q6_2 q6_3 q6_4 q6_5
  replace qw := qw.on bN
  replace q6 := q6.on bN
  replace B0 := B0.trans (bN.mono B0.size)
  clear bN
  clear q6 hch
  go_upto_region 3 with (fail)
  have qo := RowAt.new v3_ 24 #[.int .i64 v, .int .i64 s, .int .i64 c, .int .i64 n, .int .i64 t, .int .i64 d, .int .i64 r, .int .i64 k, .int .i64 g, .int .u64 0]
  have bN := (Below.refl v3_.heap.size v3_).alloc (Nat.le_refl _) (.cells #[.int .i64 v, .int .i64 s, .int .i64 c, .int .i64 n, .int .i64 t, .int .i64 d, .int .i64 r, .int .i64 k, .int .i64 g, .int .u64 0] 24)
  replace qw := qw.on bN
  replace B0 := B0.trans (bN.mono B0.size)
  clear bN
  generalize v3_.alloc (.cells #[.int .i64 v, .int .i64 s, .int .i64 c, .int .i64 n, .int .i64 t, .int .i64 d, .int .i64 r, .int .i64 k, .int .i64 g, .int .u64 0] 24) = v4_ at *
  obtain ⟨gO, hg9⟩ : ∃ gO, gO = v3_.heap.size := ⟨_, rfl⟩
  rw [← hg9] at qo  ⊢
  clear hg9
  have qw_ := qw.cell
  have qw_0 := qw_ 0
  have qw_1 := qw_ 1
  have qw_2 := qw_ 2
  have qw_3 := qw_ 3
  have qw_4 := qw_ 4
  have qw_5 := qw_ 5
  have qw_6 := qw_ 6
  have qw_7 := qw_ 7
  have qw_8 := qw_ 8
  have qw_9 := qw_ 9
  simp only [List.getElem?_cons_zero, List.getElem?_cons_succ] at qw_0 qw_1 qw_2 qw_3 qw_4 qw_5 qw_6 qw_7 qw_8 qw_9
  clear qw_
  have qo_ := qo.cell
  have qo_0 := qo_ 0
  have qo_1 := qo_ 1
  have qo_2 := qo_ 2
  have qo_3 := qo_ 3
  have qo_4 := qo_ 4
  have qo_5 := qo_ 5
  have qo_6 := qo_ 6
  have qo_7 := qo_ 7
  have qo_8 := qo_ 8
  have qo_9 := qo_ 9
  simp only [List.getElem?_cons_zero, List.getElem?_cons_succ] at qo_0 qo_1 qo_2 qo_3 qo_4 qo_5 qo_6 qo_7 qo_8 qo_9
  clear qo_
  go_upto_region 4 with (fail)
  clear qw_0 qw_1 qw_2 qw_3 qw_4 qw_5 qw_6 qw_7 qw_8 qw_9 qo_0 qo_1 qo_2 qo_3 qo_4 qo_5 qo_6 qo_7 qo_8 qo_9
  have qs := RowAt.new v4_ 24 #[.int .i64 a0, .int .i64 a1, .int .i64 a2, .int .i64 a3, .int .i64 a4, .int .i64 a5, .int .i64 a6, .int .i64 a7, .int .i64 a8, .int .u64 za, .int .i64 v, .int .i64 s, .int .i64 c, .int .i64 n, .int .i64 t, .int .i64 d, .int .i64 r, .int .i64 k, .int .i64 g, .int .u64 0]
  have bN := (Below.refl v4_.heap.size v4_).alloc (Nat.le_refl _) (.cells #[.int .i64 a0, .int .i64 a1, .int .i64 a2, .int .i64 a3, .int .i64 a4, .int .i64 a5, .int .i64 a6, .int .i64 a7, .int .i64 a8, .int .u64 za, .int .i64 v, .int .i64 s, .int .i64 c, .int .i64 n, .int .i64 t, .int .i64 d, .int .i64 r, .int .i64 k, .int .i64 g, .int .u64 0] 24)
  replace qw := qw.on bN
  replace qo := qo.on bN
  replace B0 := B0.trans (bN.mono B0.size)
  clear bN
  generalize v4_.alloc (.cells #[.int .i64 a0, .int .i64 a1, .int .i64 a2, .int .i64 a3, .int .i64 a4, .int .i64 a5, .int .i64 a6, .int .i64 a7, .int .i64 a8, .int .u64 za, .int .i64 v, .int .i64 s, .int .i64 c, .int .i64 n, .int .i64 t, .int .i64 d, .int .i64 r, .int .i64 k, .int .i64 g, .int .u64 0] 24) = v5_ at *
  obtain ⟨gS, hg9⟩ : ∃ gS, gS = v4_.heap.size := ⟨_, rfl⟩
  rw [← hg9] at qs  ⊢
  clear hg9
  obtain ⟨w8, hw8⟩ : ∃ w8, w8 = v5_ := ⟨_, rfl⟩
  subst hw8
  clear qw
  go_wp2_with fail
  go_loopw [40] (fun iv wr => ∃ m : Nat, m ≤ 2 ∧ iv = .int .i64 (m : Int) ∧ Below w8.heap.size w8 wr) (fun iv _ => 2 - (RowKit.intOf iv).toNat)
  case atStart => exact ⟨0, Nat.zero_le _, rfl, Below.refl _ _⟩
  case round =>
    obtain ⟨m, hm, rfl, hb⟩ := hrel
    obtain ⟨wo, hwo⟩ : ∃ wo, wo = wr := ⟨_, rfl⟩
    subst hwo
    replace qs := qs.on hb
    replace qo := qo.on hb
    have hT1 := (hT.on B0).on hb
    by_cases hm2 : m < 2
    · have g1 : ((m : Int) < 2) = True := eq_true (by omega)
      have g1' : (m < 2) = True := eq_true hm2
      obtain ⟨v0, v1, v2, v3, v4, v5, v6, v7, v8, vz, y0, y1, y2, y3, y4, y5, y6, y7, y8, y9⟩ := two_chainsW qs m hm2
      go_upto_region 6 with (fail)
      clear y0 y1 y2 y3 y4 y5 y6 y7 y8 y9
      have qc := RowAt.new wo 24 #[.int .i64 v0, .int .i64 v1, .int .i64 v2, .int .i64 v3, .int .i64 v4, .int .i64 v5, .int .i64 v6, .int .i64 v7, .int .i64 v8, .int .u64 vz]
      have bN := (Below.refl wo.heap.size wo).alloc (Nat.le_refl _) (.cells #[.int .i64 v0, .int .i64 v1, .int .i64 v2, .int .i64 v3, .int .i64 v4, .int .i64 v5, .int .i64 v6, .int .i64 v7, .int .i64 v8, .int .u64 vz] 24)
      replace qo := qo.on bN
      replace hT1 := hT1.on bN
      replace hb := hb.trans (bN.mono hb.size)
      clear bN
      generalize wo.alloc (.cells #[.int .i64 v0, .int .i64 v1, .int .i64 v2, .int .i64 v3, .int .i64 v4, .int .i64 v5, .int .i64 v6, .int .i64 v7, .int .i64 v8, .int .u64 vz] 24) = v21_ at *
      obtain ⟨gC, hg9⟩ : ∃ gC, gC = wo.heap.size := ⟨_, rfl⟩
      rw [← hg9] at qc  ⊢
      clear hg9
      have y4 := qo.laterT 4 _ rfl
      have HP1 := fun p : LaterT v21_ => laterT_same (cp1 p.W)
      have HP2 := fun p : LaterT v21_ => laterT_same (cp2 p.W)
      have HP3 := fun p : LaterT v21_ => laterT_same (cp3 p.W)
      have HP4 := fun p : LaterT v21_ => laterT_same (cp4 p.W)
      have HP5 := fun p : LaterT v21_ => laterT_same (cp5 p.W)
      obtain ⟨wa, wb, wc_, wd, we, wf, wg, wt0⟩ := HQ.out
      refine wp_region_later_tail1 31 2 (by kernel_rfl) (by kernel_rfl) (by simp only [Nat.reduceAdd, List.getElem?_cons_succ, List.getElem?_cons_zero]; rfl) (.inl ⟨rfl, fun _ => rfl⟩) (by exact fun _ _ _ h => h) ?_
      simp only [List.take_succ_cons, List.take_zero]
      (try simp only [Act.put]); (try simp only [List.setIfInBounds_toArray]); (try simp only [List.set_cons_succ, List.set_cons_zero])
      repeat (go_big_quiet_step (first | (go_at_call 10; (first | with_reducible exact HP1 _ | with_reducible exact HP2 _ | with_reducible exact HP3 _ | with_reducible exact HP4 _ | with_reducible exact HP5 _))))
      refine wpQuiet_nil ?_
      intro w' hw'
      obtain ⟨pq, rfl⟩ := hw'
      have bN := pq.h
      replace qo := qo.on bN
      replace qc := qc.on bN
      replace hT1 := hT1.on bN
      replace hb := hb.trans (bN.mono hb.size)
      generalize pq.W = w9 at *
      clear HP1 HP2 HP3 HP4 HP5 y4 bN pq qo wa wb wc_ wd we wf wg wt0
      simp only [List.drop_succ_cons, List.drop_zero, List.take_succ_cons, List.take_zero]
      go_upto_region 7 with (fail)
      have qk := RowAt.new w9 29 #[.int .i64 x, .int .i64 y, .int .i64 p1, .int .i64 p2, .int .i64 p3, .int .i64 (A + p4 - 12), .int .i64 (1099511627776 - p1), .int .i64 (B - p5 + 4)]
      have bN := (Below.refl w9.heap.size w9).alloc (Nat.le_refl _) (.cells #[.int .i64 x, .int .i64 y, .int .i64 p1, .int .i64 p2, .int .i64 p3, .int .i64 (A + p4 - 12), .int .i64 (1099511627776 - p1), .int .i64 (B - p5 + 4)] 29)
      replace qc := qc.on bN
      replace hT1 := hT1.on bN
      replace hb := hb.trans (bN.mono hb.size)
      clear bN
      generalize w9.alloc (.cells #[.int .i64 x, .int .i64 y, .int .i64 p1, .int .i64 p2, .int .i64 p3, .int .i64 (A + p4 - 12), .int .i64 (1099511627776 - p1), .int .i64 (B - p5 + 4)] 29) = v22_ at *
      obtain ⟨gK, hg9⟩ : ∃ gK, gK = w9.heap.size := ⟨_, rfl⟩
      rw [← hg9] at qk  ⊢
      clear hg9
      obtain ⟨w10, hw10⟩ : ∃ w10, w10 = v22_ := ⟨_, rfl⟩
      subst hw10
      go_wp2_with fail
      go_loopw [77] (fun iv wr => ∃ m : Nat, m ≤ 4 ∧ iv = .int .i64 (m : Int) ∧ Below w10.heap.size w10 wr) (fun iv _ => 4 - (RowKit.intOf iv).toNat)
      case atStart => exact ⟨0, Nat.zero_le _, rfl, Below.refl _ _⟩
      case round =>
        obtain ⟨m', hm', rfl, hb6⟩ := hrel
        obtain ⟨wq, hwq⟩ : ∃ wq, wq = wr := ⟨_, rfl⟩
        subst hwq
        replace qk := qk.on hb6
        replace qc := qc.on hb6
        replace hT1 := hT1.on hb6
        by_cases hm3 : m' < 4
        · have g2 : ((m' : Int) < 4) = True := eq_true (by omega)
          have g2' : (m' < 4) = True := eq_true hm3
          obtain ⟨kx, ky, hkx, hky, y0, y1⟩ := four_k qk hx hy o1 o2 o3 o5 o6 o7 m' hm3
          go_upto_region 9 with (fail)
          clear y0 y1
          have qz := RowAt.new wq 29 #[.int .i64 kx, .int .i64 ky]
          have bN := (Below.refl wq.heap.size wq).alloc (Nat.le_refl _) (.cells #[.int .i64 kx, .int .i64 ky] 29)
          replace qc := qc.on bN
          replace hT1 := hT1.on bN
          replace hb6 := hb6.trans (bN.mono hb6.size)
          clear bN
          generalize wq.alloc (.cells #[.int .i64 kx, .int .i64 ky] 29) = v41_ at *
          obtain ⟨gZ, hg9⟩ : ∃ gZ, gZ = wq.heap.size := ⟨_, rfl⟩
          rw [← hg9] at qz  ⊢
          clear hg9
          obtain ⟨fit, hf⟩ : ∃ fit, fitsC v0 v1 v2 v3 v4 v5 v6 v7 v8 = fit := ⟨_, rfl⟩
          obtain ⟨lo, hi, es, cS, rS⟩ := span_both v0 v1 v2 v3 v4 v5 v6 v7 v8 vz kx hkx
          obtain ⟨R0, E0, h0⟩ : ∃ R E, opensA fit v4 v5 ky = (R, E) := ⟨_, _, rfl⟩
          obtain ⟨R1, E1, h1⟩ : ∃ R E, closesA fit v4 v5 v6 ky = (R, E) := ⟨_, _, rfl⟩
          obtain ⟨R2, E2, h2⟩ : ∃ R E, standA fit v4 v5 v6 kx ky = (R, E) := ⟨_, _, rfl⟩
          have cO := fun W (hW : Spans W) => wOpens_any hf vz W hW ky hky R0 E0 h0
          have rO := fun W => rOpens_any hf vz W ky hky R0 E0 h0
          have cC := fun W (hW : Spans W) => wCloses_any hf vz W hW ky hky R1 E1 h1
          have rC := fun W => rCloses_any hf vz W ky hky R1 E1 h1
          have cT := fun W (hW : Spans W) => wStand_any hf vz W hW kx hkx ky hky R2 E2 h2
          have rT := fun W => rStand_any hf vz W kx hkx ky hky R2 E2 h2
          clear hf h0 h1 h2
          have qc_ := qc.cell
          have qc_0 := qc_ 0
          have qc_1 := qc_ 1
          have qc_2 := qc_ 2
          have qc_3 := qc_ 3
          have qc_4 := qc_ 4
          have qc_5 := qc_ 5
          have qc_6 := qc_ 6
          have qc_7 := qc_ 7
          have qc_8 := qc_ 8
          have qc_9 := qc_ 9
          simp only [List.getElem?_cons_zero, List.getElem?_cons_succ] at qc_0 qc_1 qc_2 qc_3 qc_4 qc_5 qc_6 qc_7 qc_8 qc_9
          clear qc_
          have qz_ := qz.cell
          have qz_0 := qz_ 0
          have qz_1 := qz_ 1
          simp only [List.getElem?_cons_zero, List.getElem?_cons_succ] at qz_0 qz_1
          clear qz_
          go_wp2_with fail
          with_reducible refine (cO _ hT1).mono ?_
          rintro o v42_ ⟨rfl, bN⟩
          clear qc_0 qc_1 qc_2 qc_3 qc_4 qc_5 qc_6 qc_7 qc_8 qc_9 qz_0 qz_1
          replace qc := qc.on bN
          replace qz := qz.on bN
          replace hT1 := hT1.on bN
          replace hb6 := hb6.trans (bN.mono hb6.size)
          clear bN
          go_upto_region 10 with (fail)
          have qc_ := qc.cell
          have qc_0 := qc_ 0
          have qc_1 := qc_ 1
          have qc_2 := qc_ 2
          have qc_3 := qc_ 3
          have qc_4 := qc_ 4
          have qc_5 := qc_ 5
          have qc_6 := qc_ 6
          have qc_7 := qc_ 7
          have qc_8 := qc_ 8
          have qc_9 := qc_ 9
          simp only [List.getElem?_cons_zero, List.getElem?_cons_succ] at qc_0 qc_1 qc_2 qc_3 qc_4 qc_5 qc_6 qc_7 qc_8 qc_9
          clear qc_
          have qz_ := qz.cell
          have qz_0 := qz_ 0
          have qz_1 := qz_ 1
          simp only [List.getElem?_cons_zero, List.getElem?_cons_succ] at qz_0 qz_1
          clear qz_
          go_wp2_with fail
          with_reducible refine (rO _).mono ?_
          rintro o v43_ ⟨rfl, bN⟩
          clear qc_0 qc_1 qc_2 qc_3 qc_4 qc_5 qc_6 qc_7 qc_8 qc_9 qz_0 qz_1
          replace qc := qc.on bN
          replace qz := qz.on bN
          replace hT1 := hT1.on bN
          replace hb6 := hb6.trans (bN.mono hb6.size)
          clear bN
          go_upto_region 11 with (fail)
          have qc_ := qc.cell
          have qc_0 := qc_ 0
          have qc_1 := qc_ 1
          have qc_2 := qc_ 2
          have qc_3 := qc_ 3
          have qc_4 := qc_ 4
          have qc_5 := qc_ 5
          have qc_6 := qc_ 6
          have qc_7 := qc_ 7
          have qc_8 := qc_ 8
          have qc_9 := qc_ 9
          simp only [List.getElem?_cons_zero, List.getElem?_cons_succ] at qc_0 qc_1 qc_2 qc_3 qc_4 qc_5 qc_6 qc_7 qc_8 qc_9
          clear qc_
          have qz_ := qz.cell
          have qz_0 := qz_ 0
          have qz_1 := qz_ 1
          simp only [List.getElem?_cons_zero, List.getElem?_cons_succ] at qz_0 qz_1
          clear qz_
          go_wp2_with fail
          with_reducible refine (cC _ hT1).mono ?_
          rintro o v44_ ⟨rfl, bN⟩
          clear qc_0 qc_1 qc_2 qc_3 qc_4 qc_5 qc_6 qc_7 qc_8 qc_9 qz_0 qz_1
          replace qc := qc.on bN
          replace qz := qz.on bN
          replace hT1 := hT1.on bN
          replace hb6 := hb6.trans (bN.mono hb6.size)
          clear bN
          go_upto_region 12 with (fail)
          have qc_ := qc.cell
          have qc_0 := qc_ 0
          have qc_1 := qc_ 1
          have qc_2 := qc_ 2
          have qc_3 := qc_ 3
          have qc_4 := qc_ 4
          have qc_5 := qc_ 5
          have qc_6 := qc_ 6
          have qc_7 := qc_ 7
          have qc_8 := qc_ 8
          have qc_9 := qc_ 9
          simp only [List.getElem?_cons_zero, List.getElem?_cons_succ] at qc_0 qc_1 qc_2 qc_3 qc_4 qc_5 qc_6 qc_7 qc_8 qc_9
          clear qc_
          have qz_ := qz.cell
          have qz_0 := qz_ 0
          have qz_1 := qz_ 1
          simp only [List.getElem?_cons_zero, List.getElem?_cons_succ] at qz_0 qz_1
          clear qz_
          go_wp2_with fail
          with_reducible refine (rC _).mono ?_
          rintro o v45_ ⟨rfl, bN⟩
          clear qc_0 qc_1 qc_2 qc_3 qc_4 qc_5 qc_6 qc_7 qc_8 qc_9 qz_0 qz_1
          replace qc := qc.on bN
          replace qz := qz.on bN
          replace hT1 := hT1.on bN
          replace hb6 := hb6.trans (bN.mono hb6.size)
          clear bN
          go_upto_region 13 with (fail)
          have qc_ := qc.cell
          have qc_0 := qc_ 0
          have qc_1 := qc_ 1
          have qc_2 := qc_ 2
          have qc_3 := qc_ 3
          have qc_4 := qc_ 4
          have qc_5 := qc_ 5
          have qc_6 := qc_ 6
          have qc_7 := qc_ 7
          have qc_8 := qc_ 8
          have qc_9 := qc_ 9
          simp only [List.getElem?_cons_zero, List.getElem?_cons_succ] at qc_0 qc_1 qc_2 qc_3 qc_4 qc_5 qc_6 qc_7 qc_8 qc_9
          clear qc_
          have qz_ := qz.cell
          have qz_0 := qz_ 0
          have qz_1 := qz_ 1
          simp only [List.getElem?_cons_zero, List.getElem?_cons_succ] at qz_0 qz_1
          clear qz_
          go_wp2_with fail
          with_reducible refine (cT _ hT1).mono ?_
          rintro o v46_ ⟨rfl, bN⟩
          clear qc_0 qc_1 qc_2 qc_3 qc_4 qc_5 qc_6 qc_7 qc_8 qc_9 qz_0 qz_1
          replace qc := qc.on bN
          replace qz := qz.on bN
          replace hT1 := hT1.on bN
          replace hb6 := hb6.trans (bN.mono hb6.size)
          clear bN
          go_upto_region 14 with (fail)
          have qc_ := qc.cell
          have qc_0 := qc_ 0
          have qc_1 := qc_ 1
          have qc_2 := qc_ 2
          have qc_3 := qc_ 3
          have qc_4 := qc_ 4
          have qc_5 := qc_ 5
          have qc_6 := qc_ 6
          have qc_7 := qc_ 7
          have qc_8 := qc_ 8
          have qc_9 := qc_ 9
          simp only [List.getElem?_cons_zero, List.getElem?_cons_succ] at qc_0 qc_1 qc_2 qc_3 qc_4 qc_5 qc_6 qc_7 qc_8 qc_9
          clear qc_
          have qz_ := qz.cell
          have qz_0 := qz_ 0
          have qz_1 := qz_ 1
          simp only [List.getElem?_cons_zero, List.getElem?_cons_succ] at qz_0 qz_1
          clear qz_
          go_wp2_with fail
          with_reducible refine (rT _).mono ?_
          rintro o v47_ ⟨rfl, bN⟩
          clear qc_0 qc_1 qc_2 qc_3 qc_4 qc_5 qc_6 qc_7 qc_8 qc_9 qz_0 qz_1
          replace qc := qc.on bN
          replace qz := qz.on bN
          replace hT1 := hT1.on bN
          replace hb6 := hb6.trans (bN.mono hb6.size)
          clear bN
          go_upto_region 15 with (fail)
          have qc_ := qc.cell
          have qc_0 := qc_ 0
          have qc_1 := qc_ 1
          have qc_2 := qc_ 2
          have qc_3 := qc_ 3
          have qc_4 := qc_ 4
          have qc_5 := qc_ 5
          have qc_6 := qc_ 6
          have qc_7 := qc_ 7
          have qc_8 := qc_ 8
          have qc_9 := qc_ 9
          simp only [List.getElem?_cons_zero, List.getElem?_cons_succ] at qc_0 qc_1 qc_2 qc_3 qc_4 qc_5 qc_6 qc_7 qc_8 qc_9
          clear qc_
          have qz_ := qz.cell
          have qz_0 := qz_ 0
          have qz_1 := qz_ 1
          simp only [List.getElem?_cons_zero, List.getElem?_cons_succ] at qz_0 qz_1
          clear qz_
          go_wp2_with fail
          with_reducible refine (cS _ hT1).mono ?_
          rintro o v48_ ⟨rfl, bN⟩
          clear qc_0 qc_1 qc_2 qc_3 qc_4 qc_5 qc_6 qc_7 qc_8 qc_9 qz_0 qz_1
          replace qc := qc.on bN
          replace qz := qz.on bN
          replace hT1 := hT1.on bN
          replace hb6 := hb6.trans (bN.mono hb6.size)
          clear bN
          go_upto_region 16 with (fail)
          have qc_ := qc.cell
          have qc_0 := qc_ 0
          have qc_1 := qc_ 1
          have qc_2 := qc_ 2
          have qc_3 := qc_ 3
          have qc_4 := qc_ 4
          have qc_5 := qc_ 5
          have qc_6 := qc_ 6
          have qc_7 := qc_ 7
          have qc_8 := qc_ 8
          have qc_9 := qc_ 9
          simp only [List.getElem?_cons_zero, List.getElem?_cons_succ] at qc_0 qc_1 qc_2 qc_3 qc_4 qc_5 qc_6 qc_7 qc_8 qc_9
          clear qc_
          have qz_ := qz.cell
          have qz_0 := qz_ 0
          have qz_1 := qz_ 1
          simp only [List.getElem?_cons_zero, List.getElem?_cons_succ] at qz_0 qz_1
          clear qz_
          go_wp2_with fail
          with_reducible refine (rS _).mono ?_
          rintro o v49_ ⟨rfl, bN⟩
          clear qc_0 qc_1 qc_2 qc_3 qc_4 qc_5 qc_6 qc_7 qc_8 qc_9 qz_0 qz_1
          replace qc := qc.on bN
          replace qz := qz.on bN
          replace hT1 := hT1.on bN
          replace hb6 := hb6.trans (bN.mono hb6.size)
          clear bN
          clear cO rO cC rC cT rT cS rS
          go_wp2_with fail
          go_roundw
          case rel => exact ⟨m' + 1, by omega, by go_num, hb6⟩
          case measure => simp [RowKit.intOf]; omega
        · obtain rfl : m' = 4 := by omega
          go_wp2_with fail
          go_roundw
          case rel => exact ⟨m + 1, by omega, by go_num, hb.trans (hb6.mono hb.size)⟩
          case measure => simp [RowKit.intOf]; omega
    · obtain rfl : m = 2 := by omega
      go_wp2_with fail
      go_ret
      exact ⟨rfl, B0.trans (hb.mono B0.size)⟩
theorem ntells_calls (a0 a1 a2 a3 a4 a5 a6 a7 a8 za : Int) {n0 n1 n2 n3 n4 n5 : Int} (b0 : I64K n0) (b1 : I64K n1) (b2 : I64K n2) (b3 : I64K n3) (b4 : I64K n4) (b5 : I64K n5) (x : Int) (hx : I64K x) (y : Int) (hy : I64K y) (w : World) (hT : Spans w) :
    Calls Tryd.prog 3 #[.agg #[.int .i64 a0, .int .i64 a1, .int .i64 a2, .int .i64 a3, .int .i64 a4, .int .i64 a5, .int .i64 a6, .int .i64 a7, .int .i64 a8, .int .u64 za], .agg #[.int .i64 n0, .int .i64 n1, .int .i64 n2, .int .i64 n3, .int .i64 n4, .int .i64 n5], .int .i64 x, .int .i64 y] w fun o w' => o = .returned (.bool true) ∧ Below w.heap.size w w' := by
  obtain ⟨v, s, c, n, t, d, r, k, g, hch⟩ := chain_of n0 n1 n2 n3 n4 n5
  exact ntells_walk hch a0 a1 a2 a3 a4 a5 a6 a7 a8 za x y b0 b1 b2 b3 b4 b5 hx hy w hT
end Go.Proofs.YtjcpeimlebpglaaDoor
