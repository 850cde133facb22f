/- The walk of DutyTells. -/
import Derived.Test.YtjipibpcnheniaaDoorDutS
import Derived.Test.YtjipibpcnheniaaDoorDutJ
import Derived.Lib.MinMax
import Derived.OpenShut
import Derived.Deep.RegionHeld3
import Derived.Deep.CutRange
import Derived.Deep.LoopGhost
namespace Go.Proofs.YtjipibpcnheniaaDoor
open Go.RowKit Go.Lib

theorem two_chainsD {W : World} {q : Nat} {t : TypeId} {a0 a1 a2 a3 a4 a5 a6 a7 a8 d0 d1 d2 d3 d4 d5 d6 d7 d8 : Int} {za zd : Nat}
    (h : RowAt W q t [.int .i64 a0, .int .i64 a1, .int .i64 a2, .int .i64 a3, .int .i64 a4, .int .i64 a5, .int .i64 a6, .int .i64 a7, .int .i64 a8, .int .u64 (za : Int), .int .i64 d0, .int .i64 d1, .int .i64 d2, .int .i64 d3, .int .i64 d4, .int .i64 d5, .int .i64 d6, .int .i64 d7, .int .i64 d8, .int .u64 (zd : Int)]) (m : Nat) (hm : m < 2) :
    ∃ (x0 x1 x2 x3 x4 x5 x6 x7 x8 : Int) (z : Nat), W.cell? ⟨q, m * 10, none⟩ = some (.int .i64 x0) ∧ W.cell? ⟨q, m * 10 + 1, none⟩ = some (.int .i64 x1) ∧ W.cell? ⟨q, m * 10 + 2, none⟩ = some (.int .i64 x2) ∧ W.cell? ⟨q, m * 10 + 3, none⟩ = some (.int .i64 x3) ∧ W.cell? ⟨q, m * 10 + 4, none⟩ = some (.int .i64 x4) ∧ W.cell? ⟨q, m * 10 + 5, none⟩ = some (.int .i64 x5) ∧ W.cell? ⟨q, m * 10 + 6, none⟩ = some (.int .i64 x6) ∧ W.cell? ⟨q, m * 10 + 7, none⟩ = some (.int .i64 x7) ∧ W.cell? ⟨q, m * 10 + 8, none⟩ = some (.int .i64 x8) ∧ W.cell? ⟨q, m * 10 + 9, none⟩ = some (.int .u64 (z : Int)) := by
  have hm2 : m = 0 ∨ m = 1 := by omega
  rcases hm2 with rfl | rfl
  · exact ⟨a0, a1, a2, a3, a4, a5, a6, a7, a8, za, by rw [h.cell]; rfl, by rw [h.cell]; rfl, by rw [h.cell]; rfl, by rw [h.cell]; rfl, by rw [h.cell]; rfl, by rw [h.cell]; rfl, by rw [h.cell]; rfl, by rw [h.cell]; rfl, by rw [h.cell]; rfl, by rw [h.cell]; rfl⟩
  · exact ⟨d0, d1, d2, d3, d4, d5, d6, d7, d8, zd, by rw [h.cell]; rfl, by rw [h.cell]; rfl, by rw [h.cell]; rfl, by rw [h.cell]; rfl, by rw [h.cell]; rfl, by rw [h.cell]; rfl, by rw [h.cell]; rfl, by rw [h.cell]; rfl, by rw [h.cell]; rfl, by rw [h.cell]; rfl⟩
theorem three_k {W : World} {g : Nat} {t : TypeId} {s0 i0 w0 s1 i1 w1 s2 i2 w2 : Int} (h : RowAt W g t [.int .i64 s0, .int .i64 i0, .int .i64 w0, .int .i64 s1, .int .i64 i1, .int .i64 w1, .int .i64 s2, .int .i64 i2, .int .i64 w2]) (hi0 : I64K i0) (hw0 : I64K w0) (hi1 : I64K i1) (hw1 : I64K w1) (hi2 : I64K i2) (hw2 : I64K w2) (m : Nat) (hm : m < 3) :
    ∃ x y z : Int, I64K y ∧ I64K z ∧ W.cell? ⟨g, m * 3, none⟩ = some (.int .i64 x) ∧ W.cell? ⟨g, m * 3 + 1, none⟩ = some (.int .i64 y) ∧ W.cell? ⟨g, m * 3 + 2, none⟩ = some (.int .i64 z) := by
  have hm2 : m = 0 ∨ m = 1 ∨ m = 2 := by omega
  rcases hm2 with rfl | rfl | rfl
  · exact ⟨s0, i0, w0, hi0, hw0, by rw [h.cell]; rfl, by rw [h.cell]; rfl, by rw [h.cell]; rfl⟩
  · exact ⟨s1, i1, w1, hi1, hw1, by rw [h.cell]; rfl, by rw [h.cell]; rfl, by rw [h.cell]; rfl⟩
  · exact ⟨s2, i2, w2, hi2, hw2, by rw [h.cell]; rfl, by rw [h.cell]; rfl, by rw [h.cell]; rfl⟩
theorem two_toksD {W : World} {g : Nat} {t : TypeId} {f1 f2 : Bool} {A1 A2 : Option Addr} {p1 p2 : Nat} {l1 l2 : List Pr} (h : RowAt W g t [.bool f1, .slice A1 l1.length p1, .bool f2, .slice A2 l2.length p2])
    (h1 : Prs W W.heap.size (.slice A1 l1.length p1) l1) (h2 : Prs W W.heap.size (.slice A2 l2.length p2) l2) (n1 : l1.length ≤ 40) (n2 : l2.length ≤ 40) (m : Nat) (hm : m < 2) :
    ∃ (f : Bool) (A : Option Addr) (p : Nat) (l : List Pr), l.length ≤ 40 ∧ Prs W W.heap.size (.slice A l.length p) l ∧ W.cell? ⟨g, m * 2, none⟩ = some (.bool f) ∧ W.cell? ⟨g, m * 2 + 1, none⟩ = some (.slice A l.length p) := by
  have hm2 : m = 0 ∨ m = 1 := by omega
  rcases hm2 with rfl | rfl
  · exact ⟨f1, A1, p1, l1, n1, h1, by rw [h.cell]; rfl, by rw [h.cell]; rfl⟩
  · exact ⟨f2, A2, p2, l2, n2, h2, by rw [h.cell]; rfl, by rw [h.cell]; rfl⟩
theorem enc_short {f : Bool} {l : List Pr} (h : l.length ≤ 40) : (encT f l).1.length ≤ 1000 := by
  unfold encT
  split
  · show (encB f l).length ≤ 1000
    rw [encB_length]
    omega
  · exact Nat.zero_le _
set_option maxHeartbeats 8000000 in
set_option maxRecDepth 100000 in
theorem dtells_walk (a0 a1 a2 a3 a4 a5 a6 a7 a8 : Int) (za : Nat) (n0 n1 n2 n3 n4 n5 sl ix wh : Int) (Z : Nat) (b0 : I64K n0) (b1 : I64K n1) (b2 : I64K n2) (b3 : I64K n3) (b4 : I64K n4) (b5 : I64K n5) (bs : I64K sl) (bi : I64K ix) (bw : I64K wh)
    (tf : Bool) (tl : List Pr) (tA : Option Addr) (tc : Nat) (rv : Value) (raw : List Int) (w : World) (ht : Prs w w.heap.size (.slice tA tl.length tc) tl) (htc : tl.length ≤ tc) (htm : tc ≤ maxLen) (hv : Ints w w.heap.size rv raw) (hI : ∀ r ∈ raw, I64 r) (hr9 : raw.length ≤ maxLen) (hT : Both w) :
    Calls Tryd.prog 3 #[.agg #[.int .i64 a0, .int .i64 a1, .int .i64 a2, .int .i64 a3, .int .i64 a4, .int .i64 a5, .int .i64 a6, .int .i64 a7, .int .i64 a8, .int .u64 (za : Int)], .agg #[.int .i64 n0, .int .i64 n1, .int .i64 n2, .int .i64 n3, .int .i64 n4, .int .i64 n5], .int .u64 (Z : Int), .int .i64 sl, .int .i64 ix, .int .i64 wh, .agg #[.bool tf, .slice tA tl.length tc], rv] w fun o w' => o = .returned (.bool true) ∧ Below w.heap.size w w' := by
  obtain ⟨V, S, C, N, T, D, R, K, G, hfit, cCh⟩ := raw_chain n0 n1 n2 n3 n4 n5 b0 b1 b2 b3 b4 b5 Z
  obtain ⟨vv1, vv2, cc1, cc2⟩ : 1 ≤ V ∧ V ≤ 1024 ∧ 1 ≤ C ∧ C ≤ 8 := ⟨hfit.v1, hfit.v2, hfit.c1, hfit.c2⟩
  have cp1 := fun W => pick10_any sl 100 W bs (by decide) (by decide)
  have cp2 := fun W => pick10_any ix 5 W bi (by decide) (by decide)
  have cp3 := fun W => pick10_any wh 61 W bw (by decide) (by decide)
  have cp4 := fun W => pick10_any sl 1099511627777 W bs (by decide) (by decide)
  have cp5 := fun W => pick10_any ix (C : Int) W bi (by omega) (by omega)
  have cp6 := fun W => pick10_any wh (V : Int) W bw (by omega) (by omega)
  have l2 := pickS_lt ix 5 (by decide)
  have l3 := pickS_lt wh 61 (by decide)
  have l5 := pickS_lt ix (C : Int) (by omega)
  have l6 := pickS_lt wh (V : Int) (by omega)
  generalize pickS sl 100 = s1 at *
  generalize pickS ix 5 = i1 at *
  generalize pickS wh 61 = w1_ at *
  generalize pickS sl 1099511627777 = s2 at *
  generalize pickS ix (C : Int) = i2 at *
  generalize pickS wh (V : Int) = w2_ at *
  clear hfit
  obtain ⟨l1, hl1⟩ : ∃ l1, tl.take 40 = l1 := ⟨_, rfl⟩
  have hm40 : min (tl.length : Int) 40 = (l1.length : Int) := by rw [← hl1, List.length_take]; omega
  have hn40 : l1.length ≤ 40 := by rw [← hl1, List.length_take]; omega
  have hn41 : l1.length ≤ tl.length := by rw [← hl1, List.length_take]; omega
  have hp1 : ∀ W, Prs W W.heap.size (.slice tA tl.length tc) tl → Prs W W.heap.size (.slice tA l1.length tc) l1 := fun W hW => by
    have := hW.first l1.length hn41
    have e : tl.take l1.length = l1 := by rw [← hl1, List.length_take]; by_cases h : 40 ≤ tl.length; rw [Nat.min_eq_left h]; rw [Nat.min_eq_right (by omega), List.take_length, List.take_of_length_le (by omega)]
    rwa [e] at this
  have hlR := tokL_length raw
  have HTK := Lib.hid (fun W (hW : Ints W W.heap.size rv raw) => (show Calls Tryd.prog 21 #[rv, .bool false] W fun o w' => ∃ A c, o = .returned (.agg #[.bool false, .slice A (tokL raw).length c]) ∧ Prs w' w'.heap.size (.slice A (tokL raw).length c) (tokL raw) ∧ Below W.heap.size W w' from (Token_any rv raw false W hW hI hr9).mono fun o w' h => by
    obtain ⟨xv, he, ⟨v', hv', hP⟩, hb⟩ := h
    obtain ⟨A, c, hA, _⟩ := hP.form
    subst hA
    subst hv'
    first | exact ⟨A, c, he, hP, hb⟩ | exact ⟨A, c, he, hP, hb.1⟩))
  clear hI hr9
  generalize tokL raw = lr at *
  have m9 : tl.length ≤ 9223372036854775807 ∧ tc ≤ 9223372036854775807 := by unfold maxLen at htm; omega
  clear hl1 htm
  have B0 := Below.refl w.heap.size w
  go_enter Tryd.func3, Tryd.ntmps3
  go_upto_region 1 with (fail)
  replace B0 := B0.alloc B0.size (.cells #[.int .i64 a0, .int .i64 a1, .int .i64 a2, .int .i64 a3, .int .i64 a4, .int .i64 a5, .int .i64 a6, .int .i64 a7, .int .i64 a8, .int .u64 (za : Int)] 24)
  replace B0 := B0.alloc B0.size (.cells #[.int .i64 n0, .int .i64 n1, .int .i64 n2, .int .i64 n3, .int .i64 n4, .int .i64 n5] 25)
  replace B0 := B0.alloc B0.size (.cells #[.bool tf, .slice tA tl.length tc] 28)
  have qw := RowAt.new w 24 #[.int .i64 a0, .int .i64 a1, .int .i64 a2, .int .i64 a3, .int .i64 a4, .int .i64 a5, .int .i64 a6, .int .i64 a7, .int .i64 a8, .int .u64 (za : Int)]
  replace qw := qw.alloc (.cells #[.int .i64 n0, .int .i64 n1, .int .i64 n2, .int .i64 n3, .int .i64 n4, .int .i64 n5] 25)
  replace qw := qw.alloc (.cells #[.bool tf, .slice tA tl.length tc] 28)
  have q6 := RowAt.new (w.alloc (.cells #[.int .i64 a0, .int .i64 a1, .int .i64 a2, .int .i64 a3, .int .i64 a4, .int .i64 a5, .int .i64 a6, .int .i64 a7, .int .i64 a8, .int .u64 (za : Int)] 24)) 25 #[.int .i64 n0, .int .i64 n1, .int .i64 n2, .int .i64 n3, .int .i64 n4, .int .i64 n5]
  replace q6 := q6.alloc (.cells #[.bool tf, .slice tA tl.length tc] 28)
  rw [World.size_alloc] at q6
  have qt := RowAt.new ((w.alloc (.cells #[.int .i64 a0, .int .i64 a1, .int .i64 a2, .int .i64 a3, .int .i64 a4, .int .i64 a5, .int .i64 a6, .int .i64 a7, .int .i64 a8, .int .u64 (za : Int)] 24)).alloc (.cells #[.int .i64 n0, .int .i64 n1, .int .i64 n2, .int .i64 n3, .int .i64 n4, .int .i64 n5] 25)) 28 #[.bool tf, .slice tA tl.length tc]
  rw [World.size_alloc, World.size_alloc] at qt
  generalize (((w.alloc (.cells #[.int .i64 a0, .int .i64 a1, .int .i64 a2, .int .i64 a3, .int .i64 a4, .int .i64 a5, .int .i64 a6, .int .i64 a7, .int .i64 a8, .int .u64 (za : Int)] 24)).alloc (.cells #[.int .i64 n0, .int .i64 n1, .int .i64 n2, .int .i64 n3, .int .i64 n4, .int .i64 n5] 25)).alloc (.cells #[.bool tf, .slice tA tl.length tc] 28)) = v1_ at *
  go_wp2_with fail
  with_reducible refine (awake10_any _ (hT.on B0)).mono ?_
  rintro o v2_ ⟨rfl, bN⟩
  replace qw := qw.on bN
  replace q6 := q6.on bN
  replace qt := qt.on bN
  replace B0 := B0.trans (bN.mono B0.size)
  clear bN
  have q6_ := q6.cell
  have q6_0 := q6_ 0
  have q6_1 := q6_ 1
  have q6_2 := q6_ 2
  have q6_3 := q6_ 3
  have q6_4 := q6_ 4
  have q6_5 := q6_ 5
  simp only [List.getElem?_cons_zero, List.getElem?_cons_succ] at q6_0 q6_1 q6_2 q6_3 q6_4 q6_5
  clear q6_
  go_wp2_with fail
  with_reducible refine (cCh _).mono ?_
  rintro o v3_ ⟨rfl, bN⟩
  clear q6_0 q6_1 q6_2 q6_3 q6_4 q6_5
  replace qw := qw.on bN
  replace q6 := q6.on bN
  replace qt := qt.on bN
  replace B0 := B0.trans (bN.mono B0.size)
  clear bN
  clear cCh q6
  have hneO := qw.lt
  go_upto_region 3 with (fail)
  have qo := RowAt.new v3_ 24 #[.int .i64 (V : Int), .int .i64 (S : Int), .int .i64 (C : Int), .int .i64 (N : Int), .int .i64 (T : Int), .int .i64 (D : Int), .int .i64 (R : Int), .int .i64 (K : Int), .int .i64 (G : Int), .int .u64 (Z : Int)]
  have bN := (Below.refl v3_.heap.size v3_).alloc (Nat.le_refl _) (.cells #[.int .i64 (V : Int), .int .i64 (S : Int), .int .i64 (C : Int), .int .i64 (N : Int), .int .i64 (T : Int), .int .i64 (D : Int), .int .i64 (R : Int), .int .i64 (K : Int), .int .i64 (G : Int), .int .u64 (Z : Int)] 24)
  replace qw := qw.on bN
  replace qt := qt.on bN
  replace B0 := B0.trans (bN.mono B0.size)
  clear bN
  generalize v3_.alloc (.cells #[.int .i64 (V : Int), .int .i64 (S : Int), .int .i64 (C : Int), .int .i64 (N : Int), .int .i64 (T : Int), .int .i64 (D : Int), .int .i64 (R : Int), .int .i64 (K : Int), .int .i64 (G : Int), .int .u64 (Z : Int)] 24) = v4_ at *
  obtain ⟨gO, hg9⟩ : ∃ gO, gO = v3_.heap.size := ⟨_, rfl⟩
  rw [← hg9] at qo hneO ⊢
  clear hg9
  obtain ⟨w3, hw3⟩ : ∃ w3, w3 = v4_ := ⟨_, rfl⟩
  subst hw3
  go_cut [53] from 46 to 53 (fun bv wx => ∃ bb : Bool, bv = .bool bb ∧ wx = w3)
  case first =>
    have y0 := qw.cell 0
    simp only [List.getElem?_cons_zero] at y0
    by_cases h1 : 200 < a0
    · have g1 : (200 < a0) = True := eq_true h1
      go_wp2_with fail
      go_meet
      exact ⟨_, rfl, rfl⟩
    · have g1 : (200 < a0) = False := eq_false h1
      go_wp2_with fail
      go_meet
      exact ⟨_, rfl, rfl⟩
  case rest =>
   obtain ⟨bb, rfl, rfl⟩ := hcut
   go_upto_if 53 with (fail)
   go_cut [54] from 54 to 54 (fun _ wx => ∃ a0_ : Int, RowAt wx w.heap.size 24 [.int .i64 a0_, .int .i64 a1, .int .i64 a2, .int .i64 a3, .int .i64 a4, .int .i64 a5, .int .i64 a6, .int .i64 a7, .int .i64 a8, .int .u64 (za : Int)] ∧ RowAt wx (w.heap.size + 1 + 1) 28 [.bool tf, .slice tA tl.length tc] ∧ RowAt wx gO 24 [.int .i64 (V : Int), .int .i64 (S : Int), .int .i64 (C : Int), .int .i64 (N : Int), .int .i64 (T : Int), .int .i64 (D : Int), .int .i64 (R : Int), .int .i64 (K : Int), .int .i64 (G : Int), .int .u64 (Z : Int)] ∧ Below w.heap.size w wx)
   case first =>
    cases bb
    · go_wp2_with fail
      go_meet
      exact ⟨a0, qw, qt, qo, B0⟩
    · have y0 := qw.cell 0
      simp only [List.getElem?_cons_zero] at y0
      have f0 := qw.frozen 0
      go_wp2_with fail
      go_meet
      exact ⟨200, qw.set 0 (.int .i64 200), qt.far (p := ⟨w.heap.size, 0, none⟩) (by show w.heap.size + 1 + 1 ≠ w.heap.size; omega) _, qo.far (p := ⟨w.heap.size, 0, none⟩) (by show gO ≠ w.heap.size; omega) _, B0.setCell (p := ⟨w.heap.size, 0, none⟩) (Nat.le_refl _) _⟩
   case rest =>
    clear qw qt qo B0
    obtain ⟨w5, hw5⟩ : ∃ w5, w5 = wc := ⟨_, rfl⟩
    subst hw5
    obtain ⟨a0_, qw, qt, qo, B0⟩ := hcut
    clear hneO
    have qt_ := qt.cell
    have qt_0 := qt_ 0
    have qt_1 := qt_ 1
    simp only [List.getElem?_cons_zero, List.getElem?_cons_succ] at qt_0 qt_1
    clear qt_
    go_upto_region 6 with (fail)
    clear qt_0 qt_1
    have qx := RowAt.new w5 28 #[.bool tf, .slice tA tl.length tc]
    have bA := (Below.refl w5.heap.size w5).alloc (Nat.le_refl _) (.cells #[.bool tf, .slice tA tl.length tc] 28)
    generalize w5.alloc (.cells #[.bool tf, .slice tA tl.length tc] 28) = w6 at *
    have f1 := qx.frozen 1
    have d1 := qx.cell 1
    simp only [List.getElem?_cons_zero, List.getElem?_cons_succ] at d1
    have qtA := qt.on bA
    have z1 := qtA.cell 1
    simp only [List.getElem?_cons_zero, List.getElem?_cons_succ] at z1
    have j1 : ((l1.length : Int) ≤ (tc : Int)) = True := eq_true (by omega)
    have j2 : (l1.length ≤ tc) = True := eq_true (by omega)
    have j3 : ((l1.length : Int) < 0) = False := eq_false (by omega)
    go_upto_region 7 with (fail)
    have bS := bA.setCell (p := ⟨w5.heap.size, 1, none⟩) (Nat.le_refl _) (.slice tA l1.length tc)
    replace qx := qx.set 1 (.slice tA l1.length tc)
    simp only [List.set_cons_zero, List.set_cons_succ] at qx
    clear f1 d1 z1 qtA bA
    replace qw := qw.on bS
    replace qt := qt.on bS
    replace qo := qo.on bS
    replace B0 := B0.trans (bS.mono B0.size)
    generalize w6.setCell ⟨w5.heap.size, 1, none⟩ (.slice tA l1.length tc) = w7 at *
    obtain ⟨gX, hg9⟩ : ∃ g, g = w5.heap.size := ⟨_, rfl⟩
    rw [← hg9] at qx ⊢
    clear hg9 bS qt
    have qw_ := qw.cell
    have qw_0 := qw_ 0
    have qw_1 := qw_ 1
    have qw_2 := qw_ 2
    have qw_3 := qw_ 3
    have qw_4 := qw_ 4
    have qw_5 := qw_ 5
    have qw_6 := qw_ 6
    have qw_7 := qw_ 7
    have qw_8 := qw_ 8
    have qw_9 := qw_ 9
    simp only [List.getElem?_cons_zero, List.getElem?_cons_succ] at qw_0 qw_1 qw_2 qw_3 qw_4 qw_5 qw_6 qw_7 qw_8 qw_9
    clear qw_
    have qo_ := qo.cell
    have qo_0 := qo_ 0
    have qo_1 := qo_ 1
    have qo_2 := qo_ 2
    have qo_3 := qo_ 3
    have qo_4 := qo_ 4
    have qo_5 := qo_ 5
    have qo_6 := qo_ 6
    have qo_7 := qo_ 7
    have qo_8 := qo_ 8
    have qo_9 := qo_ 9
    simp only [List.getElem?_cons_zero, List.getElem?_cons_succ] at qo_0 qo_1 qo_2 qo_3 qo_4 qo_5 qo_6 qo_7 qo_8 qo_9
    clear qo_
    go_upto_region 8 with (fail)
    clear qw_0 qw_1 qw_2 qw_3 qw_4 qw_5 qw_6 qw_7 qw_8 qw_9 qo_0 qo_1 qo_2 qo_3 qo_4 qo_5 qo_6 qo_7 qo_8 qo_9
    have qs := RowAt.new w7 24 #[.int .i64 a0_, .int .i64 a1, .int .i64 a2, .int .i64 a3, .int .i64 a4, .int .i64 a5, .int .i64 a6, .int .i64 a7, .int .i64 a8, .int .u64 (za : Int), .int .i64 (V : Int), .int .i64 (S : Int), .int .i64 (C : Int), .int .i64 (N : Int), .int .i64 (T : Int), .int .i64 (D : Int), .int .i64 (R : Int), .int .i64 (K : Int), .int .i64 (G : Int), .int .u64 (Z : Int)]
    have bN := (Below.refl w7.heap.size w7).alloc (Nat.le_refl _) (.cells #[.int .i64 a0_, .int .i64 a1, .int .i64 a2, .int .i64 a3, .int .i64 a4, .int .i64 a5, .int .i64 a6, .int .i64 a7, .int .i64 a8, .int .u64 (za : Int), .int .i64 (V : Int), .int .i64 (S : Int), .int .i64 (C : Int), .int .i64 (N : Int), .int .i64 (T : Int), .int .i64 (D : Int), .int .i64 (R : Int), .int .i64 (K : Int), .int .i64 (G : Int), .int .u64 (Z : Int)] 24)
    replace qw := qw.on bN
    replace qo := qo.on bN
    replace qx := qx.on bN
    replace B0 := B0.trans (bN.mono B0.size)
    clear bN
    generalize w7.alloc (.cells #[.int .i64 a0_, .int .i64 a1, .int .i64 a2, .int .i64 a3, .int .i64 a4, .int .i64 a5, .int .i64 a6, .int .i64 a7, .int .i64 a8, .int .u64 (za : Int), .int .i64 (V : Int), .int .i64 (S : Int), .int .i64 (C : Int), .int .i64 (N : Int), .int .i64 (T : Int), .int .i64 (D : Int), .int .i64 (R : Int), .int .i64 (K : Int), .int .i64 (G : Int), .int .u64 (Z : Int)] 24) = v11_ at *
    obtain ⟨gS, hg9⟩ : ∃ gS, gS = w7.heap.size := ⟨_, rfl⟩
    rw [← hg9] at qs  ⊢
    clear hg9
    obtain ⟨w8, hw8⟩ : ∃ w8, w8 = v11_ := ⟨_, rfl⟩
    subst hw8
    clear qw
    go_wp2_with fail
    go_loopw [68] (fun iv wr => ∃ m : Nat, m ≤ 2 ∧ iv = .int .i64 (m : Int) ∧ Below w8.heap.size w8 wr) (fun iv _ => 2 - (RowKit.intOf iv).toNat)
    case atStart => exact ⟨0, Nat.zero_le _, rfl, Below.refl _ _⟩
    case round =>
      obtain ⟨m, hm, rfl, hb⟩ := hrel
      obtain ⟨wo, hwo⟩ : ∃ wo, wo = wr := ⟨_, rfl⟩
      subst hwo
      replace qs := qs.on hb
      replace qo := qo.on hb
      replace qx := qx.on hb
      have hT1 := (hT.on B0).on hb
      have hx1 := (hp1 _ (ht.on B0)).on hb
      have hv1 := (hv.on B0).on hb
      by_cases hm2 : m < 2
      · have g1 : ((m : Int) < 2) = True := eq_true (by omega)
        have g1' : (m < 2) = True := eq_true hm2
        obtain ⟨v0, v1, v2, v3, v4, v5, v6, v7, v8, vz, y0, y1, y2, y3, y4, y5, y6, y7, y8, y9⟩ := two_chainsD qs m hm2
        go_upto_region 10 with (fail)
        clear y0 y1 y2 y3 y4 y5 y6 y7 y8 y9
        have qc := RowAt.new wo 24 #[.int .i64 v0, .int .i64 v1, .int .i64 v2, .int .i64 v3, .int .i64 v4, .int .i64 v5, .int .i64 v6, .int .i64 v7, .int .i64 v8, .int .u64 (vz : Int)]
        have bN := (Below.refl wo.heap.size wo).alloc (Nat.le_refl _) (.cells #[.int .i64 v0, .int .i64 v1, .int .i64 v2, .int .i64 v3, .int .i64 v4, .int .i64 v5, .int .i64 v6, .int .i64 v7, .int .i64 v8, .int .u64 (vz : Int)] 24)
        replace qo := qo.on bN
        replace qx := qx.on bN
        replace hx1 := hx1.on bN
        replace hv1 := hv1.on bN
        replace hT1 := hT1.on bN
        replace hb := hb.trans (bN.mono hb.size)
        clear bN
        generalize wo.alloc (.cells #[.int .i64 v0, .int .i64 v1, .int .i64 v2, .int .i64 v3, .int .i64 v4, .int .i64 v5, .int .i64 v6, .int .i64 v7, .int .i64 v8, .int .u64 (vz : Int)] 24) = v21_ at *
        obtain ⟨gC, hg9⟩ : ∃ gC, gC = wo.heap.size := ⟨_, rfl⟩
        rw [← hg9] at qc  ⊢
        clear hg9
        have y0 := qo.laterT 0 _ rfl
        have y2 := qo.laterT 2 _ rfl
        have HP1 := fun p : LaterT v21_ => laterT_same (cp1 p.W)
        have HP2 := fun p : LaterT v21_ => laterT_same (cp2 p.W)
        have HP3 := fun p : LaterT v21_ => laterT_same (cp3 p.W)
        have HP4 := fun p : LaterT v21_ => laterT_same (cp4 p.W)
        have HP5 := fun p : LaterT v21_ => laterT_same (cp5 p.W)
        have HP6 := fun p : LaterT v21_ => laterT_same (cp6 p.W)
        refine wp_region_later_tail1 22 2 (by kernel_rfl) (by kernel_rfl) (by simp only [Nat.reduceAdd, List.getElem?_cons_succ, List.getElem?_cons_zero]; rfl) (.inl ⟨rfl, fun _ => rfl⟩) (by exact fun _ _ _ h => h) ?_
        simp only [List.take_succ_cons, List.take_zero]
        (try simp only [Act.put]); (try simp only [List.setIfInBounds_toArray]); (try simp only [List.set_cons_succ, List.set_cons_zero])
        repeat (go_big_quiet_step (first | (go_at_call 11; (first | with_reducible exact HP1 _ | with_reducible exact HP2 _ | with_reducible exact HP3 _ | with_reducible exact HP4 _ | with_reducible exact HP5 _ | with_reducible exact HP6 _))))
        refine wpQuiet_nil ?_
        intro w' hw'
        obtain ⟨pq, rfl⟩ := hw'
        have bN := pq.h
        replace qo := qo.on bN
        replace qx := qx.on bN
        replace qc := qc.on bN
        replace hx1 := hx1.on bN
        replace hv1 := hv1.on bN
        replace hT1 := hT1.on bN
        replace hb := hb.trans (bN.mono hb.size)
        generalize pq.W = w9 at *
        clear HP1 HP2 HP3 HP4 HP5 HP6 y0 y2 bN pq qo
        simp only [List.drop_succ_cons, List.drop_zero, List.take_succ_cons, List.take_zero]
        go_upto_region 11 with (fail)
        have qk := RowAt.new w9 33 #[.int .i64 sl, .int .i64 ix, .int .i64 wh, .int .i64 (s1 : Int), .int .i64 (i1 : Int), .int .i64 (w1_ : Int), .int .i64 (s2 : Int), .int .i64 (i2 : Int), .int .i64 (w2_ : Int)]
        have bN := (Below.refl w9.heap.size w9).alloc (Nat.le_refl _) (.cells #[.int .i64 sl, .int .i64 ix, .int .i64 wh, .int .i64 (s1 : Int), .int .i64 (i1 : Int), .int .i64 (w1_ : Int), .int .i64 (s2 : Int), .int .i64 (i2 : Int), .int .i64 (w2_ : Int)] 33)
        replace qx := qx.on bN
        replace qc := qc.on bN
        replace hx1 := hx1.on bN
        replace hv1 := hv1.on bN
        replace hT1 := hT1.on bN
        replace hb := hb.trans (bN.mono hb.size)
        clear bN
        generalize w9.alloc (.cells #[.int .i64 sl, .int .i64 ix, .int .i64 wh, .int .i64 (s1 : Int), .int .i64 (i1 : Int), .int .i64 (w1_ : Int), .int .i64 (s2 : Int), .int .i64 (i2 : Int), .int .i64 (w2_ : Int)] 33) = v22_ at *
        obtain ⟨gK, hg9⟩ : ∃ gK, gK = w9.heap.size := ⟨_, rfl⟩
        rw [← hg9] at qk  ⊢
        clear hg9
        obtain ⟨w10, hw10⟩ : ∃ w10, w10 = v22_ := ⟨_, rfl⟩
        subst hw10
        go_wp2_with fail
        go_loopw [96] (fun iv wr => ∃ m : Nat, m ≤ 3 ∧ iv = .int .i64 (m : Int) ∧ Below w10.heap.size w10 wr) (fun iv _ => 3 - (RowKit.intOf iv).toNat)
        case atStart => exact ⟨0, Nat.zero_le _, rfl, Below.refl _ _⟩
        case round =>
          obtain ⟨m', hm', rfl, hb6⟩ := hrel
          obtain ⟨wq, hwq⟩ : ∃ wq, wq = wr := ⟨_, rfl⟩
          subst hwq
          replace qk := qk.on hb6
          replace qc := qc.on hb6
          replace qx := qx.on hb6
          replace hT1 := hT1.on hb6
          replace hx1 := hx1.on hb6
          replace hv1 := hv1.on hb6
          by_cases hm3 : m' < 3
          · have g2 : ((m' : Int) < 3) = True := eq_true (by omega)
            have g2' : (m' < 3) = True := eq_true hm3
            obtain ⟨kx, ky, kz, hky, hkz, y0, y1, y2⟩ := three_k qk bi bw ⟨by omega, by omega⟩ ⟨by omega, by omega⟩ ⟨by omega, by omega⟩ ⟨by omega, by omega⟩ m' hm3
            go_upto_region 13 with (fail)
            clear y0 y1 y2
            have qz := RowAt.new wq 33 #[.int .i64 kx, .int .i64 ky, .int .i64 kz]
            have bN := (Below.refl wq.heap.size wq).alloc (Nat.le_refl _) (.cells #[.int .i64 kx, .int .i64 ky, .int .i64 kz] 33)
            replace qc := qc.on bN
            replace qx := qx.on bN
            replace hx1 := hx1.on bN
            replace hv1 := hv1.on bN
            replace hT1 := hT1.on bN
            replace hb6 := hb6.trans (bN.mono hb6.size)
            clear bN
            generalize wq.alloc (.cells #[.int .i64 kx, .int .i64 ky, .int .i64 kz] 33) = v41_ at *
            obtain ⟨gZ, hg9⟩ : ∃ gZ, gZ = wq.heap.size := ⟨_, rfl⟩
            rw [← hg9] at qz  ⊢
            clear hg9
            obtain ⟨LM, em, hLM9, cM, rM⟩ := mem_both v0 v1 v2 v3 v4 v5 v6 v7 v8 (vz : Int) kx ky vz rfl
            obtain ⟨sa, es, cS, rS⟩ := sub_both v0 v1 v2 v3 v4 v5 v6 v7 v8 (vz : Int) kx ky vz rfl
            obtain ⟨wa, wb, wc_, ew, cW, rW⟩ := where_both v0 v1 v2 v3 v4 v5 v6 v7 v8 (vz : Int) kx kz vz rfl
            obtain ⟨uk, huk⟩ := Int.eq_ofNat_of_zero_le (show 0 ≤ IntKind.u64.wrap kx by rw [IntKind.wrap_u64]; omega)
            have cR := fun W (hW : Both W) => SlotRoot_any kx uk huk W hW.1
            have rR := fun W => rSlotRoot_any kx uk huk W
            clear huk
            have qc_ := qc.cell
            have qc_0 := qc_ 0
            have qc_1 := qc_ 1
            have qc_2 := qc_ 2
            have qc_3 := qc_ 3
            have qc_4 := qc_ 4
            have qc_5 := qc_ 5
            have qc_6 := qc_ 6
            have qc_7 := qc_ 7
            have qc_8 := qc_ 8
            have qc_9 := qc_ 9
            simp only [List.getElem?_cons_zero, List.getElem?_cons_succ] at qc_0 qc_1 qc_2 qc_3 qc_4 qc_5 qc_6 qc_7 qc_8 qc_9
            clear qc_
            have qz_ := qz.cell
            have qz_0 := qz_ 0
            have qz_1 := qz_ 1
            have qz_2 := qz_ 2
            simp only [List.getElem?_cons_zero, List.getElem?_cons_succ] at qz_0 qz_1 qz_2
            clear qz_
            go_wp2_with fail
            with_reducible refine (cM _ hT1).mono ?_
            rintro o v42_ ⟨A1, c1, rfl, hL1, bN⟩
            clear qc_0 qc_1 qc_2 qc_3 qc_4 qc_5 qc_6 qc_7 qc_8 qc_9 qz_0 qz_1 qz_2
            replace qc := qc.on bN
            replace qx := qx.on bN
            replace qz := qz.on bN
            replace hx1 := hx1.on bN
            replace hv1 := hv1.on bN
            replace hT1 := hT1.on bN
            replace hb6 := hb6.trans (bN.mono hb6.size)
            clear bN
            go_upto_region 14 with (fail)
            have qc_ := qc.cell
            have qc_0 := qc_ 0
            have qc_1 := qc_ 1
            have qc_2 := qc_ 2
            have qc_3 := qc_ 3
            have qc_4 := qc_ 4
            have qc_5 := qc_ 5
            have qc_6 := qc_ 6
            have qc_7 := qc_ 7
            have qc_8 := qc_ 8
            have qc_9 := qc_ 9
            simp only [List.getElem?_cons_zero, List.getElem?_cons_succ] at qc_0 qc_1 qc_2 qc_3 qc_4 qc_5 qc_6 qc_7 qc_8 qc_9
            clear qc_
            have qz_ := qz.cell
            have qz_0 := qz_ 0
            have qz_1 := qz_ 1
            have qz_2 := qz_ 2
            simp only [List.getElem?_cons_zero, List.getElem?_cons_succ] at qz_0 qz_1 qz_2
            clear qz_
            go_wp2_with fail
            with_reducible refine (rM _).mono ?_
            rintro o v43_ ⟨A2, c2, rfl, hL2, bN⟩
            clear qc_0 qc_1 qc_2 qc_3 qc_4 qc_5 qc_6 qc_7 qc_8 qc_9 qz_0 qz_1 qz_2
            replace qc := qc.on bN
            replace qx := qx.on bN
            replace qz := qz.on bN
            replace hx1 := hx1.on bN
            replace hv1 := hv1.on bN
            replace hL1 := hL1.on bN
            replace hT1 := hT1.on bN
            replace hb6 := hb6.trans (bN.mono hb6.size)
            clear bN
            go_upto_region 15 with (fail)
            have qc_ := qc.cell
            have qc_0 := qc_ 0
            have qc_1 := qc_ 1
            have qc_2 := qc_ 2
            have qc_3 := qc_ 3
            have qc_4 := qc_ 4
            have qc_5 := qc_ 5
            have qc_6 := qc_ 6
            have qc_7 := qc_ 7
            have qc_8 := qc_ 8
            have qc_9 := qc_ 9
            simp only [List.getElem?_cons_zero, List.getElem?_cons_succ] at qc_0 qc_1 qc_2 qc_3 qc_4 qc_5 qc_6 qc_7 qc_8 qc_9
            clear qc_
            have qz_ := qz.cell
            have qz_0 := qz_ 0
            have qz_1 := qz_ 1
            have qz_2 := qz_ 2
            simp only [List.getElem?_cons_zero, List.getElem?_cons_succ] at qz_0 qz_1 qz_2
            clear qz_
            go_wp2_with fail
            with_reducible refine (cS _ hT1).mono ?_
            rintro o v44_ ⟨rfl, bN⟩
            clear qc_0 qc_1 qc_2 qc_3 qc_4 qc_5 qc_6 qc_7 qc_8 qc_9 qz_0 qz_1 qz_2
            replace qc := qc.on bN
            replace qx := qx.on bN
            replace qz := qz.on bN
            replace hx1 := hx1.on bN
            replace hv1 := hv1.on bN
            replace hL1 := hL1.on bN
            replace hL2 := hL2.on bN
            replace hT1 := hT1.on bN
            replace hb6 := hb6.trans (bN.mono hb6.size)
            clear bN
            go_upto_region 16 with (fail)
            have qc_ := qc.cell
            have qc_0 := qc_ 0
            have qc_1 := qc_ 1
            have qc_2 := qc_ 2
            have qc_3 := qc_ 3
            have qc_4 := qc_ 4
            have qc_5 := qc_ 5
            have qc_6 := qc_ 6
            have qc_7 := qc_ 7
            have qc_8 := qc_ 8
            have qc_9 := qc_ 9
            simp only [List.getElem?_cons_zero, List.getElem?_cons_succ] at qc_0 qc_1 qc_2 qc_3 qc_4 qc_5 qc_6 qc_7 qc_8 qc_9
            clear qc_
            have qz_ := qz.cell
            have qz_0 := qz_ 0
            have qz_1 := qz_ 1
            have qz_2 := qz_ 2
            simp only [List.getElem?_cons_zero, List.getElem?_cons_succ] at qz_0 qz_1 qz_2
            clear qz_
            go_wp2_with fail
            with_reducible refine (rS _).mono ?_
            rintro o v45_ ⟨rfl, bN⟩
            clear qc_0 qc_1 qc_2 qc_3 qc_4 qc_5 qc_6 qc_7 qc_8 qc_9 qz_0 qz_1 qz_2
            replace qc := qc.on bN
            replace qx := qx.on bN
            replace qz := qz.on bN
            replace hx1 := hx1.on bN
            replace hv1 := hv1.on bN
            replace hL1 := hL1.on bN
            replace hL2 := hL2.on bN
            replace hT1 := hT1.on bN
            replace hb6 := hb6.trans (bN.mono hb6.size)
            clear bN
            go_upto_region 17 with (fail)
            have qc_ := qc.cell
            have qc_0 := qc_ 0
            have qc_1 := qc_ 1
            have qc_2 := qc_ 2
            have qc_3 := qc_ 3
            have qc_4 := qc_ 4
            have qc_5 := qc_ 5
            have qc_6 := qc_ 6
            have qc_7 := qc_ 7
            have qc_8 := qc_ 8
            have qc_9 := qc_ 9
            simp only [List.getElem?_cons_zero, List.getElem?_cons_succ] at qc_0 qc_1 qc_2 qc_3 qc_4 qc_5 qc_6 qc_7 qc_8 qc_9
            clear qc_
            have qz_ := qz.cell
            have qz_0 := qz_ 0
            have qz_1 := qz_ 1
            have qz_2 := qz_ 2
            simp only [List.getElem?_cons_zero, List.getElem?_cons_succ] at qz_0 qz_1 qz_2
            clear qz_
            go_wp2_with fail
            with_reducible refine (cW _ hT1).mono ?_
            rintro o v46_ ⟨rfl, bN⟩
            clear qc_0 qc_1 qc_2 qc_3 qc_4 qc_5 qc_6 qc_7 qc_8 qc_9 qz_0 qz_1 qz_2
            replace qc := qc.on bN
            replace qx := qx.on bN
            replace qz := qz.on bN
            replace hx1 := hx1.on bN
            replace hv1 := hv1.on bN
            replace hL1 := hL1.on bN
            replace hL2 := hL2.on bN
            replace hT1 := hT1.on bN
            replace hb6 := hb6.trans (bN.mono hb6.size)
            clear bN
            go_upto_region 18 with (fail)
            have qc_ := qc.cell
            have qc_0 := qc_ 0
            have qc_1 := qc_ 1
            have qc_2 := qc_ 2
            have qc_3 := qc_ 3
            have qc_4 := qc_ 4
            have qc_5 := qc_ 5
            have qc_6 := qc_ 6
            have qc_7 := qc_ 7
            have qc_8 := qc_ 8
            have qc_9 := qc_ 9
            simp only [List.getElem?_cons_zero, List.getElem?_cons_succ] at qc_0 qc_1 qc_2 qc_3 qc_4 qc_5 qc_6 qc_7 qc_8 qc_9
            clear qc_
            have qz_ := qz.cell
            have qz_0 := qz_ 0
            have qz_1 := qz_ 1
            have qz_2 := qz_ 2
            simp only [List.getElem?_cons_zero, List.getElem?_cons_succ] at qz_0 qz_1 qz_2
            clear qz_
            go_wp2_with fail
            with_reducible refine (rW _).mono ?_
            rintro o v47_ ⟨rfl, bN⟩
            clear qc_0 qc_1 qc_2 qc_3 qc_4 qc_5 qc_6 qc_7 qc_8 qc_9 qz_0 qz_1 qz_2
            replace qc := qc.on bN
            replace qx := qx.on bN
            replace qz := qz.on bN
            replace hx1 := hx1.on bN
            replace hv1 := hv1.on bN
            replace hL1 := hL1.on bN
            replace hL2 := hL2.on bN
            replace hT1 := hT1.on bN
            replace hb6 := hb6.trans (bN.mono hb6.size)
            clear bN
            go_upto_region 19 with (fail)
            have y0 := qz.later7 0 _ rfl
            have HI1 := fun p : Later v47_ => later_of (p := p) (Ints_same _ _ LM p.W (hL1.on p.h) (hL2.on p.h) hLM9)
            have HR1 := fun p : Later v47_ => later_of (p := p) (cR p.W (hT1.on p.h))
            have HR2 := fun p : Later v47_ => later_of (p := p) (rR p.W)
            have bn0 : (em != em) = false := by simp
            refine wp_region_later (by kernel_rfl) (by kernel_rfl) ?_
            repeat (go_big_quiet_step (first | (go_at_call 18; with_reducible exact HI1 _) | (go_at_call 19; with_reducible exact HR1 _) | (go_at_call 20; with_reducible exact HR2 _)))
            refine wpQuiet_nil ?_
            intro w' hw'
            obtain ⟨pq, rfl⟩ := hw'
            have bN := pq.h
            replace qc := qc.on bN
            replace qx := qx.on bN
            replace qz := qz.on bN
            replace hx1 := hx1.on bN
            replace hv1 := hv1.on bN
            replace hT1 := hT1.on bN
            replace hb6 := hb6.trans (bN.mono hb6.size)
            generalize pq.W = w19 at *
            clear HI1 HR1 HR2 y0 bN pq hL1 hL2 cM rM cS rS cW rW cR rR
            go_upto_region 21 with (fail)
            go_cut [209, 210, 211] from 206 to 211 (fun rw nw iw wx => ∃ (g : Nat) (A3 : Option Addr) (c3 : Nat), rw = .slice (some ⟨g, 0, none⟩) 2 2 ∧ nw = .int .i64 2 ∧ iw = .int .i64 0 ∧ RowAt wx g 28 [.bool tf, .slice tA l1.length tc, .bool false, .slice A3 lr.length c3] ∧ Prs wx wx.heap.size (.slice A3 lr.length c3) lr ∧ Below w19.heap.size w19 wx)
            case first =>
              have cT1 := HTK.out _ (show Ints w19.drew w19.drew.heap.size _ _ from hv1)
              obtain ⟨y0, y1⟩ := qx.two
              go_region_held3 (fun w' => w'.cell? ⟨gX, 0, none⟩ = some (.bool tf) ∧ w'.cell? ⟨gX, 1, none⟩ = some (.slice tA l1.length tc)) (first | assumption | exact ⟨y0, y1⟩ | exact hz | exact ⟨cellA hz.1 _, cellA hz.2 _⟩ | go_keep)
                (first | ((with_reducible refine cT1.mono ?_); rintro o wT ⟨A3, c3, rfl, tT, bT'⟩; have bT := ((Below.refl w19.heap.size w19).drew).trans bT'; have hz := (qx.on bT).two))
              all_goals
                go_simp
                go_wp2_with fail
                go_meet
                have ba := (Below.refl wT.heap.size wT).alloc (Nat.le_refl _) (.cells #[.bool tf, .slice tA l1.length tc, .bool false, .slice A3 lr.length c3] 28)
                exact ⟨_, A3, c3, rfl, rfl, rfl, RowAt.new wT 28 #[.bool tf, .slice tA l1.length tc, .bool false, .slice A3 lr.length c3], tT.on ba, bT.trans (ba.mono bT.size)⟩
            case rest =>
              obtain ⟨w20, hw20⟩ : ∃ w20, w20 = wc := ⟨_, rfl⟩
              subst hw20
              obtain ⟨gU, A3, c3, rfl, rfl, rfl, qu, hx3, b20⟩ := hcut
              replace qc := qc.on b20
              replace qz := qz.on b20
              replace hT1 := hT1.on b20
              replace hx1 := hx1.on b20
              replace hb6 := hb6.trans (b20.mono hb6.size)
              clear b20 qx
              go_wp2_with fail
              go_loopw [211] (fun iv wr => ∃ m : Nat, m ≤ 2 ∧ iv = .int .i64 (m : Int) ∧ Below w20.heap.size w20 wr) (fun iv _ => 2 - (RowKit.intOf iv).toNat)
              case atStart => exact ⟨0, Nat.zero_le _, rfl, Below.refl _ _⟩
              case round =>
                obtain ⟨j, hj, rfl, hb8⟩ := hrel
                replace qu := qu.on hb8
                replace qc := qc.on hb8
                replace qz := qz.on hb8
                replace hT1 := hT1.on hb8
                replace hx1 := hx1.on hb8
                replace hx3 := hx3.on hb8
                by_cases hj2 : j < 2
                · have g3 : ((j : Int) < 2) = True := eq_true (by omega)
                  have g3' : (j < 2) = True := eq_true hj2
                  obtain ⟨tf', tA', tc', tl', htl', hxx, y0, y1⟩ := two_toksD qu hx1 hx3 hn40 (by omega) j hj2
                  go_upto_region 24 with (fail)
                  clear y0 y1
                  have q41 := RowAt.new wr 28 #[.bool tf', .slice tA' tl'.length tc']
                  have bN := (Below.refl wr.heap.size wr).alloc (Nat.le_refl _) (.cells #[.bool tf', .slice tA' tl'.length tc'] 28)
                  replace qc := qc.on bN
                  replace qz := qz.on bN
                  replace hxx := hxx.on bN
                  replace hT1 := hT1.on bN
                  replace hb8 := hb8.trans (bN.mono hb8.size)
                  clear bN
                  generalize wr.alloc (.cells #[.bool tf', .slice tA' tl'.length tc'] 28) = v81_ at *
                  obtain ⟨g41, hg9⟩ : ∃ g41, g41 = wr.heap.size := ⟨_, rfl⟩
                  rw [← hg9] at q41  ⊢
                  clear hg9
                  have y0 := qc.later7 0 _ rfl
                  have y1 := qc.later7 1 _ rfl
                  have y2 := qc.later7 2 _ rfl
                  have y3 := qc.later7 3 _ rfl
                  have y4 := qc.later7 4 _ rfl
                  have y5 := qc.later7 5 _ rfl
                  have y6 := qc.later7 6 _ rfl
                  have y7 := qc.later7 7 _ rfl
                  have y8 := qc.later7 8 _ rfl
                  have y9 := qc.later7 9 _ rfl
                  have z0 := qz.later7 0 _ rfl
                  have z1 := qz.later7 1 _ rfl
                  have z2 := qz.later7 2 _ rfl
                  have u0_ := q41.later7 0 _ rfl
                  have u1_ := q41.later7 1 _ rfl
                  have htm' : tl'.length ≤ maxLen := by unfold maxLen; omega
                  obtain ⟨bY, cY, rY⟩ := sel_both v0 v1 v2 v3 v4 v5 v6 v7 v8 (vz : Int) ky vz rfl tf' tl' htm' (enc_short htl') hky
                  obtain ⟨bZ, cZ, rZ⟩ := sel_both v0 v1 v2 v3 v4 v5 v6 v7 v8 (vz : Int) kz vz rfl tf' tl' htm' (enc_short htl') hkz
                  have HY1 := fun p : Later v81_ => later_of (p := p) (cY tA' tc' p.W (hT1.on p.h) (hxx.on p.h))
                  have HY2 := fun p : Later v81_ => later_of (p := p) (rY tA' tc' p.W (hxx.on p.h))
                  have HZ1 := fun p : Later v81_ => later_of (p := p) (cZ tA' tc' p.W (hT1.on p.h) (hxx.on p.h))
                  have HZ2 := fun p : Later v81_ => later_of (p := p) (rZ tA' tc' p.W (hxx.on p.h))
                  have bn1 : (bY != bY) = false := by simp
                  have bn2 : (bZ != bZ) = false := by simp
                  clear cY rY cZ rZ
                  refine wp_region_later (by kernel_rfl) (by kernel_rfl) ?_
                  repeat (go_big_quiet_step (first | (go_at_call 22; (first | with_reducible exact HY1 _ | with_reducible exact HZ1 _)) | (go_at_call 23; (first | with_reducible exact HY2 _ | with_reducible exact HZ2 _))))
                  refine wpQuiet_nil ?_
                  intro w' hw'
                  obtain ⟨pq, rfl⟩ := hw'
                  go_wp2_with fail
                  go_roundw
                  case rel => exact ⟨j + 1, by omega, by go_num, hb8.trans (pq.h.mono hb8.size)⟩
                  case measure => simp [RowKit.intOf]; omega
                · obtain rfl : j = 2 := by omega
                  go_wp2_with fail
                  go_roundw
                  case rel => exact ⟨m' + 1, by omega, by go_num, hb6.trans (hb8.mono hb6.size)⟩
                  case measure => simp [RowKit.intOf]; omega
          · obtain rfl : m' = 3 := by omega
            go_wp2_with fail
            go_roundw
            case rel => exact ⟨m + 1, by omega, by go_num, hb.trans (hb6.mono hb.size)⟩
            case measure => simp [RowKit.intOf]; omega
      · obtain rfl : m = 2 := by omega
        go_wp2_with fail
        go_ret
        exact ⟨rfl, B0.trans (hb.mono B0.size)⟩
theorem dtells_calls (a0 a1 a2 a3 a4 a5 a6 a7 a8 : Int) (za : Nat) {n0 n1 n2 n3 n4 n5 : Int} (b0 : I64K n0) (b1 : I64K n1) (b2 : I64K n2) (b3 : I64K n3) (b4 : I64K n4) (b5 : I64K n5) (c2 : Int) (w2 : (Lit.int .u64 c2).wf = true) (c3 : Int) (w3 : (Lit.int .i64 c3).wf = true) (c4 : Int) (w4 : (Lit.int .i64 c4).wf = true) (c5 : Int) (w5 : (Lit.int .i64 c5).wf = true)
    (tf : Bool) (tl : List Pr) (tA : Option Addr) (tc : Nat) {w : World} (ht : Tk w (.agg #[.bool tf, .slice tA tl.length tc]) tf tl) (htc : tl.length ≤ tc) (htm : tc ≤ maxLen) (raw : List Int) (rv : Value) (hv : Ints w w.heap.size rv raw) (hI : ∀ r ∈ raw, -9223372036854775808 ≤ r ∧ r ≤ 9223372036854775807) (hr9 : raw.length ≤ maxLen) (hT : Both w) :
    Calls Tryd.prog 3 #[.agg #[.int .i64 a0, .int .i64 a1, .int .i64 a2, .int .i64 a3, .int .i64 a4, .int .i64 a5, .int .i64 a6, .int .i64 a7, .int .i64 a8, .int .u64 (za : Int)], .agg #[.int .i64 n0, .int .i64 n1, .int .i64 n2, .int .i64 n3, .int .i64 n4, .int .i64 n5], .int .u64 c2, .int .i64 c3, .int .i64 c4, .int .i64 c5, .agg #[.bool tf, .slice tA tl.length tc], rv] w fun o w' => o = .returned (.bool true) ∧ Below w.heap.size w w' := by
  have h2 := bounds_u64 w2
  obtain ⟨k2, rfl⟩ := Int.eq_ofNat_of_zero_le h2.1
  obtain ⟨v', hv', hP⟩ := ht
  obtain rfl : v' = .slice tA tl.length tc := by cases hv'; rfl
  exact dtells_walk a0 a1 a2 a3 a4 a5 a6 a7 a8 za n0 n1 n2 n3 n4 n5 c3 c4 c5 k2 b0 b1 b2 b3 b4 b5 (bounds_i64 w3) (bounds_i64 w4) (bounds_i64 w5) tf tl tA tc rv raw w hP htc htm hv hI hr9 hT
end Go.Proofs.YtjipibpcnheniaaDoor
