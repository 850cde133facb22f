/- The walk of SchedMany. -/
import Derived.Test.YthlajfoipafaaaaDoorSchF
import Derived.OpenShut
import Derived.Deep.RegionHeld3
import Derived.Deep.CutRange
import Derived.Deep.LoopGhost
namespace Go.Proofs.YthlajfoipafaaaaDoor
open Go.RowKit Go.Lib

theorem cs13 {W : World} {gC gP : Nat} {t u : TypeId} {c0 c1 c2 c3 c4 c5 c6 c7 c8 c9 p0 p1 p2 : Value} (h : RowAt W gC t [c0, c1, c2, c3, c4, c5, c6, c7, c8, c9]) (h' : RowAt W gP u [p0, p1, p2]) :
    W.cell? ⟨gC, 0, none⟩ = some c0 ∧ W.cell? ⟨gC, 1, none⟩ = some c1 ∧ W.cell? ⟨gC, 2, none⟩ = some c2 ∧ W.cell? ⟨gC, 3, none⟩ = some c3 ∧ W.cell? ⟨gC, 4, none⟩ = some c4 ∧ W.cell? ⟨gC, 5, none⟩ = some c5 ∧ W.cell? ⟨gC, 6, none⟩ = some c6 ∧ W.cell? ⟨gC, 7, none⟩ = some c7 ∧ W.cell? ⟨gC, 8, none⟩ = some c8 ∧ W.cell? ⟨gC, 9, none⟩ = some c9 ∧
    W.cell? ⟨gP, 0, none⟩ = some p0 ∧ W.cell? ⟨gP, 1, none⟩ = some p1 ∧ W.cell? ⟨gP, 2, none⟩ = some p2 :=
  ⟨h.cell 0, h.cell 1, h.cell 2, h.cell 3, h.cell 4, h.cell 5, h.cell 6, h.cell 7, h.cell 8, h.cell 9, h'.cell 0, h'.cell 1, h'.cell 2⟩
theorem bt_stored {w : World} {h v : Value} {n : Int} {l : List Int} {g lo : Nat} (hb : Bt w (.agg #[h, v]) n l) (hf : FromOn lo v) (hg : g < lo) (u u' : Value) : Bt ((w.setCell ⟨g, 0, none⟩ u).setCell ⟨g, 1, none⟩ u') (.agg #[h, v]) n l := by
  obtain ⟨v', hv, hI⟩ := hb
  obtain ⟨rfl, rfl⟩ : h = .int .i64 n ∧ v = v' := by cases hv; exact ⟨rfl, rfl⟩
  exact ⟨_, rfl, ints_store2s hI hf hg u u'⟩
/-- How often the subnets that are on begin, of the first i. -/
def cntB (N f k i : Nat) : Nat := if 0 < k ∧ k < N ∧ f < i then 1 else 0
theorem cntB_yes {N f k i : Nat} (hf : f < N) (hi : i < N) (h : (onB N f k i && !onB N f k ((i + N - 1) % N)) = true) : cntB N f k (i + 1) = cntB N f k i + 1 := by
  rw [begins_iff hf hi] at h
  simp only [Bool.and_eq_true, decide_eq_true_eq] at h
  unfold cntB
  rw [if_pos (by omega), if_neg (by omega)]
theorem cntB_no {N f k i : Nat} (hf : f < N) (hi : i < N) (h : (onB N f k i && !onB N f k ((i + N - 1) % N)) = false) : cntB N f k (i + 1) = cntB N f k i := by
  rw [begins_iff hf hi] at h
  simp only [Bool.and_eq_false_iff, decide_eq_false_iff_not] at h
  unfold cntB
  split <;> split <;> omega
theorem cntB_le (N f k i : Nat) : cntB N f k i ≤ 1 := by unfold cntB; split <;> omega

set_option maxHeartbeats 8000000 in
set_option maxRecDepth 100000 in
theorem smany_walk (n0 n1 n2 n3 n4 n5 kp pr ep : Int) (U : Nat) (b0 : I64K n0) (b1 : I64K n1) (b2 : I64K n2) (b3 : I64K n3) (b4 : I64K n4) (b5 : I64K n5) (bk : I64K kp) (bp : I64K pr) (be : I64K ep) (w : World) (hT : Both w) :
    Calls Tryd.prog 5 #[.agg #[.int .i64 n0, .int .i64 n1, .int .i64 n2, .int .i64 n3, .int .i64 n4, .int .i64 n5], .int .u64 (U : Int), .int .i64 kp, .int .i64 pr, .int .i64 ep] w fun o w' => o = .returned (.bool true) ∧ Below w.heap.size w w' := by
  obtain ⟨V, S, C, N, T, D, R, K, G, hfit, cCh⟩ := raw_chain11 n0 n1 n2 n3 n4 n5 b0 b1 b2 b3 b4 b5 3
  obtain ⟨nn1, nn2⟩ : 1 ≤ N ∧ N ≤ 64 := ⟨hfit.n1, hfit.n2⟩
  have q12 := pickS_lt kp 12 (by decide)
  have p9 := pickS_lt pr 9 (by decide)
  obtain ⟨Q, hQ⟩ : ∃ Q, pickS kp 12 = Q := ⟨_, rfl⟩
  obtain ⟨P, hP⟩ : ∃ P, 1 + pickS pr 9 = P := ⟨_, rfl⟩
  have cPl := fun W => Plan_any U Q P kp pr W bk bp hQ hP
  have hQ2 : Q < 12 := by omega
  have p1 : 1 ≤ P := by omega
  have p2 : P ≤ 9 := by omega
  have hpl : FitP Q P := ⟨by omega, p1, by omega⟩
  have hx9 := pickS_lt ep 1073741824 (by decide)
  have cE := fun W => pick11_any ep 1073741824 W be (by decide) (by decide)
  generalize pickS ep 1073741824 = x at *
  clear hQ hP q12 p9
  have hf9 := firstN_lt N K U (blkN U P x) nn1
  obtain ⟨L, hL⟩ : ∃ L, netsI N (firstN N K U (blkN U P x)) Q = L := ⟨_, rfl⟩
  have cN0 : ∀ W, Both W → Calls Tryd.prog 14 #[.agg #[.int .i64 (V : Int), .int .i64 (S : Int), .int .i64 (C : Int), .int .i64 (N : Int), .int .i64 (T : Int), .int .i64 (D : Int), .int .i64 (R : Int), .int .i64 (K : Int), .int .i64 (G : Int), .int .u64 3], .agg #[.int .u64 (U : Int), .int .i64 (Q : Int), .int .i64 (P : Int)], .int .i64 (x : Int)] W fun o w' => ∃ A c, o = .returned (.tuple #[.agg #[.int .i64 (N : Int), .slice A L.length c], .int .i64 0]) ∧ Bt w' (.agg #[.int .i64 (N : Int), .slice A L.length c]) N L ∧ FromOn W.heap.size (.slice A L.length c) ∧ Below W.heap.size W w' := fun W hW =>
    sNets_yes V S C N T D R K G U Q P x 3 W hfit hpl (by omega) hW L hL
  have hRt := netsI_right N (firstN N K U (blkN U P x)) Q (by omega)
  have hLn := netsI_len hf9 Q
  have HHas0 := fun (i : Nat) => netsI_has N (firstN N K U (blkN U P x)) Q i (by omega)
  generalize firstN N K U (blkN U P x) = f at *
  rw [hL] at hRt hLn HHas0
  have HHas := Lib.hid HHas0
  obtain ⟨mq, hmq⟩ : ∃ mq, min Q N = mq := ⟨_, rfl⟩
  have e1 : min (Q : Int) (N : Int) = (mq : Int) := by omega
  have hLm : L.length = mq := by rw [hLn, hmq]
  have hmq9 : mq ≤ 12 ∧ mq ≤ N := by omega
  have hL9 : L.length ≤ maxLen := by unfold maxLen; omega
  have cN := cN0
  rw [hLm] at cN
  have HL9 := Lib.hid hL9
  have HMQ := Lib.hid hmq
  clear cN0 hLm hLn hmq hL hfit hpl hL9 HHas0
  have B0 := Below.refl w.heap.size w
  go_enter Tryd.func5, Tryd.ntmps5
  go_upto_region 1 with (fail)
  have q6 := RowAt.new w 27 #[.int .i64 n0, .int .i64 n1, .int .i64 n2, .int .i64 n3, .int .i64 n4, .int .i64 n5]
  have bN := (Below.refl w.heap.size w).alloc (Nat.le_refl _) (.cells #[.int .i64 n0, .int .i64 n1, .int .i64 n2, .int .i64 n3, .int .i64 n4, .int .i64 n5] 27)
  replace hT := hT.on bN
  replace B0 := B0.trans (bN.mono B0.size)
  clear bN
  generalize w.alloc (.cells #[.int .i64 n0, .int .i64 n1, .int .i64 n2, .int .i64 n3, .int .i64 n4, .int .i64 n5] 27) = v1_ at *
  obtain ⟨g6, hg9⟩ : ∃ g6, g6 = w.heap.size := ⟨_, rfl⟩
  rw [← hg9] at q6 ⊢
  clear hg9
  go_wp2_with fail
  with_reducible refine (awake11_any _ hT).mono ?_
  rintro o v2_ ⟨rfl, bN⟩
  replace q6 := q6.on bN
  replace hT := hT.on bN
  replace B0 := B0.trans (bN.mono B0.size)
  clear bN
  have q6_ := q6.cell
  have q6_0 := q6_ 0
  have q6_1 := q6_ 1
  have q6_2 := q6_ 2
  have q6_3 := q6_ 3
  have q6_4 := q6_ 4
  have q6_5 := q6_ 5
  simp only [List.getElem?_cons_zero, List.getElem?_cons_succ] at q6_0 q6_1 q6_2 q6_3 q6_4 q6_5
  clear q6_
  go_wp2_with fail
  with_reducible refine (cCh _).mono ?_
  rintro o v3_ ⟨rfl, bN⟩
  clear q6_0 q6_1 q6_2 q6_3 q6_4 q6_5
  replace q6 := q6.on bN
  replace hT := hT.on bN
  replace B0 := B0.trans (bN.mono B0.size)
  clear bN
  clear cCh q6
  go_upto_region 3 with (fail)
  have qc := RowAt.new v3_ 24 #[.int .i64 (V : Int), .int .i64 (S : Int), .int .i64 (C : Int), .int .i64 (N : Int), .int .i64 (T : Int), .int .i64 (D : Int), .int .i64 (R : Int), .int .i64 (K : Int), .int .i64 (G : Int), .int .u64 3]
  have bN := (Below.refl v3_.heap.size v3_).alloc (Nat.le_refl _) (.cells #[.int .i64 (V : Int), .int .i64 (S : Int), .int .i64 (C : Int), .int .i64 (N : Int), .int .i64 (T : Int), .int .i64 (D : Int), .int .i64 (R : Int), .int .i64 (K : Int), .int .i64 (G : Int), .int .u64 3] 24)
  replace hT := hT.on bN
  replace B0 := B0.trans (bN.mono B0.size)
  clear bN
  generalize v3_.alloc (.cells #[.int .i64 (V : Int), .int .i64 (S : Int), .int .i64 (C : Int), .int .i64 (N : Int), .int .i64 (T : Int), .int .i64 (D : Int), .int .i64 (R : Int), .int .i64 (K : Int), .int .i64 (G : Int), .int .u64 3] 24) = v4_ at *
  obtain ⟨gC, hg9⟩ : ∃ gC, gC = v3_.heap.size := ⟨_, rfl⟩
  rw [← hg9] at qc ⊢
  clear hg9
  go_wp2_with fail
  with_reducible refine (cPl _).mono ?_
  rintro o v5_ ⟨rfl, bN⟩
  replace qc := qc.on bN
  replace hT := hT.on bN
  replace B0 := B0.trans (bN.mono B0.size)
  clear bN
  clear cPl
  go_upto_region 4 with (fail)
  have qp := RowAt.new v5_ 26 #[.int .u64 (U : Int), .int .i64 (Q : Int), .int .i64 (P : Int)]
  have bN := (Below.refl v5_.heap.size v5_).alloc (Nat.le_refl _) (.cells #[.int .u64 (U : Int), .int .i64 (Q : Int), .int .i64 (P : Int)] 26)
  replace qc := qc.on bN
  replace hT := hT.on bN
  replace B0 := B0.trans (bN.mono B0.size)
  clear bN
  generalize v5_.alloc (.cells #[.int .u64 (U : Int), .int .i64 (Q : Int), .int .i64 (P : Int)] 26) = v6_ at *
  obtain ⟨gP, hg9⟩ : ∃ gP, gP = v5_.heap.size := ⟨_, rfl⟩
  rw [← hg9] at qp ⊢
  clear hg9
  obtain ⟨w5, hw5⟩ : ∃ w5, w5 = v6_ := ⟨_, rfl⟩
  subst hw5
  have hBd : Below w5.heap.size w5 w5.drew := (Below.refl _ _).drew
  have hBa : Below w5.heap.size w5 ((w5.alloc (.cells #[.int .i64 0, .slice none 0 0] 37)).drew) := ((Below.refl _ _).alloc (Nat.le_refl _) _).drew
  have bxa : RowAt ((w5.alloc (.cells #[.int .i64 0, .slice none 0 0] 37)).drew) w5.heap.size 37 [.int .i64 0, .slice none 0 0] := RowAt.new w5 37 #[.int .i64 0, .slice none 0 0]
  have nA := cN _ (hT.on hBd)
  have nB := cN _ (hT.on hBa)
  have ltC := qc.lt
  have ltP := qp.lt
  go_cut [14, 15] from 25 to 32 (fun pv ev wx => ∃ (g : Nat) (A : Option Addr) (c : Nat), pv = .pointer (some ⟨g, 0, none⟩) ∧ ev = .int .i64 0 ∧ RowAt wx g 37 [.int .i64 (N : Int), .slice A mq c] ∧ Bt wx (.agg #[.int .i64 (N : Int), .slice A mq c]) N L ∧ Below w5.heap.size w5 wx)
  case first =>
    have qcd := qc.on hBd
    have qpd := qp.on hBd
    have qca := qc.on hBa
    have qpa := qp.on hBa
    have h13 := cs13 qc qp
    obtain ⟨y0, y1, y2, y3, y4, y5, y6, y7, y8, y9, x0, x1, x2⟩ := h13
    go_region_held3 (fun w' => w'.cell? ⟨gC, 0, none⟩ = some (.int .i64 (V : Int)) ∧ w'.cell? ⟨gC, 1, none⟩ = some (.int .i64 (S : Int)) ∧ w'.cell? ⟨gC, 2, none⟩ = some (.int .i64 (C : Int)) ∧ w'.cell? ⟨gC, 3, none⟩ = some (.int .i64 (N : Int)) ∧ w'.cell? ⟨gC, 4, none⟩ = some (.int .i64 (T : Int)) ∧ w'.cell? ⟨gC, 5, none⟩ = some (.int .i64 (D : Int)) ∧ w'.cell? ⟨gC, 6, none⟩ = some (.int .i64 (R : Int)) ∧ w'.cell? ⟨gC, 7, none⟩ = some (.int .i64 (K : Int)) ∧ w'.cell? ⟨gC, 8, none⟩ = some (.int .i64 (G : Int)) ∧ w'.cell? ⟨gC, 9, none⟩ = some (.int .u64 3) ∧ w'.cell? ⟨gP, 0, none⟩ = some (.int .u64 (U : Int)) ∧ w'.cell? ⟨gP, 1, none⟩ = some (.int .i64 (Q : Int)) ∧ w'.cell? ⟨gP, 2, none⟩ = some (.int .i64 (P : Int)))
      (first | exact cs13 qcd qpd | exact cs13 qca qpa | exact cs13 rC rP | exact cs13 (rC.alloc _) (rP.alloc _) | exact cs13 ((rC.far (Nat.ne_of_lt ltC) _).far (Nat.ne_of_lt ltC) _) ((rP.far (Nat.ne_of_lt ltP) _).far (Nat.ne_of_lt ltP) _) | go_keep)
      (first
        | ((with_reducible refine (cE _).mono ?_); rintro o v9 ⟨rfl, rfl⟩)
        | ((with_reducible refine nA.mono ?_); rintro o v9 ⟨A, c, rfl, hBt, hFr, b9⟩; have b8 := hBd.trans (b9.mono hBd.size); have rC := qc.on b8; have rP := qp.on b8)
        | ((with_reducible refine nB.mono ?_); rintro o v9 ⟨A, c, rfl, hBt, hFr, b9⟩; have b8 := hBa.trans (b9.mono hBa.size); have rC := qc.on b8; have rP := qp.on b8; have bx9 := bxa.on b9; obtain ⟨z0, z1⟩ := bx9.two; have zf0 := bx9.frozen 0; have zf1 := bx9.frozen 1))
    all_goals
      go_simp
      go_wp2_with fail
      go_meet
      first
        | exact ⟨_, A, c, rfl, rfl, RowAt.new v9 37 #[.int .i64 (N : Int), .slice A mq c], hBt.alloc _, b8.alloc b8.size _⟩
        | exact ⟨_, A, c, rfl, rfl, (bx9.set 0 (.int .i64 (N : Int))).set 1 (.slice A mq c), bt_stored hBt hFr (by simp) _ _, (b8.setCell (p := ⟨_, 0, none⟩) (Nat.le_refl _) _).setCell (p := ⟨_, 1, none⟩) (Nat.le_refl _) _⟩
  case rest =>
    obtain ⟨wy, hwy⟩ : ∃ wy, wy = wc := ⟨_, rfl⟩
    subst hwy
    obtain ⟨g, A, c, rfl, rfl, qb, hBt, b9⟩ := hcut
    replace qc := qc.on b9
    replace qp := qp.on b9
    replace hT := hT.on b9
    replace B0 := B0.trans (b9.mono B0.size)
    clear nA nB hBd hBa bxa ltC ltP b9 cE cN
    have hR := Right_eq _ (N : Int) L wy true hRt hBt HL9.out
    have u0 := qb.cell 0
    have u1 := qb.cell 1
    have z3 := qc.cell 3
    have x1 := qp.cell 1
    simp only [List.getElem?_cons_zero, List.getElem?_cons_succ] at u0 u1 z3 x1
    go_wp2_with fail
    with_reducible refine hR.mono ?_
    rintro o w6 ⟨rfl, bN⟩
    clear u0 u1 z3 x1 hR
    replace qc := qc.on bN
    replace qp := qp.on bN
    replace qb := qb.on bN
    replace hBt := hBt.on bN
    replace B0 := B0.trans (bN.mono B0.size)
    clear bN hT
    have u0 := qb.cell 0
    have u1 := qb.cell 1
    have z3 := qc.cell 3
    have x1 := qp.cell 1
    simp only [List.getElem?_cons_zero, List.getElem?_cons_succ] at u0 u1 z3 x1
    go_wp2_with fail
    clear u0 u1 z3 x1
    go_loopw [16, 17] (fun bv iv wr => ∃ i : Nat, i ≤ N ∧ bv = .int .i64 (cntB N f Q i : Int) ∧ iv = .int .i64 (i : Int) ∧ Below w6.heap.size w6 wr) (fun _ iv _ => N - (RowKit.intOf iv).toNat)
    case atStart => exact ⟨0, Nat.zero_le _, by simp [cntB], rfl, Below.refl _ _⟩
    case round =>
      obtain ⟨i, hi, rfl, rfl, hb⟩ := hrel
      replace qc := qc.on hb
      replace qb := qb.on hb
      replace hBt := hBt.on hb
      have Bo := B0.trans (hb.mono B0.size)
      have z3 := qc.cell 3
      simp only [List.getElem?_cons_zero, List.getElem?_cons_succ] at z3
      by_cases hiN : i < N
      · have g1 : ((i : Int) < (N : Int)) = True := eq_true (by omega)
        have g2 : (i < N) = True := eq_true hiN
        have HYES := Lib.hid (@cntB_yes N f Q i hf9 hiN)
        have HNO := Lib.hid (@cntB_no N f Q i hf9 hiN)
        have h1 := HHas.out i
        have h2 := HHas.out ((i + N - 1) % N)
        have e2 : (i : Int) + (N : Int) = ((i + N : Nat) : Int) := by omega
        have e3 : IntKind.i64.wrap ((i + N : Nat) : Int) = ((i + N : Nat) : Int) := wrap_small (by omega) (by omega)
        have e4 : ((i + N : Nat) : Int) - 1 = ((i + N - 1 : Nat) : Int) := by omega
        have e5 : IntKind.i64.wrap ((i + N - 1 : Nat) : Int) = ((i + N - 1 : Nat) : Int) := wrap_small (by omega) (by omega)
        have e6 : ((i + N - 1 : Nat) : Int).tmod (N : Int) = (((i + N - 1) % N : Nat) : Int) := tmod_nat (i + N - 1) N
        have hpv : (i + N - 1) % N < N := Nat.mod_lt _ (by omega)
        have e7 : ((N : Int) = 0) = False := eq_false (by omega)
        have e8 : (N = 0) = False := eq_false (by omega)
        generalize i + N - 1 = P1 at *
        generalize P1 % N = pv at *
        generalize i + N = P2 at *
        have e9 : IntKind.i64.wrap (pv : Int) = (pv : Int) := wrap_small (by omega) (by omega)
        generalize onB N f Q i = o1 at *
        generalize onB N f Q pv = o2 at *
        have hc9 := cntB_le N f Q i
        have HC1 : ∀ p : Later wr, Calls Tryd.prog 22 #[.agg #[.int .i64 (N : Int), .slice A mq c], .int .i64 (i : Int)] p.W fun e w_ => e = .returned (.bool o1) ∧ ∃ p : Later wr, w_ = p.W := fun p => later_of (Has_eq _ (N : Int) L (i : Int) p.W o1 h1 (hBt.on p.h) HL9.out)
        have HC2 : ∀ p : Later wr, Calls Tryd.prog 22 #[.agg #[.int .i64 (N : Int), .slice A mq c], .int .i64 (pv : Int)] p.W fun e w_ => e = .returned (.bool o2) ∧ ∃ p : Later wr, w_ = p.W := fun p => later_of (Has_eq _ (N : Int) L (pv : Int) p.W o2 h2 (hBt.on p.h) HL9.out)
        generalize cntB N f Q i = cn at *
        have e10 : IntKind.i64.wrap ((cn : Int) + 1) = (cn : Int) + 1 := wrap_small (by omega) (by omega)
        go_upto_region 11 with (fail)
        clear z3 h1 h2
        have y3 := qc.later7 3 _ rfl
        have t0 := qb.later7 0 _ rfl
        have t1 := qb.later7 1 _ rfl
        cases o1
        · refine wp_region_later (by kernel_rfl) (by kernel_rfl) ?_
          repeat (go_big_quiet_step (first | (go_at_call 22; (first | with_reducible exact HC1 _ | with_reducible exact HC2 _))))
          refine wpQuiet_nil ?_
          intro _ hw'
          obtain ⟨pq, rfl⟩ := hw'
          go_wp2_with fail
          go_roundw
          case rel => exact ⟨i + 1, by omega, by rw [HNO.out (by simp)], by go_num, hb.trans (pq.h.mono hb.size)⟩
          case measure => simp [RowKit.intOf]; omega
        · cases o2
          · refine wp_region_later (by kernel_rfl) (by kernel_rfl) ?_
            repeat (go_big_quiet_step (first | (go_at_call 22; (first | with_reducible exact HC1 _ | with_reducible exact HC2 _))))
            refine wpQuiet_nil ?_
            intro _ hw'
            obtain ⟨pq, rfl⟩ := hw'
            go_wp2_with fail
            go_roundw
            case rel => exact ⟨i + 1, by omega, by rw [HYES.out (by simp)]; go_num, by go_num, hb.trans (pq.h.mono hb.size)⟩
            case measure => simp [RowKit.intOf]; omega
          · refine wp_region_later (by kernel_rfl) (by kernel_rfl) ?_
            repeat (go_big_quiet_step (first | (go_at_call 22; (first | with_reducible exact HC1 _ | with_reducible exact HC2 _))))
            refine wpQuiet_nil ?_
            intro _ hw'
            obtain ⟨pq, rfl⟩ := hw'
            go_wp2_with fail
            go_roundw
            case rel => exact ⟨i + 1, by omega, by rw [HNO.out (by simp)], by go_num, hb.trans (pq.h.mono hb.size)⟩
            case measure => simp [RowKit.intOf]; omega
      · obtain rfl : i = N := by omega
        have g1 : ((i : Int) < (i : Int)) = False := eq_false (by omega)
        have u1 := qb.cell 1
        simp only [List.getElem?_cons_zero, List.getElem?_cons_succ] at u1
        rcases Nat.eq_zero_or_pos Q with hq0 | hq0
        · obtain rfl : mq = 0 := by have := HMQ.out; omega
          have hcz : cntB i f Q i = 0 := by unfold cntB; rw [if_neg (by omega)]
          rw [hcz]
          go_wp2_with fail
          go_ret
          exact ⟨by simp, Bo⟩
        · have g3 : ((0 : Int) < (mq : Int)) = True := eq_true (by have := HMQ.out; omega)
          have g4 : (0 < mq) = True := eq_true (by have := HMQ.out; omega)
          by_cases hqN : Q < i
          · have hcz : cntB i f Q i = 1 := by unfold cntB; rw [if_pos (by omega)]
            rw [hcz]
            have g5 : ((mq : Int) < (i : Int)) = True := eq_true (by have := HMQ.out; omega)
            have g6 : (mq < i) = True := eq_true (by have := HMQ.out; omega)
            go_wp2_with fail
            go_ret
            exact ⟨by simp, Bo⟩
          · have hcz : cntB i f Q i = 0 := by unfold cntB; rw [if_neg (by omega)]
            rw [hcz]
            have g5 : ((mq : Int) < (i : Int)) = False := eq_false (by have := HMQ.out; omega)
            have g6 : (mq < i) = False := eq_false (by have := HMQ.out; omega)
            go_wp2_with fail
            go_ret
            exact ⟨by simp, Bo⟩
theorem smany_calls {n0 n1 n2 n3 n4 n5 : Int} (b0 : I64K n0) (b1 : I64K n1) (b2 : I64K n2) (b3 : I64K n3) (b4 : I64K n4) (b5 : I64K n5) (a1 : Int) (w1 : (Lit.int .u64 a1).wf = true) (a2 : Int) (w2 : (Lit.int .i64 a2).wf = true) (a3 : Int) (w3 : (Lit.int .i64 a3).wf = true) (a4 : Int) (w4 : (Lit.int .i64 a4).wf = true) (w : World) (hT : Both w) :
    Calls Tryd.prog 5 #[.agg #[.int .i64 n0, .int .i64 n1, .int .i64 n2, .int .i64 n3, .int .i64 n4, .int .i64 n5], .int .u64 a1, .int .i64 a2, .int .i64 a3, .int .i64 a4] w fun o w' => o = .returned (.bool true) ∧ Below w.heap.size w w' := by
  have h1 := bounds_u64 w1
  obtain ⟨k1, rfl⟩ := Int.eq_ofNat_of_zero_le h1.1
  exact smany_walk n0 n1 n2 n3 n4 n5 a2 a3 a4 k1 b0 b1 b2 b3 b4 b5 (bounds_i64 w2) (bounds_i64 w3) (bounds_i64 w4) w hT
end Go.Proofs.YthlajfoipafaaaaDoor
