/- Package duty: where a validator is, subnets, what is signed to be selected, who is selected.
   Package duty: subnets, what is signed to be selected, who is selected.
   awake of layer 10's laws.
   Layer 10's laws: pick, and the raw chain. -/
import Derived.Test.YtjipibpcnheniaaDoorDutC
import Derived.Test.YtjipibpcnheniaaDoorTokJ
import Derived.Deep.Cut
namespace Go.Proofs.YtjipibpcnheniaaDoor
open Go.RowKit Go.Lib

/-- The committee that has number j. -/
def holdD (V M j : Nat) : Nat := ((j + 1) * M - 1) / V
theorem hold_lt {V M j : Nat} (hM : 1 ≤ M) (hj : j < V) : holdD V M j < M := by
  unfold holdD
  rw [Nat.div_lt_iff_lt_mul (by omega)]
  have h1 : (j + 1) * M ≤ V * M := Nat.mul_le_mul_right _ hj
  have h2 : 1 ≤ (j + 1) * M := Nat.mul_pos (by omega) hM
  rw [Nat.mul_comm M V]
  omega
theorem hold_le {V M j : Nat} (hM : 1 ≤ M) : bndC V M (holdD V M j) ≤ j := by
  unfold bndC
  rw [← Nat.lt_succ_iff, Nat.div_lt_iff_lt_mul (by omega)]
  have h1 : V * holdD V M j ≤ (j + 1) * M - 1 := Nat.mul_div_le _ _
  have h2 : 1 ≤ (j + 1) * M := Nat.mul_pos (by omega) hM
  have h3 : (j.succ) * M = (j + 1) * M := rfl
  omega
theorem hold_gt {V M j : Nat} (hV : 1 ≤ V) (hM : 1 ≤ M) : j < bndC V M (holdD V M j + 1) := by
  unfold bndC
  rw [Nat.lt_iff_add_one_le, Nat.le_div_iff_mul_le (by omega)]
  have h1 : (j + 1) * M - 1 < V * (holdD V M j + 1) := Nat.lt_mul_div_succ _ (by omega)
  have h2 : 1 ≤ (j + 1) * M := Nat.mul_pos (by omega) hM
  omega
set_option maxHeartbeats 2000000 in
set_option maxRecDepth 100000 in
theorem Where_yes (V S C N T D R K G Z e v : Nat) (w : World) (hT : Both w) (h : FitD V S C N T D R K G) (he : e ≤ 1099511627776) (hv : v < V) (j kk : Nat) (hj : backS (roundS V (foldB [Z, e])) K v = j) (hk : holdD V (numC S C) j = kk) :
    Calls Tryd.prog 16 #[.agg #[.int .i64 (V : Int), .int .i64 (S : Int), .int .i64 (C : Int), .int .i64 (N : Int), .int .i64 (T : Int), .int .i64 (D : Int), .int .i64 (R : Int), .int .i64 (K : Int), .int .i64 (G : Int), .int .u64 (Z : Int)], .int .i64 (e : Int), .int .i64 (v : Int)] w fun o w' => o = .returned (.tuple #[.int .i64 ((e * S + kk / C : Nat) : Int), .int .i64 ((kk % C : Nat) : Int), .int .i64 ((j - bndC V (numC S C) kk : Nat) : Int), .int .i64 0]) ∧ Below w.heap.size w w' := by
  obtain ⟨m1, m2⟩ := numC_bd h.s1 h.s2 h.c1 h.c2
  obtain ⟨v1, v2, k2, s1, s2, c1', c2'⟩ : 1 ≤ V ∧ V ≤ 1024 ∧ K ≤ 90 ∧ 1 ≤ S ∧ S ≤ 32 ∧ 1 ≤ C ∧ C ≤ 8 := ⟨h.v1, h.v2, h.k2, h.s1, h.s2, h.c1, h.c2⟩
  have hjV : j < V := by rw [← hj]; exact runS_lt stS_lt _ hv
  have hkM : kk < numC S C := by rw [← hk]; exact hold_lt m1 hjV
  have hbj : bndC V (numC S C) kk ≤ j := by rw [← hk]; exact hold_le m1
  have b0 := (Below.refl w.heap.size w).alloc (Nat.le_refl _) (.cells #[.int .i64 (V : Int), .int .i64 (S : Int), .int .i64 (C : Int), .int .i64 (N : Int), .int .i64 (T : Int), .int .i64 (D : Int), .int .i64 (R : Int), .int .i64 (K : Int), .int .i64 (G : Int), .int .u64 (Z : Int)] 24)
  have hT0 : Both (w.alloc (.cells #[.int .i64 (V : Int), .int .i64 (S : Int), .int .i64 (C : Int), .int .i64 (N : Int), .int .i64 (T : Int), .int .i64 (D : Int), .int .i64 (R : Int), .int .i64 (K : Int), .int .i64 (G : Int), .int .u64 (Z : Int)] 24)) := ⟨hT.1.below b0 hT.1.lt, hT.2.below b0 hT.2.lt⟩
  have cF := Fits_eq h.fits (Z : Int) (w.alloc (.cells #[.int .i64 (V : Int), .int .i64 (S : Int), .int .i64 (C : Int), .int .i64 (N : Int), .int .i64 (T : Int), .int .i64 (D : Int), .int .i64 (R : Int), .int .i64 (K : Int), .int .i64 (G : Int), .int .u64 (Z : Int)] 24)) hT0.2
  have het : isTickB (e : Int) = true := by unfold isTickB; rw [decide_eq_true (by omega), decide_eq_true (by omega)]; rfl
  have cMb := fun W => mayBe_any (e : Int) W
  rw [het] at cMb
  have cO := fun W => of_any V S C N T D R K G Z (e : Int) W
  have cS := fun W hW => seed_any V S C N T D R K G Z e W hW he
  have hsd : foldB [Z, e] < 18446744073709551616 := foldB_lt _
  generalize foldB [Z, e] = sd at *
  have cB := fun W hW => Back_yes V K sd v W hW v1 (by omega) hv k2
  rw [hj] at cB
  have cH := fun W => holder_any V S C N T D R K G Z j (e : Int) W h hjV
  have cF1 := fun W => first_any V S C N T D R K G Z kk (e : Int) W h (by omega)
  have hk' : ((j + 1) * numC S C - 1) / V = kk := hk
  rw [hk'] at cH
  clear hk hk' hj het
  generalize bndC V (numC S C) kk = fb at *
  have e1 : (e : Int) * (S : Int) = ((e * S : Nat) : Int) := (Int.natCast_mul _ _).symm
  have hP : e * S ≤ 1099511627776 * 32 := Nat.mul_le_mul he s2
  generalize e * S = P at *
  have e2 : IntKind.i64.wrap (P : Int) = (P : Int) := wrap_small (by omega) (by omega)
  have e3 : (kk : Int).tdiv (C : Int) = ((kk / C : Nat) : Int) := tdiv_nat kk C
  have e4 : (kk : Int).tmod (C : Int) = ((kk % C : Nat) : Int) := tmod_nat kk C
  have hq9 : kk / C ≤ kk := Nat.div_le_self _ _
  have hr9 : kk % C ≤ kk := Nat.mod_le _ _
  generalize kk / C = q1 at *
  generalize kk % C = r1 at *
  have e5 : IntKind.i64.wrap (q1 : Int) = (q1 : Int) := wrap_small (by omega) (by omega)
  have e6 : IntKind.i64.wrap (r1 : Int) = (r1 : Int) := wrap_small (by omega) (by omega)
  have e7 : ((C : Int) = 0) = False := eq_false (by omega)
  have e8 : (C = 0) = False := eq_false (by omega)
  obtain ⟨sl, hsl⟩ : ∃ sl, P + q1 = sl := ⟨_, rfl⟩
  have e9 : (P : Int) + (q1 : Int) = (sl : Int) := by omega
  have e10 : IntKind.i64.wrap (sl : Int) = (sl : Int) := wrap_small (by omega) (by omega)
  rw [hsl]
  obtain ⟨pl, hpl⟩ : ∃ pl, j - fb = pl := ⟨_, rfl⟩
  have e11 : (j : Int) - (fb : Int) = (pl : Int) := by omega
  have e12 : IntKind.i64.wrap (pl : Int) = (pl : Int) := wrap_small (by omega) (by omega)
  rw [hpl]
  clear hsl hpl
  go_enter Tryd.func16, Tryd.ntmps16
  go_wp2_with fail
  with_reducible refine cF.mono ?_
  rintro o w1 ⟨rfl, b1⟩
  go_wp2_with fail
  with_reducible refine (cMb _).mono ?_
  rintro o w2 ⟨rfl, rfl⟩
  have z0 := box10 b1 0
  have z1 := box10 b1 1
  have z2 := box10 b1 2
  have z3 := box10 b1 3
  have z4 := box10 b1 4
  have z5 := box10 b1 5
  have z6 := box10 b1 6
  have z7 := box10 b1 7
  have z8 := box10 b1 8
  have z9 := box10 b1 9
  simp only [List.getElem?_cons_zero, List.getElem?_cons_succ] at z0 z1 z2 z3 z4 z5 z6 z7 z8 z9
  go_wp2_with fail
  with_reducible refine (cO _).mono ?_
  rintro o w3 ⟨rfl, b3⟩
  clear z0 z1 z2 z3 z4 z5 z6 z7 z8 z9
  have hT3 := (hT0.on b1).on b3
  have B3 := b0.trans ((b1.trans (b3.mono b1.size)).mono b0.size)
  go_upto_region 4 with (fail)
  have qE := RowAt.new w3 59 #[.int .i64 (V : Int), .int .i64 (S : Int), .int .i64 (C : Int), .int .i64 (N : Int), .int .i64 (T : Int), .int .i64 (D : Int), .int .i64 (R : Int), .int .i64 (K : Int), .int .i64 (G : Int), .int .u64 (Z : Int), .int .i64 (e : Int)]
  have bx := (Below.refl w3.heap.size w3).alloc (Nat.le_refl _) (.cells #[.int .i64 (V : Int), .int .i64 (S : Int), .int .i64 (C : Int), .int .i64 (N : Int), .int .i64 (T : Int), .int .i64 (D : Int), .int .i64 (R : Int), .int .i64 (K : Int), .int .i64 (G : Int), .int .u64 (Z : Int), .int .i64 (e : Int)] 59)
  have hT4 := hT3.on bx
  have B4 := B3.trans (bx.mono B3.size)
  clear hT0 hT3 b1 b3 bx B3 cF cMb cO b0
  generalize w3.alloc (.cells #[.int .i64 (V : Int), .int .i64 (S : Int), .int .i64 (C : Int), .int .i64 (N : Int), .int .i64 (T : Int), .int .i64 (D : Int), .int .i64 (R : Int), .int .i64 (K : Int), .int .i64 (G : Int), .int .u64 (Z : Int), .int .i64 (e : Int)] 59) = w4 at *
  generalize w3.heap.size = gE at *
  have y0 := qE.later7 0 _ rfl
  have y1 := qE.later7 1 _ rfl
  have y2 := qE.later7 2 _ rfl
  have y3 := qE.later7 3 _ rfl
  have y4 := qE.later7 4 _ rfl
  have y5 := qE.later7 5 _ rfl
  have y6 := qE.later7 6 _ rfl
  have y7 := qE.later7 7 _ rfl
  have y8 := qE.later7 8 _ rfl
  have y9 := qE.later7 9 _ rfl
  have y10 := qE.later7 10 _ rfl
  have HS : ∀ p : Later w4, Calls Tryd.prog 39 #[.agg #[.int .i64 (V : Int), .int .i64 (S : Int), .int .i64 (C : Int), .int .i64 (N : Int), .int .i64 (T : Int), .int .i64 (D : Int), .int .i64 (R : Int), .int .i64 (K : Int), .int .i64 (G : Int), .int .u64 (Z : Int), .int .i64 (e : Int)]] p.W fun o w_ => o = .returned (.int .u64 (sd : Int)) ∧ ∃ p : Later w4, w_ = p.W := fun p => later_of (cS _ (hT4.on p.h).1)
  have HB : ∀ p : Later w4, Calls Tryd.prog 38 #[.int .i64 (V : Int), .int .i64 (K : Int), .int .u64 (sd : Int), .int .i64 (v : Int)] p.W fun o w_ => o = .returned (.tuple #[.int .i64 (j : Int), .int .i64 0]) ∧ ∃ p : Later w4, w_ = p.W := fun p => later_of (cB _ (hT4.on p.h).1)
  refine wp_region_later (by kernel_rfl) (by kernel_rfl) ?_
  repeat (go_big_quiet_step (first | (go_at_call 39; exact HS _) | (go_at_call 38; exact HB _)))
  refine wpQuiet_nil ?_
  intro _ hw'
  obtain ⟨pq, rfl⟩ := hw'
  have b5 := pq.h
  generalize pq.W = w5 at b5 ⊢
  clear pq HS HB y0 y1 y2 y3 y4 y5 y6 y7 y8 y9 y10 cS cB
  replace qE := qE.on b5
  have B5 := B4.trans (b5.mono B4.size)
  clear b5 B4 hT4
  have y0 : w5.cell? ⟨gE, 0, none⟩ = some (.int .i64 (V : Int)) := qE.cell 0
  have y1 : w5.cell? ⟨gE, 1, none⟩ = some (.int .i64 (S : Int)) := qE.cell 1
  have y2 : w5.cell? ⟨gE, 2, none⟩ = some (.int .i64 (C : Int)) := qE.cell 2
  have y3 : w5.cell? ⟨gE, 3, none⟩ = some (.int .i64 (N : Int)) := qE.cell 3
  have y4 : w5.cell? ⟨gE, 4, none⟩ = some (.int .i64 (T : Int)) := qE.cell 4
  have y5 : w5.cell? ⟨gE, 5, none⟩ = some (.int .i64 (D : Int)) := qE.cell 5
  have y6 : w5.cell? ⟨gE, 6, none⟩ = some (.int .i64 (R : Int)) := qE.cell 6
  have y7 : w5.cell? ⟨gE, 7, none⟩ = some (.int .i64 (K : Int)) := qE.cell 7
  have y8 : w5.cell? ⟨gE, 8, none⟩ = some (.int .i64 (G : Int)) := qE.cell 8
  have y9 : w5.cell? ⟨gE, 9, none⟩ = some (.int .u64 (Z : Int)) := qE.cell 9
  have y10 : w5.cell? ⟨gE, 10, none⟩ = some (.int .i64 (e : Int)) := qE.cell 10
  go_wp2_with fail
  with_reducible refine (cH _).mono ?_
  rintro o w6 ⟨rfl, b6⟩
  replace qE := qE.on b6
  have B6 := B5.trans (b6.mono B5.size)
  clear b6 B5 y0 y1 y2 y3 y4 y5 y6 y7 y8 y9 y10
  have y0 : w6.cell? ⟨gE, 0, none⟩ = some (.int .i64 (V : Int)) := qE.cell 0
  have y1 : w6.cell? ⟨gE, 1, none⟩ = some (.int .i64 (S : Int)) := qE.cell 1
  have y2 : w6.cell? ⟨gE, 2, none⟩ = some (.int .i64 (C : Int)) := qE.cell 2
  have y3 : w6.cell? ⟨gE, 3, none⟩ = some (.int .i64 (N : Int)) := qE.cell 3
  have y4 : w6.cell? ⟨gE, 4, none⟩ = some (.int .i64 (T : Int)) := qE.cell 4
  have y5 : w6.cell? ⟨gE, 5, none⟩ = some (.int .i64 (D : Int)) := qE.cell 5
  have y6 : w6.cell? ⟨gE, 6, none⟩ = some (.int .i64 (R : Int)) := qE.cell 6
  have y7 : w6.cell? ⟨gE, 7, none⟩ = some (.int .i64 (K : Int)) := qE.cell 7
  have y8 : w6.cell? ⟨gE, 8, none⟩ = some (.int .i64 (G : Int)) := qE.cell 8
  have y9 : w6.cell? ⟨gE, 9, none⟩ = some (.int .u64 (Z : Int)) := qE.cell 9
  have y10 : w6.cell? ⟨gE, 10, none⟩ = some (.int .i64 (e : Int)) := qE.cell 10
  go_wp2_with fail
  go_quiet (fail)
  go_wp2_with fail
  have qE7 : RowAt (w6.drewN nq) gE 59 [.int .i64 (V : Int), .int .i64 (S : Int), .int .i64 (C : Int), .int .i64 (N : Int), .int .i64 (T : Int), .int .i64 (D : Int), .int .i64 (R : Int), .int .i64 (K : Int), .int .i64 (G : Int), .int .u64 (Z : Int), .int .i64 (e : Int)] := qE
  have B7 : Below w.heap.size w (w6.drewN nq) := ⟨B6.os, B6.tape, B6.output, B6.size, B6.block⟩
  clear y0 y1 y2 y3 y4 y5 y6 y7 y8 y9 y10 qE B6 cH
  generalize w6.drewN nq = w7 at *
  have y0 := qE7.later7 0 _ rfl
  have y1 := qE7.later7 1 _ rfl
  have y2 := qE7.later7 2 _ rfl
  have y3 := qE7.later7 3 _ rfl
  have y4 := qE7.later7 4 _ rfl
  have y5 := qE7.later7 5 _ rfl
  have y6 := qE7.later7 6 _ rfl
  have y7 := qE7.later7 7 _ rfl
  have y8 := qE7.later7 8 _ rfl
  have y9 := qE7.later7 9 _ rfl
  have y10 := qE7.later7 10 _ rfl
  have HF : ∀ p : Later w7, Calls Tryd.prog 41 #[.agg #[.int .i64 (V : Int), .int .i64 (S : Int), .int .i64 (C : Int), .int .i64 (N : Int), .int .i64 (T : Int), .int .i64 (D : Int), .int .i64 (R : Int), .int .i64 (K : Int), .int .i64 (G : Int), .int .u64 (Z : Int), .int .i64 (e : Int)], .int .i64 (kk : Int)] p.W fun o w_ => o = .returned (.int .i64 (fb : Int)) ∧ ∃ p : Later w7, w_ = p.W := fun p => later_of (cF1 _)
  refine wp_region_later (by kernel_rfl) (by kernel_rfl) ?_
  repeat (go_big_quiet_step (first | (go_at_call 41; exact HF _)))
  refine wpQuiet_nil ?_
  intro _ hw'
  obtain ⟨pq, rfl⟩ := hw'
  have b8 := pq.h
  go_wp2_with fail
  refine bodyPost_ret (v := .tuple #[.int .i64 (sl : Int), .int .i64 (r1 : Int), .int .i64 (pl : Int), .int .i64 0]) (by simp [results, Tryd.results16, go_sem]) rfl ?_
  exact ⟨rfl, B7.trans (b8.mono B7.size)⟩
set_option maxHeartbeats 2000000 in
set_option maxRecDepth 100000 in
theorem Where_no (v s c n t d r k g e x : Int) (Z : Nat) (w : World) (hT : Both w) (h : fitsC v s c n t d r k g = false ∨ isTickB e = false) :
    Calls Tryd.prog 16 #[.agg #[.int .i64 v, .int .i64 s, .int .i64 c, .int .i64 n, .int .i64 t, .int .i64 d, .int .i64 r, .int .i64 k, .int .i64 g, .int .u64 (Z : Int)], .int .i64 e, .int .i64 x] w fun o w' => o = .returned (.tuple #[.int .i64 0, .int .i64 0, .int .i64 0, .int .i64 1]) ∧ Below w.heap.size w w' := by
  have b0 := (Below.refl w.heap.size w).alloc (Nat.le_refl _) (.cells #[.int .i64 v, .int .i64 s, .int .i64 c, .int .i64 n, .int .i64 t, .int .i64 d, .int .i64 r, .int .i64 k, .int .i64 g, .int .u64 (Z : Int)] 24)
  have hT0 : Both (w.alloc (.cells #[.int .i64 v, .int .i64 s, .int .i64 c, .int .i64 n, .int .i64 t, .int .i64 d, .int .i64 r, .int .i64 k, .int .i64 g, .int .u64 (Z : Int)] 24)) := ⟨hT.1.below b0 hT.1.lt, hT.2.below b0 hT.2.lt⟩
  obtain ⟨fit, hf⟩ : ∃ fit, fitsC v s c n t d r k g = fit := ⟨_, rfl⟩
  have cF := Fits_eq hf (Z : Int) _ hT0.2
  have cMb := fun W => mayBe_any e W
  rw [hf] at h
  go_enter Tryd.func16, Tryd.ntmps16
  go_wp2_with fail
  with_reducible refine cF.mono ?_
  rintro o w1 ⟨rfl, b1⟩
  cases fit
  · go_wp2_with fail
    refine bodyPost_ret (v := .tuple #[.int .i64 0, .int .i64 0, .int .i64 0, .int .i64 1]) (by simp [results, Tryd.results16, go_sem]) rfl ?_
    exact ⟨rfl, b0.trans (b1.mono b0.size)⟩
  · have he : isTickB e = false := by rcases h with h | h; cases h; exact h
    rw [he] at cMb
    go_wp2_with fail
    with_reducible refine (cMb _).mono ?_
    rintro o w2 ⟨rfl, rfl⟩
    go_wp2_with fail
    refine bodyPost_ret (v := .tuple #[.int .i64 0, .int .i64 0, .int .i64 0, .int .i64 1]) (by simp [results, Tryd.results16, go_sem]) rfl ?_
    exact ⟨rfl, b0.trans (b1.mono b0.size)⟩
set_option maxHeartbeats 2000000 in
set_option maxRecDepth 100000 in
theorem Where_not (V S C N T D R K G Z e : Nat) (x : Int) (w : World) (hT : Both w) (h : FitD V S C N T D R K G) (he : e ≤ 1099511627776) (hx : x < 0 ∨ (V : Int) ≤ x) :
    Calls Tryd.prog 16 #[.agg #[.int .i64 (V : Int), .int .i64 (S : Int), .int .i64 (C : Int), .int .i64 (N : Int), .int .i64 (T : Int), .int .i64 (D : Int), .int .i64 (R : Int), .int .i64 (K : Int), .int .i64 (G : Int), .int .u64 (Z : Int)], .int .i64 (e : Int), .int .i64 x] w fun o w' => o = .returned (.tuple #[.int .i64 0, .int .i64 0, .int .i64 0, .int .i64 1]) ∧ Below w.heap.size w w' := by
  have b0 := (Below.refl w.heap.size w).alloc (Nat.le_refl _) (.cells #[.int .i64 (V : Int), .int .i64 (S : Int), .int .i64 (C : Int), .int .i64 (N : Int), .int .i64 (T : Int), .int .i64 (D : Int), .int .i64 (R : Int), .int .i64 (K : Int), .int .i64 (G : Int), .int .u64 (Z : Int)] 24)
  have hT0 : Both (w.alloc (.cells #[.int .i64 (V : Int), .int .i64 (S : Int), .int .i64 (C : Int), .int .i64 (N : Int), .int .i64 (T : Int), .int .i64 (D : Int), .int .i64 (R : Int), .int .i64 (K : Int), .int .i64 (G : Int), .int .u64 (Z : Int)] 24)) := ⟨hT.1.below b0 hT.1.lt, hT.2.below b0 hT.2.lt⟩
  have cF := Fits_eq h.fits (Z : Int) (w.alloc (.cells #[.int .i64 (V : Int), .int .i64 (S : Int), .int .i64 (C : Int), .int .i64 (N : Int), .int .i64 (T : Int), .int .i64 (D : Int), .int .i64 (R : Int), .int .i64 (K : Int), .int .i64 (G : Int), .int .u64 (Z : Int)] 24)) hT0.2
  have het : isTickB (e : Int) = true := by unfold isTickB; rw [decide_eq_true (by omega), decide_eq_true (by omega)]; rfl
  have cMb := fun W => mayBe_any (e : Int) W
  rw [het] at cMb
  have cO := fun W => of_any V S C N T D R K G Z (e : Int) W
  have cS := fun W hW => seed_any V S C N T D R K G Z e W hW he
  generalize foldB [Z, e] = sd at *
  have hmb : mayB (V : Int) (K : Int) x = false := by
    cases e : mayB (V : Int) (K : Int) x
    · rfl
    · have := (mayB_iff _ _ _).1 e; omega
  have cB := fun W => Back_no (V : Int) (K : Int) (sd : Int) x W hmb
  clear het
  go_enter Tryd.func16, Tryd.ntmps16
  go_wp2_with fail
  with_reducible refine cF.mono ?_
  rintro o w1 ⟨rfl, b1⟩
  go_wp2_with fail
  with_reducible refine (cMb _).mono ?_
  rintro o w2 ⟨rfl, rfl⟩
  have z0 := box10 b1 0
  have z1 := box10 b1 1
  have z2 := box10 b1 2
  have z3 := box10 b1 3
  have z4 := box10 b1 4
  have z5 := box10 b1 5
  have z6 := box10 b1 6
  have z7 := box10 b1 7
  have z8 := box10 b1 8
  have z9 := box10 b1 9
  simp only [List.getElem?_cons_zero, List.getElem?_cons_succ] at z0 z1 z2 z3 z4 z5 z6 z7 z8 z9
  go_wp2_with fail
  with_reducible refine (cO _).mono ?_
  rintro o w3 ⟨rfl, b3⟩
  clear z0 z1 z2 z3 z4 z5 z6 z7 z8 z9
  have hT3 := (hT0.on b1).on b3
  have B3 := b0.trans ((b1.trans (b3.mono b1.size)).mono b0.size)
  go_upto_region 4 with (fail)
  have qE := RowAt.new w3 59 #[.int .i64 (V : Int), .int .i64 (S : Int), .int .i64 (C : Int), .int .i64 (N : Int), .int .i64 (T : Int), .int .i64 (D : Int), .int .i64 (R : Int), .int .i64 (K : Int), .int .i64 (G : Int), .int .u64 (Z : Int), .int .i64 (e : Int)]
  have bx := (Below.refl w3.heap.size w3).alloc (Nat.le_refl _) (.cells #[.int .i64 (V : Int), .int .i64 (S : Int), .int .i64 (C : Int), .int .i64 (N : Int), .int .i64 (T : Int), .int .i64 (D : Int), .int .i64 (R : Int), .int .i64 (K : Int), .int .i64 (G : Int), .int .u64 (Z : Int), .int .i64 (e : Int)] 59)
  have hT4 := hT3.on bx
  have B4 := B3.trans (bx.mono B3.size)
  clear hT0 hT3 b1 b3 bx B3 cF cMb cO b0
  generalize w3.alloc (.cells #[.int .i64 (V : Int), .int .i64 (S : Int), .int .i64 (C : Int), .int .i64 (N : Int), .int .i64 (T : Int), .int .i64 (D : Int), .int .i64 (R : Int), .int .i64 (K : Int), .int .i64 (G : Int), .int .u64 (Z : Int), .int .i64 (e : Int)] 59) = w4 at *
  generalize w3.heap.size = gE at *
  have y0 := qE.later7 0 _ rfl
  have y1 := qE.later7 1 _ rfl
  have y2 := qE.later7 2 _ rfl
  have y3 := qE.later7 3 _ rfl
  have y4 := qE.later7 4 _ rfl
  have y5 := qE.later7 5 _ rfl
  have y6 := qE.later7 6 _ rfl
  have y7 := qE.later7 7 _ rfl
  have y8 := qE.later7 8 _ rfl
  have y9 := qE.later7 9 _ rfl
  have y10 := qE.later7 10 _ rfl
  have HS : ∀ p : Later w4, Calls Tryd.prog 39 #[.agg #[.int .i64 (V : Int), .int .i64 (S : Int), .int .i64 (C : Int), .int .i64 (N : Int), .int .i64 (T : Int), .int .i64 (D : Int), .int .i64 (R : Int), .int .i64 (K : Int), .int .i64 (G : Int), .int .u64 (Z : Int), .int .i64 (e : Int)]] p.W fun o w_ => o = .returned (.int .u64 (sd : Int)) ∧ ∃ p : Later w4, w_ = p.W := fun p => later_of (cS _ (hT4.on p.h).1)
  have HB : ∀ p : Later w4, Calls Tryd.prog 38 #[.int .i64 (V : Int), .int .i64 (K : Int), .int .u64 (sd : Int), .int .i64 x] p.W fun o w_ => o = .returned (.tuple #[.int .i64 0, .int .i64 1]) ∧ ∃ p : Later w4, w_ = p.W := fun p => later_of (cB _)
  refine wp_region_later (by kernel_rfl) (by kernel_rfl) ?_
  repeat (go_big_quiet_step (first | (go_at_call 39; exact HS _) | (go_at_call 38; exact HB _)))
  refine wpQuiet_nil ?_
  intro _ hw'
  obtain ⟨pq, rfl⟩ := hw'
  have b5 := pq.h
  go_wp2_with fail
  refine bodyPost_ret (v := .tuple #[.int .i64 0, .int .i64 0, .int .i64 0, .int .i64 1]) (by simp [results, Tryd.results16, go_sem]) rfl ?_
  exact ⟨rfl, B4.trans (b5.mono B4.size)⟩
end Go.Proofs.YtjipibpcnheniaaDoor

namespace Go.Proofs.YtjipibpcnheniaaDoor
open Go.RowKit Go.Lib

set_option maxHeartbeats 1000000 in
theorem Subnet_yes (V S C N T D R K G Z x i : Nat) (w : World) (hT : Both w) (h : FitD V S C N T D R K G) (hx : x ≤ 1099511627776) (hi : i < C) :
    Calls Tryd.prog 14 #[.agg #[.int .i64 (V : Int), .int .i64 (S : Int), .int .i64 (C : Int), .int .i64 (N : Int), .int .i64 (T : Int), .int .i64 (D : Int), .int .i64 (R : Int), .int .i64 (K : Int), .int .i64 (G : Int), .int .u64 (Z : Int)], .int .i64 (x : Int), .int .i64 (i : Int)] w fun o w' => o = .returned (.tuple #[.int .i64 ((numD S C x i % N : Nat) : Int), .int .i64 0]) ∧ Below w.heap.size w w' := by
  obtain ⟨m1, m2⟩ := numC_bd h.s1 h.s2 h.c1 h.c2
  have n1 := h.n1
  have n2 := h.n2
  have hk := numD_lt (x := x) h.s1 hi
  have b0 := (Below.refl w.heap.size w).alloc (Nat.le_refl _) (.cells #[.int .i64 (V : Int), .int .i64 (S : Int), .int .i64 (C : Int), .int .i64 (N : Int), .int .i64 (T : Int), .int .i64 (D : Int), .int .i64 (R : Int), .int .i64 (K : Int), .int .i64 (G : Int), .int .u64 (Z : Int)] 24)
  have hT0 : Both (w.alloc (.cells #[.int .i64 (V : Int), .int .i64 (S : Int), .int .i64 (C : Int), .int .i64 (N : Int), .int .i64 (T : Int), .int .i64 (D : Int), .int .i64 (R : Int), .int .i64 (K : Int), .int .i64 (G : Int), .int .u64 (Z : Int)] 24)) := ⟨hT.1.below b0 hT.1.lt, hT.2.below b0 hT.2.lt⟩
  have cC := fun W hW => committee_yes V S C N T D R K G Z x i W hW h hx hi
  generalize numD S C x i = kk at *
  have e3 : (kk : Int).tmod (N : Int) = ((kk % N : Nat) : Int) := tmod_nat kk N
  have hr9 : kk % N ≤ kk := Nat.mod_le _ _
  generalize kk % N = r1 at *
  have e4 : IntKind.i64.wrap (r1 : Int) = (r1 : Int) := wrap_small (by omega) (by omega)
  have e5 : ((N : Int) = 0) = False := eq_false (by omega)
  have e6 : (N = 0) = False := eq_false (by omega)
  go_enter Tryd.func14, Tryd.ntmps14
  go_wp2_with fail
  with_reducible refine (cC _ hT0).mono ?_
  rintro o w1 ⟨rfl, b1⟩
  have z3 := box10 b1 3
  simp only [List.getElem?_cons_zero, List.getElem?_cons_succ] at z3
  go_wp2_with fail
  refine bodyPost_ret (v := .tuple #[.int .i64 (r1 : Int), .int .i64 0]) (by simp [results, Tryd.results14, go_sem]) rfl ?_
  exact ⟨rfl, b0.trans (b1.mono b0.size)⟩
set_option maxHeartbeats 1000000 in
theorem Subnet_no (v s c n t d r k g z x i : Int) (w : World) (hT : Both w) (h : fitsC v s c n t d r k g = false ∨ isTickB x = false ∨ i < 0 ∨ c ≤ i) :
    Calls Tryd.prog 14 #[.agg #[.int .i64 v, .int .i64 s, .int .i64 c, .int .i64 n, .int .i64 t, .int .i64 d, .int .i64 r, .int .i64 k, .int .i64 g, .int .u64 z], .int .i64 x, .int .i64 i] w fun o w' => o = .returned (.tuple #[.int .i64 0, .int .i64 1]) ∧ Below w.heap.size w w' := by
  have b0 := (Below.refl w.heap.size w).alloc (Nat.le_refl _) (.cells #[.int .i64 v, .int .i64 s, .int .i64 c, .int .i64 n, .int .i64 t, .int .i64 d, .int .i64 r, .int .i64 k, .int .i64 g, .int .u64 z] 24)
  have hT0 : Both (w.alloc (.cells #[.int .i64 v, .int .i64 s, .int .i64 c, .int .i64 n, .int .i64 t, .int .i64 d, .int .i64 r, .int .i64 k, .int .i64 g, .int .u64 z] 24)) := ⟨hT.1.below b0 hT.1.lt, hT.2.below b0 hT.2.lt⟩
  have cC := fun W hW => committee_no v s c n t d r k g z x i W hW h
  go_enter Tryd.func14, Tryd.ntmps14
  go_wp2_with fail
  with_reducible refine (cC _ hT0).mono ?_
  rintro o w1 ⟨rfl, b1⟩
  go_wp2_with fail
  refine bodyPost_ret (v := .tuple #[.int .i64 0, .int .i64 1]) (by simp [results, Tryd.results14, go_sem]) rfl ?_
  exact ⟨rfl, b0.trans (b1.mono b0.size)⟩
theorem words1 (w : World) (a : Nat) (t : TypeId) (g : Nat) (hg : w.heap.size = g) : Words (w.alloc (.cells #[.int .u64 (a : Int)] t)) (w.alloc (.cells #[.int .u64 (a : Int)] t)).heap.size (.slice (some ⟨g, 0, none⟩) 1 1) [a] := by
  subst hg
  exact Elems.row (xs := [a]) (RowAt.new w t #[.int .u64 (a : Int)])
theorem SlotRoot_any (x : Int) (u : Nat) (hu : IntKind.u64.wrap x = (u : Int)) (w : World) (hT : Tab w) : Calls Tryd.prog 19 #[.int .i64 x] w fun o w' => o = .returned (.int .u64 (foldB [u] : Int)) ∧ Below w.heap.size w w' := by
  have b0 := (Below.refl w.heap.size w).alloc (Nat.le_refl _) (.cells #[.int .u64 (u : Int)] 22)
  have cF := Fold_any [u] _ _ (words1 w u 22 w.heap.size rfl) (by simp) (hT.below b0 hT.lt)
  go_enter Tryd.func19, Tryd.ntmps19
  go_wp2_with fail
  with_reducible refine cF.mono ?_
  rintro o w1 ⟨rfl, b1⟩
  go_wp2_with fail
  go_ret
  exact ⟨rfl, b0.trans (b1.mono b0.size)⟩
theorem rSlotRoot_any (x : Int) (u : Nat) (hu : IntKind.u64.wrap x = (u : Int)) (w : World) : Calls Tryd.prog 20 #[.int .i64 x] w fun o w' => o = .returned (.int .u64 (foldB [u] : Int)) ∧ Below w.heap.size w w' := by
  have b0 := (Below.refl w.heap.size w).alloc (Nat.le_refl _) (.cells #[.int .u64 (u : Int)] 22)
  have cF := rFold_any [u] _ _ (words1 w u 22 w.heap.size rfl) (by simp)
  go_enter Tryd.func20, Tryd.ntmps20
  go_wp2_with fail
  with_reducible refine cF.mono ?_
  rintro o w1 ⟨rfl, b1⟩
  go_wp2_with fail
  go_ret
  exact ⟨rfl, b0.trans (b1.mono b0.size)⟩
/-- Whether one is selected, of a chain that fits, by so many and Aggregators. -/
def selD (y G : Nat) (f : Bool) (l : List Pr) : Bool := decide ((encT f l).2 = 0) && (decide (y / G = 0) || decide (moreH 14695981039346656037 (encT f l).1 % (y / G) = 0))
set_option maxHeartbeats 2000000 in
set_option maxRecDepth 100000 in
theorem Selected_yes (V S C N T D R K G Z y : Nat) (A : Option Addr) (pc : Nat) (f : Bool) (l : List Pr) (w : World) (hT : Both w) (h : FitD V S C N T D R K G) (hy : 1 ≤ y) (hy2 : y ≤ 9223372036854775807) (hx : Prs w w.heap.size (.slice A l.length pc) l) (h9 : l.length ≤ maxLen) (hl : (encT f l).1.length ≤ 1000) :
    Calls Tryd.prog 22 #[.agg #[.int .i64 (V : Int), .int .i64 (S : Int), .int .i64 (C : Int), .int .i64 (N : Int), .int .i64 (T : Int), .int .i64 (D : Int), .int .i64 (R : Int), .int .i64 (K : Int), .int .i64 (G : Int), .int .u64 (Z : Int)], .int .i64 (y : Int), .agg #[.bool f, .slice A l.length pc]] w fun o w' => o = .returned (.bool (selD y G f l)) ∧ Below w.heap.size w w' := by
  obtain ⟨g1, g2⟩ : 1 ≤ G ∧ G ≤ 16 := ⟨h.g1, h.g2⟩
  have b0 := (Below.refl w.heap.size w).alloc (Nat.le_refl _) (.cells #[.int .i64 (V : Int), .int .i64 (S : Int), .int .i64 (C : Int), .int .i64 (N : Int), .int .i64 (T : Int), .int .i64 (D : Int), .int .i64 (R : Int), .int .i64 (K : Int), .int .i64 (G : Int), .int .u64 (Z : Int)] 24)
  have b1 := b0.alloc b0.size (.cells #[.bool f, .slice A l.length pc] 28)
  obtain ⟨w2, hw2⟩ : ∃ w2, w2 = (w.alloc (.cells #[.int .i64 (V : Int), .int .i64 (S : Int), .int .i64 (C : Int), .int .i64 (N : Int), .int .i64 (T : Int), .int .i64 (D : Int), .int .i64 (R : Int), .int .i64 (K : Int), .int .i64 (G : Int), .int .u64 (Z : Int)] 24)).alloc (.cells #[.bool f, .slice A l.length pc] 28) := ⟨_, rfl⟩
  have q := (RowAt.new w 24 #[.int .i64 (V : Int), .int .i64 (S : Int), .int .i64 (C : Int), .int .i64 (N : Int), .int .i64 (T : Int), .int .i64 (D : Int), .int .i64 (R : Int), .int .i64 (K : Int), .int .i64 (G : Int), .int .u64 (Z : Int)]).alloc (.cells #[.bool f, .slice A l.length pc] 28)
  have qt := RowAt.new (w.alloc (.cells #[.int .i64 (V : Int), .int .i64 (S : Int), .int .i64 (C : Int), .int .i64 (N : Int), .int .i64 (T : Int), .int .i64 (D : Int), .int .i64 (R : Int), .int .i64 (K : Int), .int .i64 (G : Int), .int .u64 (Z : Int)] 24)) 28 #[.bool f, .slice A l.length pc]
  rw [World.size_alloc] at qt
  rw [← hw2] at b1 q qt
  have hT2 : Both w2 := ⟨hT.1.below b1 hT.1.lt, hT.2.below b1 hT.2.lt⟩
  have hx2 := hx.on b1
  have cF := Fits_eq h.fits (Z : Int) w2 hT2.2
  have g3 : ((y : Int) < 1) = False := eq_false (by omega)
  have g4 : (y < 1) = False := eq_false (by omega)
  have e3 : (y : Int).tdiv (G : Int) = ((y / G : Nat) : Int) := tdiv_nat y G
  have hq9 : y / G ≤ y := Nat.div_le_self _ _
  unfold selD
  have cE := fun W (hW : Below w2.heap.size w2 W) => Encode_any (.agg #[.bool f, .slice A l.length pc]) f l W ⟨_, rfl, hx2.on hW⟩ h9
  have hsz : ByteArray.size ⟨(encT f l).1.toArray⟩ ≤ 1000 := hl
  have cS := fun W hW => Sum_any ⟨(encT f l).1.toArray⟩ W hsz hW
  obtain ⟨sm, hsm⟩ : ∃ sm, moreH 14695981039346656037 (encT f l).1 = sm := ⟨_, rfl⟩
  have hsm2 : moreH 14695981039346656037 (ByteArray.mk (encT f l).1.toArray).data.toList = sm := hsm
  have hsmL : sm < 18446744073709551616 := by rw [← hsm]; exact moreH_lt (by decide) _
  rw [hsm2] at cS
  rw [hsm]
  clear hsm hsm2 hsz hl
  generalize ByteArray.mk (encT f l).1.toArray = bs at *
  generalize (encT f l).2 = er at *
  generalize y / G = by_ at *
  have e4 : IntKind.i64.wrap (by_ : Int) = (by_ : Int) := wrap_small (by omega) (by omega)
  have e5 : ((G : Int) = 0) = False := eq_false (by omega)
  have e6 : (G = 0) = False := eq_false (by omega)
  have e7 : IntKind.u64.wrap (by_ : Int) = (by_ : Int) := IntWalk.u64_in _ (by omega)
  go_enter Tryd.func22, Tryd.ntmps22
  go_upto_region 1 with (fail)
  rw [← hw2]
  clear hw2 b0
  have z : ∀ i, w2.cell? ⟨w.heap.size, i, none⟩ = (#[.int .i64 (V : Int), .int .i64 (S : Int), .int .i64 (C : Int), .int .i64 (N : Int), .int .i64 (T : Int), .int .i64 (D : Int), .int .i64 (R : Int), .int .i64 (K : Int), .int .i64 (G : Int), .int .u64 (Z : Int)] : Array Value).toList[i]? := fun i => q.cell i
  have z0 := z 0
  have z1 := z 1
  have z2 := z 2
  have z3 := z 3
  have z4 := z 4
  have z5 := z 5
  have z6 := z 6
  have z7 := z 7
  have z8 := z 8
  have z9 := z 9
  simp only [List.getElem?_cons_zero, List.getElem?_cons_succ] at z0 z1 z2 z3 z4 z5 z6 z7 z8 z9
  clear z
  go_wp2_with fail
  with_reducible refine cF.mono ?_
  rintro o w3 ⟨rfl, b3⟩
  clear z0 z1 z2 z3 z4 z5 z6 z7 z8 z9
  have B3 := b1.trans (b3.mono b1.size)
  have hT3 := hT2.on b3
  replace q := q.on b3
  obtain ⟨s0, s1⟩ := (qt.on b3).two
  have cE3 := cE _ b3
  go_wp2_with fail
  with_reducible refine cE3.mono ?_
  rintro o w4 ⟨rfl, b4⟩
  have B4 := B3.trans (b4.mono B3.size)
  have hT4 := hT3.on b4
  have z8 : w4.cell? ⟨w.heap.size, 8, none⟩ = some (.int .i64 (G : Int)) := (q.on b4).cell 8
  clear s0 s1 cE3 cE cF b4 b3 B3
  by_cases he : er = 0
  · subst he
    rcases Nat.eq_zero_or_pos by_ with h0 | h0
    · subst h0
      go_wp2_with fail
      go_ret
      exact ⟨by simp, B4⟩
    · have n1 : ((by_ : Int) = 0) = False := eq_false (by omega)
      have n2 : (by_ = 0) = False := eq_false (by omega)
      have n3 : ((by_ : Int) == 0) = false := by rw [beq_eq_false_iff_ne]; omega
      have e8 : (sm : Int).tmod (by_ : Int) = ((sm % by_ : Nat) : Int) := tmod_nat sm by_
      have hm9 : sm % by_ ≤ sm := Nat.mod_le _ _
      obtain ⟨md, hmd⟩ : ∃ md, sm % by_ = md := ⟨_, rfl⟩
      rw [hmd] at e8 hm9
      have HMD := Lib.hid hmd
      clear hmd
      have e9 : IntKind.u64.wrap (md : Int) = (md : Int) := IntWalk.u64_in _ (by omega)
      have cS4 := cS w4 hT4.1
      go_wp2_with fail
      with_reducible refine cS4.mono ?_
      rintro o w5 ⟨rfl, b5⟩
      have B5 := B4.trans (b5.mono B4.size)
      rcases Nat.eq_zero_or_pos md with hm | hm
      · subst hm
        go_wp2_with fail
        go_ret
        exact ⟨by simp [HMD.out], B5⟩
      · have hm0 : md ≠ 0 := by omega
        have hb0 : by_ ≠ 0 := by omega
        have n4 : ((md : Int) = 0) = False := eq_false (by omega)
        have n5 : (md = 0) = False := eq_false hm0
        have n6 : ((md : Int) == 0) = false := by rw [beq_eq_false_iff_ne]; omega
        go_wp2_with fail
        go_ret
        exact ⟨by simp [HMD.out, hm0, hb0], B5⟩
  · have n1 : (er = 0) = False := eq_false he
    have n3 : (er == 0) = false := by rw [beq_eq_false_iff_ne]; exact he
    have n4 : (er != 0) = true := by rw [bne, n3]; rfl
    go_wp2_with fail
    go_ret
    exact ⟨by simp [he], B4⟩
theorem Selected_no (v s c n t d r k g z y : Int) (x : Value) (fw : Bool) (vw : Value) (hx : x = .agg #[.bool fw, vw]) (w : World) (hT : Both w) (h : fitsC v s c n t d r k g = false ∨ y < 1) :
    Calls Tryd.prog 22 #[.agg #[.int .i64 v, .int .i64 s, .int .i64 c, .int .i64 n, .int .i64 t, .int .i64 d, .int .i64 r, .int .i64 k, .int .i64 g, .int .u64 z], .int .i64 y, x] w fun o w' => o = .returned (.bool false) ∧ Below w.heap.size w w' := by
  subst hx
  have b0 := (Below.refl w.heap.size w).alloc (Nat.le_refl _) (.cells #[.int .i64 v, .int .i64 s, .int .i64 c, .int .i64 n, .int .i64 t, .int .i64 d, .int .i64 r, .int .i64 k, .int .i64 g, .int .u64 z] 24)
  have b1 := b0.alloc b0.size (.cells #[.bool fw, vw] 28)
  obtain ⟨fit, hf⟩ : ∃ fit, fitsC v s c n t d r k g = fit := ⟨_, rfl⟩
  have sp : Spans ((w.alloc (.cells #[.int .i64 v, .int .i64 s, .int .i64 c, .int .i64 n, .int .i64 t, .int .i64 d, .int .i64 r, .int .i64 k, .int .i64 g, .int .u64 z] 24)).alloc (.cells #[.bool fw, vw] 28)) := hT.2.below b1 hT.2.lt
  have cF := Fits_eq hf z _ sp
  rw [hf] at h
  go_enter Tryd.func22, Tryd.ntmps22
  go_wp2_with fail
  with_reducible refine cF.mono ?_
  rintro o w3 ⟨rfl, b3⟩
  have B3 := b1.trans (b3.mono b1.size)
  cases fit
  · go_wp2_with fail
    go_ret
    exact ⟨rfl, B3⟩
  · have hy : (y < 1) = True := eq_true (by rcases h with h | h; cases h; exact h)
    go_wp2_with fail
    go_ret
    exact ⟨rfl, B3⟩
end Go.Proofs.YtjipibpcnheniaaDoor

namespace Go.Proofs.YtjipibpcnheniaaDoor
open Go.RowKit Go.Lib

theorem mem_zero (V sd a b : Nat) : memL V 0 sd a b = List.range' a (b - a) := by
  show (List.range' a (b - a)).map (fun j => j) = _
  exact List.map_id' _
theorem aw_fit : FitD 3 2 2 3 1 0 1 0 2 := ⟨by decide, by decide, by decide, by decide, by decide, by decide, by decide, by decide, by decide, by decide, by decide, by decide, by decide, by decide, by decide, by decide⟩
theorem aw_m00 (W : World) (hT : Both W) : Calls Tryd.prog 12 #[.agg #[.int .i64 3, .int .i64 2, .int .i64 2, .int .i64 3, .int .i64 1, .int .i64 0, .int .i64 1, .int .i64 0, .int .i64 2, .int .u64 0], .int .i64 0, .int .i64 0] W fun o w' => ∃ gg : Nat, o = .returned (.tuple #[.slice (some ⟨gg, 0, none⟩) 0 0, .int .i64 0]) ∧ Below W.heap.size W w' :=
  (Members_yes 3 2 2 3 1 0 1 0 2 0 0 0 W hT aw_fit (by decide) (by decide) [] (by rw [mem_zero]; decide)).mono fun o w' ⟨gg, ho, _, hb⟩ => ⟨gg, ho, hb⟩
theorem aw_m01 (W : World) (hT : Both W) : Calls Tryd.prog 12 #[.agg #[.int .i64 3, .int .i64 2, .int .i64 2, .int .i64 3, .int .i64 1, .int .i64 0, .int .i64 1, .int .i64 0, .int .i64 2, .int .u64 0], .int .i64 0, .int .i64 1] W fun o w' => ∃ gg : Nat, o = .returned (.tuple #[.slice (some ⟨gg, 0, none⟩) 1 1, .int .i64 0]) ∧ Ints w' w'.heap.size (.slice (some ⟨gg, 0, none⟩) 1 1) [0] ∧ Below W.heap.size W w' :=
  (Members_yes 3 2 2 3 1 0 1 0 2 0 0 1 W hT aw_fit (by decide) (by decide) [0] (by rw [mem_zero]; decide)).mono fun o w' ⟨gg, ho, hr, hb⟩ => ⟨gg, ho, ints_row hr, hb⟩
theorem aw_m51 (W : World) (hT : Both W) : Calls Tryd.prog 12 #[.agg #[.int .i64 3, .int .i64 2, .int .i64 2, .int .i64 3, .int .i64 1, .int .i64 0, .int .i64 1, .int .i64 0, .int .i64 2, .int .u64 0], .int .i64 5, .int .i64 1] W fun o w' => ∃ gg : Nat, o = .returned (.tuple #[.slice (some ⟨gg, 0, none⟩) 1 1, .int .i64 0]) ∧ Ints w' w'.heap.size (.slice (some ⟨gg, 0, none⟩) 1 1) [2] ∧ Below W.heap.size W w' :=
  (Members_yes 3 2 2 3 1 0 1 0 2 0 5 1 W hT aw_fit (by decide) (by decide) [2] (by rw [mem_zero]; decide)).mono fun o w' ⟨gg, ho, hr, hb⟩ => ⟨gg, ho, ints_row hr, hb⟩
theorem aw_w22 (W : World) (hT : Both W) : Calls Tryd.prog 16 #[.agg #[.int .i64 3, .int .i64 2, .int .i64 2, .int .i64 3, .int .i64 1, .int .i64 0, .int .i64 1, .int .i64 0, .int .i64 2, .int .u64 0], .int .i64 2, .int .i64 2] W fun o w' => o = .returned (.tuple #[.int .i64 5, .int .i64 1, .int .i64 0, .int .i64 0]) ∧ Below W.heap.size W w' :=
  Where_yes 3 2 2 3 1 0 1 0 2 0 2 2 W hT aw_fit (by decide) (by decide) 2 3 rfl (by decide)
theorem aw_m02 (W : World) (hT : Both W) : Calls Tryd.prog 12 #[.agg #[.int .i64 3, .int .i64 2, .int .i64 2, .int .i64 3, .int .i64 1, .int .i64 0, .int .i64 1, .int .i64 0, .int .i64 2, .int .u64 0], .int .i64 0, .int .i64 2] W fun o w' => o = .returned (.tuple #[.slice none 0 0, .int .i64 1]) ∧ Below W.heap.size W w' :=
  Members_no 3 2 2 3 1 0 1 0 2 0 0 2 W hT (.inr (.inr (.inr (by decide))))
theorem aw_w03 (W : World) (hT : Both W) : Calls Tryd.prog 16 #[.agg #[.int .i64 3, .int .i64 2, .int .i64 2, .int .i64 3, .int .i64 1, .int .i64 0, .int .i64 1, .int .i64 0, .int .i64 2, .int .u64 0], .int .i64 0, .int .i64 3] W fun o w' => o = .returned (.tuple #[.int .i64 0, .int .i64 0, .int .i64 0, .int .i64 1]) ∧ Below W.heap.size W w' :=
  Where_not 3 2 2 3 1 0 1 0 2 0 0 3 W hT aw_fit (by decide) (.inr (by decide))
theorem aw_s51 (W : World) (hT : Both W) : Calls Tryd.prog 14 #[.agg #[.int .i64 3, .int .i64 2, .int .i64 2, .int .i64 3, .int .i64 1, .int .i64 0, .int .i64 1, .int .i64 0, .int .i64 2, .int .u64 0], .int .i64 5, .int .i64 1] W fun o w' => o = .returned (.tuple #[.int .i64 0, .int .i64 0]) ∧ Below W.heap.size W w' :=
  Subnet_yes 3 2 2 3 1 0 1 0 2 0 5 1 W hT aw_fit (by decide) (by decide)
theorem aw_sel1 (W : World) (hT : Both W) : Calls Tryd.prog 22 #[.agg #[.int .i64 3, .int .i64 2, .int .i64 2, .int .i64 3, .int .i64 1, .int .i64 0, .int .i64 1, .int .i64 0, .int .i64 2, .int .u64 0], .int .i64 1, .agg #[.bool false, .slice none 0 0]] W fun o w' => o = .returned (.bool true) ∧ Below W.heap.size W w' := by
  have := Selected_yes 3 2 2 3 1 0 1 0 2 0 1 none 0 false [] W hT aw_fit (by decide) (by decide) (Prs.nil _ _) (by decide) (by decide)
  rw [show selD 1 2 false [] = true by decide] at this
  exact this
theorem aw_sel0 (W : World) (hT : Both W) : Calls Tryd.prog 22 #[.agg #[.int .i64 3, .int .i64 2, .int .i64 2, .int .i64 3, .int .i64 1, .int .i64 0, .int .i64 1, .int .i64 0, .int .i64 2, .int .u64 0], .int .i64 0, .agg #[.bool false, .slice none 0 0]] W fun o w' => o = .returned (.bool false) ∧ Below W.heap.size W w' :=
  Selected_no 3 2 2 3 1 0 1 0 2 0 0 _ false (.slice none 0 0) rfl W hT (.inr (by decide))
theorem aw_root (W : World) (hT : Both W) : ∃ x : Int, (∀ W, Both W → Calls Tryd.prog 19 #[.int .i64 0] W fun o w' => o = .returned (.int .u64 x) ∧ Below W.heap.size W w') ∧ (∀ W, Calls Tryd.prog 20 #[.int .i64 0] W fun o w' => o = .returned (.int .u64 x) ∧ Below W.heap.size W w') :=
  ⟨(foldB [0] : Int), fun W hW => SlotRoot_any 0 0 (by decide) W hW.1, fun W => rSlotRoot_any 0 0 (by decide) W⟩

set_option maxHeartbeats 4000000 in
set_option maxRecDepth 100000 in
theorem awake10_any (w : World) (hT : Both w) : Calls Tryd.prog 9 #[] w fun o w' => o = .returned (.bool true) ∧ Below w.heap.size w w' := by
  obtain ⟨rt, cR1, cR2⟩ := aw_root w hT
  have q := RowAt.new w 24 #[.int .i64 3, .int .i64 2, .int .i64 2, .int .i64 3, .int .i64 1, .int .i64 0, .int .i64 1, .int .i64 0, .int .i64 2, .int .u64 0]
  have B0 := (Below.refl w.heap.size w).alloc (Nat.le_refl _) (.cells #[.int .i64 3, .int .i64 2, .int .i64 2, .int .i64 3, .int .i64 1, .int .i64 0, .int .i64 1, .int .i64 0, .int .i64 2, .int .u64 0] 24)
  have hT0 : Both (w.alloc (.cells #[.int .i64 3, .int .i64 2, .int .i64 2, .int .i64 3, .int .i64 1, .int .i64 0, .int .i64 1, .int .i64 0, .int .i64 2, .int .u64 0] 24)) := ⟨hT.1.below B0 hT.1.lt, hT.2.below B0 hT.2.lt⟩
  go_enter Tryd.func9, Tryd.ntmps9
  go_upto_region 2 with (fail)
  obtain ⟨v0, hv0⟩ : ∃ v0, v0 = w.alloc (.cells #[.int .i64 3, .int .i64 2, .int .i64 2, .int .i64 3, .int .i64 1, .int .i64 0, .int .i64 1, .int .i64 0, .int .i64 2, .int .u64 0] 24) := ⟨_, rfl⟩
  rw [← hv0] at q B0 hT0 ⊢
  clear hv0
  obtain ⟨gC, hgC⟩ : ∃ gC, gC = w.heap.size := ⟨_, rfl⟩
  rw [← hgC] at q ⊢
  clear hgC
  have z0 : v0.cell? ⟨gC, 0, none⟩ = some (.int .i64 3) := q.cell 0
  have z1 : v0.cell? ⟨gC, 1, none⟩ = some (.int .i64 2) := q.cell 1
  have z2 : v0.cell? ⟨gC, 2, none⟩ = some (.int .i64 2) := q.cell 2
  have z3 : v0.cell? ⟨gC, 3, none⟩ = some (.int .i64 3) := q.cell 3
  have z4 : v0.cell? ⟨gC, 4, none⟩ = some (.int .i64 1) := q.cell 4
  have z5 : v0.cell? ⟨gC, 5, none⟩ = some (.int .i64 0) := q.cell 5
  have z6 : v0.cell? ⟨gC, 6, none⟩ = some (.int .i64 1) := q.cell 6
  have z7 : v0.cell? ⟨gC, 7, none⟩ = some (.int .i64 0) := q.cell 7
  have z8 : v0.cell? ⟨gC, 8, none⟩ = some (.int .i64 2) := q.cell 8
  have z9 : v0.cell? ⟨gC, 9, none⟩ = some (.int .u64 0) := q.cell 9
  go_wp2_with fail
  with_reducible refine (aw_m00 _ hT0).mono ?_
  rintro o v1 ⟨g1, rfl, bN⟩
  clear z0 z1 z2 z3 z4 z5 z6 z7 z8 z9
  replace q := q.on bN
  have hT1 := hT0.on bN
  have B1 := B0.trans (bN.mono B0.size)
  clear bN B0 hT0
  have z0 : v1.cell? ⟨gC, 0, none⟩ = some (.int .i64 3) := q.cell 0
  have z1 : v1.cell? ⟨gC, 1, none⟩ = some (.int .i64 2) := q.cell 1
  have z2 : v1.cell? ⟨gC, 2, none⟩ = some (.int .i64 2) := q.cell 2
  have z3 : v1.cell? ⟨gC, 3, none⟩ = some (.int .i64 3) := q.cell 3
  have z4 : v1.cell? ⟨gC, 4, none⟩ = some (.int .i64 1) := q.cell 4
  have z5 : v1.cell? ⟨gC, 5, none⟩ = some (.int .i64 0) := q.cell 5
  have z6 : v1.cell? ⟨gC, 6, none⟩ = some (.int .i64 1) := q.cell 6
  have z7 : v1.cell? ⟨gC, 7, none⟩ = some (.int .i64 0) := q.cell 7
  have z8 : v1.cell? ⟨gC, 8, none⟩ = some (.int .i64 2) := q.cell 8
  have z9 : v1.cell? ⟨gC, 9, none⟩ = some (.int .u64 0) := q.cell 9
  go_wp2_with fail
  with_reducible refine (aw_m01 _ hT1).mono ?_
  rintro o v2 ⟨g2, rfl, hM, bN⟩
  clear z0 z1 z2 z3 z4 z5 z6 z7 z8 z9
  replace q := q.on bN
  have hT2 := hT1.on bN
  have B2 := B1.trans (bN.mono B1.size)
  clear bN B1 hT1
  have z0 : v2.cell? ⟨gC, 0, none⟩ = some (.int .i64 3) := q.cell 0
  have z1 : v2.cell? ⟨gC, 1, none⟩ = some (.int .i64 2) := q.cell 1
  have z2 : v2.cell? ⟨gC, 2, none⟩ = some (.int .i64 2) := q.cell 2
  have z3 : v2.cell? ⟨gC, 3, none⟩ = some (.int .i64 3) := q.cell 3
  have z4 : v2.cell? ⟨gC, 4, none⟩ = some (.int .i64 1) := q.cell 4
  have z5 : v2.cell? ⟨gC, 5, none⟩ = some (.int .i64 0) := q.cell 5
  have z6 : v2.cell? ⟨gC, 6, none⟩ = some (.int .i64 1) := q.cell 6
  have z7 : v2.cell? ⟨gC, 7, none⟩ = some (.int .i64 0) := q.cell 7
  have z8 : v2.cell? ⟨gC, 8, none⟩ = some (.int .i64 2) := q.cell 8
  have z9 : v2.cell? ⟨gC, 9, none⟩ = some (.int .u64 0) := q.cell 9
  go_wp2_with fail
  with_reducible refine (aw_m51 _ hT2).mono ?_
  rintro o v3 ⟨g3, rfl, hN, bN⟩
  clear z0 z1 z2 z3 z4 z5 z6 z7 z8 z9
  replace q := q.on bN
  have hT3 := hT2.on bN
  replace hM := hM.on bN
  have B3 := B2.trans (bN.mono B2.size)
  clear bN B2 hT2
  have z0 : v3.cell? ⟨gC, 0, none⟩ = some (.int .i64 3) := q.cell 0
  have z1 : v3.cell? ⟨gC, 1, none⟩ = some (.int .i64 2) := q.cell 1
  have z2 : v3.cell? ⟨gC, 2, none⟩ = some (.int .i64 2) := q.cell 2
  have z3 : v3.cell? ⟨gC, 3, none⟩ = some (.int .i64 3) := q.cell 3
  have z4 : v3.cell? ⟨gC, 4, none⟩ = some (.int .i64 1) := q.cell 4
  have z5 : v3.cell? ⟨gC, 5, none⟩ = some (.int .i64 0) := q.cell 5
  have z6 : v3.cell? ⟨gC, 6, none⟩ = some (.int .i64 1) := q.cell 6
  have z7 : v3.cell? ⟨gC, 7, none⟩ = some (.int .i64 0) := q.cell 7
  have z8 : v3.cell? ⟨gC, 8, none⟩ = some (.int .i64 2) := q.cell 8
  have z9 : v3.cell? ⟨gC, 9, none⟩ = some (.int .u64 0) := q.cell 9
  go_wp2_with fail
  with_reducible refine (aw_w22 _ hT3).mono ?_
  rintro o v4 ⟨rfl, bN⟩
  clear z0 z1 z2 z3 z4 z5 z6 z7 z8 z9
  replace q := q.on bN
  have hT4 := hT3.on bN
  replace hM := hM.on bN
  replace hN := hN.on bN
  have B4 := B3.trans (bN.mono B3.size)
  clear bN B3 hT3
  have z0 : v4.cell? ⟨gC, 0, none⟩ = some (.int .i64 3) := q.cell 0
  have z1 : v4.cell? ⟨gC, 1, none⟩ = some (.int .i64 2) := q.cell 1
  have z2 : v4.cell? ⟨gC, 2, none⟩ = some (.int .i64 2) := q.cell 2
  have z3 : v4.cell? ⟨gC, 3, none⟩ = some (.int .i64 3) := q.cell 3
  have z4 : v4.cell? ⟨gC, 4, none⟩ = some (.int .i64 1) := q.cell 4
  have z5 : v4.cell? ⟨gC, 5, none⟩ = some (.int .i64 0) := q.cell 5
  have z6 : v4.cell? ⟨gC, 6, none⟩ = some (.int .i64 1) := q.cell 6
  have z7 : v4.cell? ⟨gC, 7, none⟩ = some (.int .i64 0) := q.cell 7
  have z8 : v4.cell? ⟨gC, 8, none⟩ = some (.int .i64 2) := q.cell 8
  have z9 : v4.cell? ⟨gC, 9, none⟩ = some (.int .u64 0) := q.cell 9
  go_wp2_with fail
  with_reducible refine (aw_m02 _ hT4).mono ?_
  rintro o v5 ⟨rfl, bN⟩
  clear z0 z1 z2 z3 z4 z5 z6 z7 z8 z9
  replace q := q.on bN
  have hT5 := hT4.on bN
  replace hM := hM.on bN
  replace hN := hN.on bN
  have B5 := B4.trans (bN.mono B4.size)
  clear bN B4 hT4
  have z0 : v5.cell? ⟨gC, 0, none⟩ = some (.int .i64 3) := q.cell 0
  have z1 : v5.cell? ⟨gC, 1, none⟩ = some (.int .i64 2) := q.cell 1
  have z2 : v5.cell? ⟨gC, 2, none⟩ = some (.int .i64 2) := q.cell 2
  have z3 : v5.cell? ⟨gC, 3, none⟩ = some (.int .i64 3) := q.cell 3
  have z4 : v5.cell? ⟨gC, 4, none⟩ = some (.int .i64 1) := q.cell 4
  have z5 : v5.cell? ⟨gC, 5, none⟩ = some (.int .i64 0) := q.cell 5
  have z6 : v5.cell? ⟨gC, 6, none⟩ = some (.int .i64 1) := q.cell 6
  have z7 : v5.cell? ⟨gC, 7, none⟩ = some (.int .i64 0) := q.cell 7
  have z8 : v5.cell? ⟨gC, 8, none⟩ = some (.int .i64 2) := q.cell 8
  have z9 : v5.cell? ⟨gC, 9, none⟩ = some (.int .u64 0) := q.cell 9
  go_wp2_with fail
  with_reducible refine (aw_w03 _ hT5).mono ?_
  rintro o v6 ⟨rfl, bN⟩
  clear z0 z1 z2 z3 z4 z5 z6 z7 z8 z9
  replace q := q.on bN
  have hT6 := hT5.on bN
  replace hM := hM.on bN
  replace hN := hN.on bN
  have B6 := B5.trans (bN.mono B5.size)
  clear bN B5 hT5
  have z0 : v6.cell? ⟨gC, 0, none⟩ = some (.int .i64 3) := q.cell 0
  have z1 : v6.cell? ⟨gC, 1, none⟩ = some (.int .i64 2) := q.cell 1
  have z2 : v6.cell? ⟨gC, 2, none⟩ = some (.int .i64 2) := q.cell 2
  have z3 : v6.cell? ⟨gC, 3, none⟩ = some (.int .i64 3) := q.cell 3
  have z4 : v6.cell? ⟨gC, 4, none⟩ = some (.int .i64 1) := q.cell 4
  have z5 : v6.cell? ⟨gC, 5, none⟩ = some (.int .i64 0) := q.cell 5
  have z6 : v6.cell? ⟨gC, 6, none⟩ = some (.int .i64 1) := q.cell 6
  have z7 : v6.cell? ⟨gC, 7, none⟩ = some (.int .i64 0) := q.cell 7
  have z8 : v6.cell? ⟨gC, 8, none⟩ = some (.int .i64 2) := q.cell 8
  have z9 : v6.cell? ⟨gC, 9, none⟩ = some (.int .u64 0) := q.cell 9
  go_wp2_with fail
  with_reducible refine (aw_s51 _ hT6).mono ?_
  rintro o v7 ⟨rfl, bN⟩
  clear z0 z1 z2 z3 z4 z5 z6 z7 z8 z9
  replace q := q.on bN
  have hT7 := hT6.on bN
  replace hM := hM.on bN
  replace hN := hN.on bN
  have B7 := B6.trans (bN.mono B6.size)
  clear bN B6 hT6
  have bA := (Below.refl v7.heap.size v7).alloc (Nat.le_refl _) (.cells #[.int .i64 0] 3)
  have hR : Ints (v7.alloc (.cells #[.int .i64 0] 3)) (v7.alloc (.cells #[.int .i64 0] 3)).heap.size (.slice (some ⟨v7.heap.size, 0, none⟩) 1 1) [0] := Elems.row (xs := [0]) (RowAt.new v7 3 #[.int .i64 0])
  have hL := hM.on bA
  go_wp2_with fail
  with_reducible refine (Ints_same _ _ [0] _ hL hR (by decide)).mono ?_
  rintro o v8 ⟨rfl, bM⟩
  have bN := bA.trans (bM.mono bA.size)
  replace q := q.on bN
  have hT8 := hT7.on bN
  replace hM := hM.on bN
  replace hN := hN.on bN
  have B8 := B7.trans (bN.mono B7.size)
  clear bN bM bA hR hL B7 hT7
  have bA := (Below.refl v8.heap.size v8).alloc (Nat.le_refl _) (.cells #[.int .i64 2] 3)
  have hR : Ints (v8.alloc (.cells #[.int .i64 2] 3)) (v8.alloc (.cells #[.int .i64 2] 3)).heap.size (.slice (some ⟨v8.heap.size, 0, none⟩) 1 1) [2] := Elems.row (xs := [2]) (RowAt.new v8 3 #[.int .i64 2])
  have hL := hN.on bA
  go_wp2_with fail
  with_reducible refine (Ints_same _ _ [2] _ hL hR (by decide)).mono ?_
  rintro o v9 ⟨rfl, bM⟩
  have bN := bA.trans (bM.mono bA.size)
  replace q := q.on bN
  have hT9 := hT8.on bN
  replace hM := hM.on bN
  replace hN := hN.on bN
  have B9 := B8.trans (bN.mono B8.size)
  clear bN bM bA hR hL B8 hT8
  have z0 : v9.cell? ⟨gC, 0, none⟩ = some (.int .i64 3) := q.cell 0
  have z1 : v9.cell? ⟨gC, 1, none⟩ = some (.int .i64 2) := q.cell 1
  have z2 : v9.cell? ⟨gC, 2, none⟩ = some (.int .i64 2) := q.cell 2
  have z3 : v9.cell? ⟨gC, 3, none⟩ = some (.int .i64 3) := q.cell 3
  have z4 : v9.cell? ⟨gC, 4, none⟩ = some (.int .i64 1) := q.cell 4
  have z5 : v9.cell? ⟨gC, 5, none⟩ = some (.int .i64 0) := q.cell 5
  have z6 : v9.cell? ⟨gC, 6, none⟩ = some (.int .i64 1) := q.cell 6
  have z7 : v9.cell? ⟨gC, 7, none⟩ = some (.int .i64 0) := q.cell 7
  have z8 : v9.cell? ⟨gC, 8, none⟩ = some (.int .i64 2) := q.cell 8
  have z9 : v9.cell? ⟨gC, 9, none⟩ = some (.int .u64 0) := q.cell 9
  go_wp2_with fail
  with_reducible refine (aw_sel1 _ hT9).mono ?_
  rintro o v10 ⟨rfl, bN⟩
  clear z0 z1 z2 z3 z4 z5 z6 z7 z8 z9
  replace q := q.on bN
  have hT10 := hT9.on bN
  replace hM := hM.on bN
  replace hN := hN.on bN
  have B10 := B9.trans (bN.mono B9.size)
  clear bN B9 hT9
  have z0 : v10.cell? ⟨gC, 0, none⟩ = some (.int .i64 3) := q.cell 0
  have z1 : v10.cell? ⟨gC, 1, none⟩ = some (.int .i64 2) := q.cell 1
  have z2 : v10.cell? ⟨gC, 2, none⟩ = some (.int .i64 2) := q.cell 2
  have z3 : v10.cell? ⟨gC, 3, none⟩ = some (.int .i64 3) := q.cell 3
  have z4 : v10.cell? ⟨gC, 4, none⟩ = some (.int .i64 1) := q.cell 4
  have z5 : v10.cell? ⟨gC, 5, none⟩ = some (.int .i64 0) := q.cell 5
  have z6 : v10.cell? ⟨gC, 6, none⟩ = some (.int .i64 1) := q.cell 6
  have z7 : v10.cell? ⟨gC, 7, none⟩ = some (.int .i64 0) := q.cell 7
  have z8 : v10.cell? ⟨gC, 8, none⟩ = some (.int .i64 2) := q.cell 8
  have z9 : v10.cell? ⟨gC, 9, none⟩ = some (.int .u64 0) := q.cell 9
  go_wp2_with fail
  with_reducible refine (aw_sel0 _ hT10).mono ?_
  rintro o v11 ⟨rfl, bN⟩
  clear z0 z1 z2 z3 z4 z5 z6 z7 z8 z9
  replace q := q.on bN
  have hT11 := hT10.on bN
  replace hM := hM.on bN
  replace hN := hN.on bN
  have B11 := B10.trans (bN.mono B10.size)
  clear bN B10 hT10
  go_wp2_with fail
  with_reducible refine (cR1 _ hT11).mono ?_
  rintro o v12 ⟨rfl, bN⟩
  replace q := q.on bN
  have hT12 := hT11.on bN
  replace hM := hM.on bN
  replace hN := hN.on bN
  have B12 := B11.trans (bN.mono B11.size)
  clear bN B11 hT11
  go_wp2_with fail
  with_reducible refine (cR2 _).mono ?_
  rintro o v13 ⟨rfl, bN⟩
  replace q := q.on bN
  have hT13 := hT12.on bN
  replace hM := hM.on bN
  replace hN := hN.on bN
  have B13 := B12.trans (bN.mono B12.size)
  clear bN B12 hT12
  go_wp2_with fail
  go_ret
  exact ⟨rfl, B13⟩
end Go.Proofs.YtjipibpcnheniaaDoor

namespace Go.Proofs.YtjipibpcnheniaaDoor
open Go.RowKit Go.Lib

theorem pick10_any (c n : Int) (w : World) (hc : -9223372036854775808 ≤ c ∧ c ≤ 9223372036854775807) (hn : 0 < n) (hn2 : n ≤ 2199023255552) :
    Calls Tryd.prog 11 #[.int .i64 c, .int .i64 n] w fun e w' => e = .returned (.int .i64 (pickS c n : Int)) ∧ w = w' := by
  rw [← pickS_eq c n hn]
  by_cases h : c < 0
  · rw [if_pos h]
    have he : -(c + 1) % n = -((c + 1).tmod n) := by
      rw [← Int.neg_tmod, Int.tmod_eq_emod_of_nonneg (by omega)]
    rw [he]
    clear he
    go_enter Tryd.func11, Tryd.ntmps11
    go_wp2
    go_ret
    exact ⟨rfl, rfl⟩
  · rw [if_neg h]
    go_enter Tryd.func11, Tryd.ntmps11
    go_wp2
    go_ret
    exact ⟨rfl, rfl⟩

/-- The raw chain is one that fits. -/
theorem raw_chain (n0 n1 n2 n3 n4 n5 : Int) (b0 : I64K n0) (b1 : I64K n1) (b2 : I64K n2) (b3 : I64K n3) (b4 : I64K n4) (b5 : I64K n5) (Z : Nat) : ∃ V S C N T D R K G : Nat, FitD V S C N T D R K G ∧
    ∀ w, Calls Tryd.prog 10 #[.agg #[.int .i64 n0, .int .i64 n1, .int .i64 n2, .int .i64 n3, .int .i64 n4, .int .i64 n5], .int .u64 (Z : Int)] w fun o w' => o = .returned (.agg #[.int .i64 (V : Int), .int .i64 (S : Int), .int .i64 (C : Int), .int .i64 (N : Int), .int .i64 (T : Int), .int .i64 (D : Int), .int .i64 (R : Int), .int .i64 (K : Int), .int .i64 (G : Int), .int .u64 (Z : Int)]) ∧ Below w.heap.size w w' := by
  obtain ⟨v, s, c, n, t, d, r, k, g, hc⟩ := chain_of n0 n1 n2 n3 n4 n5
  obtain ⟨V, S, C, N, T, D, R, K, G, rfl, rfl, rfl, rfl, rfl, rfl, rfl, rfl, rfl, hf⟩ := fit_nat hc.small.fits
  exact ⟨V, S, C, N, T, D, R, K, G, hf, fun w => Chain_any hc (Z : Int) w b0 b1 b2 b3 b4 b5⟩
end Go.Proofs.YtjipibpcnheniaaDoor
