/- The document's own answers of layer 11: may, Block, Nets, Next, Record.
   The document's own answers of layer 11: Next, Record, and whatever may not be.
   Layer 11's laws: pick, Plan, the raw chain, awake.
   Layer 11: the program's answers and the document's own are the same. -/
import Derived.Test.YthlajfoipafaaaaDoorSchE
import Derived.Test.YthlajfoipafaaaaDoorLagR
namespace Go.Proofs.YthlajfoipafaaaaDoor
open Go.RowKit Go.Lib

theorem ownsRow_on {w w' : World} {base : Nat} {e : TypeId} {size n : Nat} {v : Value} {xs : List Value} (h : w.ownsRow base e size v n xs) (hb : Below w.heap.size w w') : w'.ownsRow base e size v n xs := by
  refine ⟨h.1, ?_⟩
  rcases h.2 with h0 | ⟨g, cap, cur, hv, h1, h2, h3⟩
  · exact .inl h0
  · refine .inr ⟨g, cap, cur, hv, h1, (hb.block g ?_).trans h2, h3⟩
    rcases Nat.lt_or_ge g w.heap.size with k | k
    · exact k
    · rw [Array.getElem?_eq_none k] at h2; cases h2
theorem rBlock_any (U P E : Nat) (q : Int) (w : World) (h1 : 1 ≤ P) (h2 : P ≤ 256) (hE : E ≤ 1099511627776 + 300) : Calls Tryd.prog 30 #[.agg #[.int .u64 (U : Int), .int .i64 q, .int .i64 (P : Int)], .int .i64 (E : Int)] w fun o w' => o = .returned (.int .i64 (blkN U P E : Int)) ∧ Below w.heap.size w w' := by
  have e1 : IntKind.u64.wrap (P : Int) = (P : Int) := IntWalk.u64_in _ (by omega)
  have e2 : (U : Int).tmod (P : Int) = ((U % P : Nat) : Int) := tmod_nat U P
  have e3 : ((P : Int) = 0) = False := eq_false (by omega)
  have e4 : (P = 0) = False := eq_false (by omega)
  have hr : U % P < P := Nat.mod_lt _ (by omega)
  have hb : blkN U P E ≤ E + U % P := blk_le
  have e8 : ((E + U % P : Nat) : Int).tdiv (P : Int) = ((blkN U P E : Nat) : Int) := tdiv_nat (E + U % P) P
  generalize blkN U P E = B at *
  generalize U % P = r1 at *
  have e5 : IntKind.u64.wrap (r1 : Int) = (r1 : Int) := IntWalk.u64_in _ (by omega)
  have e6 : IntKind.i64.wrap (r1 : Int) = (r1 : Int) := wrap_small (by omega) (by omega)
  have e7 : (E : Int) + (r1 : Int) = ((E + r1 : Nat) : Int) := by omega
  generalize E + r1 = ES at *
  have e9 : IntKind.i64.wrap (ES : Int) = (ES : Int) := wrap_small (by omega) (by omega)
  have e10 : IntKind.i64.wrap (B : Int) = (B : Int) := wrap_small (by omega) (by omega)
  have q0 := RowAt.new w 26 #[.int .u64 (U : Int), .int .i64 q, .int .i64 (P : Int)]
  have b0 := (Below.refl w.heap.size w).alloc (Nat.le_refl _) (.cells #[.int .u64 (U : Int), .int .i64 q, .int .i64 (P : Int)] 26)
  have y0 := q0.later7 0 _ rfl
  have y2 := q0.later7 2 _ rfl
  go_enter Tryd.func30, Tryd.ntmps30
  go_upto_region 1 with (fail)
  refine wp_region_later (by kernel_rfl) (by kernel_rfl) ?_
  repeat (go_big_quiet_step (fail))
  refine wpQuiet_nil ?_
  intro _ hw'
  obtain ⟨pq, rfl⟩ := hw'
  go_wp2_with fail
  go_ret
  exact ⟨rfl, b0.trans (pq.h.mono b0.size)⟩
set_option maxHeartbeats 1000000 in
set_option maxRecDepth 100000 in
theorem rmay11_any (v s c n t d r k g z u q p e : Int) (w : World) : Calls Tryd.prog 28 #[.agg #[.int .i64 v, .int .i64 s, .int .i64 c, .int .i64 n, .int .i64 t, .int .i64 d, .int .i64 r, .int .i64 k, .int .i64 g, .int .u64 z], .agg #[.int .u64 u, .int .i64 q, .int .i64 p], .int .i64 e] w fun o w' => o = .returned (.bool (fitsC v s c n t d r k g && fitsP q p && isTickB e)) ∧ Below w.heap.size w w' := by
  have cF := fun W => rFits_eq (v := v) (s := s) (c := c) (n := n) (t := t) (d := d) (r := r) (k := k) (g := g) rfl z W
  have cP := fun W => rscFits_any u q p W
  generalize fitsC v s c n t d r k g = f1 at *
  generalize fitsP q p = f2 at *
  have b0 := ((Below.refl w.heap.size w).alloc (Nat.le_refl _) (.cells #[.int .i64 v, .int .i64 s, .int .i64 c, .int .i64 n, .int .i64 t, .int .i64 d, .int .i64 r, .int .i64 k, .int .i64 g, .int .u64 z] 24)).alloc (by simp) (.cells #[.int .u64 u, .int .i64 q, .int .i64 p] 26)
  have qc := (RowAt.new w 24 #[.int .i64 v, .int .i64 s, .int .i64 c, .int .i64 n, .int .i64 t, .int .i64 d, .int .i64 r, .int .i64 k, .int .i64 g, .int .u64 z]).alloc (.cells #[.int .u64 u, .int .i64 q, .int .i64 p] 26)
  have qp := RowAt.new (w.alloc (.cells #[.int .i64 v, .int .i64 s, .int .i64 c, .int .i64 n, .int .i64 t, .int .i64 d, .int .i64 r, .int .i64 k, .int .i64 g, .int .u64 z] 24)) 26 #[.int .u64 u, .int .i64 q, .int .i64 p]
  rw [World.size_alloc] at qp
  unfold isTickB
  obtain ⟨g1, hg1⟩ : ∃ g1, decide (0 ≤ e) = g1 := ⟨_, rfl⟩
  obtain ⟨g2, hg2⟩ : ∃ g2, decide (e ≤ 1099511627776) = g2 := ⟨_, rfl⟩
  rw [hg1, hg2]
  go_enter Tryd.func28, Tryd.ntmps28
  go_upto_region 1 with (fail)
  generalize (w.alloc (.cells #[.int .i64 v, .int .i64 s, .int .i64 c, .int .i64 n, .int .i64 t, .int .i64 d, .int .i64 r, .int .i64 k, .int .i64 g, .int .u64 z] 24)).alloc (.cells #[.int .u64 u, .int .i64 q, .int .i64 p] 26) = w0 at *
  have y := qc.cell
  have y0 := y 0
  have y1 := y 1
  have y2 := y 2
  have y3 := y 3
  have y4 := y 4
  have y5 := y 5
  have y6 := y 6
  have y7 := y 7
  have y8 := y 8
  have y9 := y 9
  simp only [List.getElem?_cons_zero, List.getElem?_cons_succ] at y0 y1 y2 y3 y4 y5 y6 y7 y8 y9
  clear y
  go_wp2_with fail
  with_reducible refine (cF _).mono ?_
  rintro o w1 ⟨rfl, b1⟩
  clear y0 y1 y2 y3 y4 y5 y6 y7 y8 y9 cF
  replace qp := qp.on b1
  have B1 := b0.trans (b1.mono b0.size)
  have x := qp.cell
  have x0 := x 0
  have x1 := x 1
  have x2 := x 2
  simp only [List.getElem?_cons_zero, List.getElem?_cons_succ] at x0 x1 x2
  clear x
  go_wp2_with fail
  with_reducible refine (cP _).mono ?_
  rintro o w2 ⟨rfl, b2⟩
  have B2 := B1.trans (b2.mono B1.size)
  clear x0 x1 x2 cP b1 b2 B1 b0
  cases f1
  · go_wp2_with fail
    go_ret
    exact ⟨by simp, B2⟩
  · cases f2
    · go_wp2_with fail
      go_ret
      exact ⟨by simp, B2⟩
    · by_cases he : 0 ≤ e
      · have i1 : (0 ≤ e) = True := eq_true he
        go_wp2_with fail
        go_ret
        exact ⟨by simp [← hg1, ← hg2, he], B2⟩
      · have i1 : (0 ≤ e) = False := eq_false he
        go_wp2_with fail
        go_ret
        exact ⟨by rw [← hg1, decide_eq_false (show ¬ 0 ≤ e by omega)]; simp, B2⟩
set_option maxHeartbeats 2000000 in
set_option maxRecDepth 100000 in
theorem rsNets_yes (V S C N T D R K G U Q P E : Nat) (z : Int) (w : World) (h : FitD V S C N T D R K G) (hp : FitP Q P) (hE : E ≤ 1099511627776) (L : List Int) (hL : netsI N (firstN N K U (blkN U P E)) Q = L) :
    Calls Tryd.prog 15 #[.agg #[.int .i64 (V : Int), .int .i64 (S : Int), .int .i64 (C : Int), .int .i64 (N : Int), .int .i64 (T : Int), .int .i64 (D : Int), .int .i64 (R : Int), .int .i64 (K : Int), .int .i64 (G : Int), .int .u64 z], .agg #[.int .u64 (U : Int), .int .i64 (Q : Int), .int .i64 (P : Int)], .int .i64 (E : Int)] w fun o w' => ∃ A c, o = .returned (.tuple #[.agg #[.int .i64 (N : Int), .slice A L.length c], .int .i64 0]) ∧ Bt w' (.agg #[.int .i64 (N : Int), .slice A L.length c]) N L ∧ FromOn w.heap.size (.slice A L.length c) ∧ Below w.heap.size w w' := by
  obtain ⟨p1, p2⟩ : 1 ≤ P ∧ P ≤ 256 := ⟨hp.p1, hp.p2⟩
  obtain ⟨n1, n2, k2⟩ : 1 ≤ N ∧ N ≤ 64 ∧ K ≤ 90 := ⟨h.n1, h.n2, h.k2⟩
  have hQ := hp.q2
  obtain ⟨i0, hi, hz0, hz1, hz2⟩ := info_parts info_int
  have cM : ∀ W, Calls Tryd.prog 28 #[.agg #[.int .i64 (V : Int), .int .i64 (S : Int), .int .i64 (C : Int), .int .i64 (N : Int), .int .i64 (T : Int), .int .i64 (D : Int), .int .i64 (R : Int), .int .i64 (K : Int), .int .i64 (G : Int), .int .u64 z], .agg #[.int .u64 (U : Int), .int .i64 (Q : Int), .int .i64 (P : Int)], .int .i64 (E : Int)] W fun o w' => o = .returned (.bool true) ∧ Below W.heap.size W w' := fun W => by
    have := rmay11_any V S C N T D R K G z U Q P E W
    rwa [h.fits, hp.fits, show isTickB (E : Int) = true by unfold isTickB; simp; omega] at this
  have cB := fun W => rBlock_any U P E (Q : Int) W p1 p2 (by omega)
  have hbk : blkN U P E ≤ E + U % P := blk_le
  have hsh : U % P < P := Nat.mod_lt _ (by omega)
  have hF := firstN_lt N K U (blkN U P E) n1
  have cP := fun W => rPlace_yes N K (foldB [U, blkN U P E]) (U % N) W n1 (by omega) (Nat.mod_lt _ (by omega)) k2
  change ∀ W, Calls _ _ _ _ fun e w' => e = .returned (.tuple #[.int .i64 (firstN N K U (blkN U P E) : Int), .int .i64 0]) ∧ _ at cP
  have cF0 := fun W (g : Nat) (hg : W.heap.size = g) => rFold_any [U, blkN U P E] _ _ (words2 W U (blkN U P E) 22 g hg) (by simp)
  rw [← prefI_all _ _ _ N (Nat.le_refl _)] at hL
  subst hL
  have e2 : (U : Int).tmod (N : Int) = ((U % N : Nat) : Int) := tmod_nat U N
  have hr : U % N < N := Nat.mod_lt _ (by omega)
  generalize firstN N K U (blkN U P E) = F at *
  generalize foldB [U, blkN U P E] = sd at *
  generalize blkN U P E = B at *
  generalize U % N = r1 at *
  have e0 : IntKind.u64.wrap (B : Int) = (B : Int) := IntWalk.u64_in _ (by omega)
  have e1 : IntKind.u64.wrap (N : Int) = (N : Int) := IntWalk.u64_in _ (by omega)
  have e3 : ((N : Int) = 0) = False := eq_false (by omega)
  have e4 : (N = 0) = False := eq_false (by omega)
  have e5 : IntKind.u64.wrap (r1 : Int) = (r1 : Int) := IntWalk.u64_in _ (by omega)
  have e6 : IntKind.i64.wrap (r1 : Int) = (r1 : Int) := wrap_small (by omega) (by omega)
  clear hsh hbk hE
  have B0 := Below.refl w.heap.size w
  go_enter Tryd.func15, Tryd.ntmps15
  go_upto_region 1 with (fail)
  replace B0 := B0.alloc B0.size (.cells #[.int .i64 (V : Int), .int .i64 (S : Int), .int .i64 (C : Int), .int .i64 (N : Int), .int .i64 (T : Int), .int .i64 (D : Int), .int .i64 (R : Int), .int .i64 (K : Int), .int .i64 (G : Int), .int .u64 z] 24)
  replace B0 := B0.alloc B0.size (.cells #[.int .u64 (U : Int), .int .i64 (Q : Int), .int .i64 (P : Int)] 26)
  replace B0 := B0.alloc B0.size (.cells #[.int .i64 0, .slice none 0 0] 37)
  have qc := RowAt.new w 24 #[.int .i64 (V : Int), .int .i64 (S : Int), .int .i64 (C : Int), .int .i64 (N : Int), .int .i64 (T : Int), .int .i64 (D : Int), .int .i64 (R : Int), .int .i64 (K : Int), .int .i64 (G : Int), .int .u64 z]
  replace qc := qc.alloc (.cells #[.int .u64 (U : Int), .int .i64 (Q : Int), .int .i64 (P : Int)] 26)
  replace qc := qc.alloc (.cells #[.int .i64 0, .slice none 0 0] 37)
  have qp := RowAt.new (w.alloc (.cells #[.int .i64 (V : Int), .int .i64 (S : Int), .int .i64 (C : Int), .int .i64 (N : Int), .int .i64 (T : Int), .int .i64 (D : Int), .int .i64 (R : Int), .int .i64 (K : Int), .int .i64 (G : Int), .int .u64 z] 24)) 26 #[.int .u64 (U : Int), .int .i64 (Q : Int), .int .i64 (P : Int)]
  replace qp := qp.alloc (.cells #[.int .i64 0, .slice none 0 0] 37)
  rw [World.size_alloc] at qp
  have q8 := RowAt.new ((w.alloc (.cells #[.int .i64 (V : Int), .int .i64 (S : Int), .int .i64 (C : Int), .int .i64 (N : Int), .int .i64 (T : Int), .int .i64 (D : Int), .int .i64 (R : Int), .int .i64 (K : Int), .int .i64 (G : Int), .int .u64 z] 24)).alloc (.cells #[.int .u64 (U : Int), .int .i64 (Q : Int), .int .i64 (P : Int)] 26)) 37 #[.int .i64 0, .slice none 0 0]
  rw [World.size_alloc, World.size_alloc] at q8
  generalize (((w.alloc (.cells #[.int .i64 (V : Int), .int .i64 (S : Int), .int .i64 (C : Int), .int .i64 (N : Int), .int .i64 (T : Int), .int .i64 (D : Int), .int .i64 (R : Int), .int .i64 (K : Int), .int .i64 (G : Int), .int .u64 z] 24)).alloc (.cells #[.int .u64 (U : Int), .int .i64 (Q : Int), .int .i64 (P : Int)] 26)).alloc (.cells #[.int .i64 0, .slice none 0 0] 37)) = v1_ at *
  clear h
  have qc_ := qc.cell
  have qc_0 := qc_ 0
  have qc_1 := qc_ 1
  have qc_2 := qc_ 2
  have qc_3 := qc_ 3
  have qc_4 := qc_ 4
  have qc_5 := qc_ 5
  have qc_6 := qc_ 6
  have qc_7 := qc_ 7
  have qc_8 := qc_ 8
  have qc_9 := qc_ 9
  simp only [List.getElem?_cons_zero, List.getElem?_cons_succ] at qc_0 qc_1 qc_2 qc_3 qc_4 qc_5 qc_6 qc_7 qc_8 qc_9
  clear qc_
  have qp_ := qp.cell
  have qp_0 := qp_ 0
  have qp_1 := qp_ 1
  have qp_2 := qp_ 2
  simp only [List.getElem?_cons_zero, List.getElem?_cons_succ] at qp_0 qp_1 qp_2
  clear qp_
  go_wp2_with fail
  with_reducible refine (cM _).mono ?_
  rintro o v2_ ⟨rfl, bN⟩
  clear qc_0 qc_1 qc_2 qc_3 qc_4 qc_5 qc_6 qc_7 qc_8 qc_9 qp_0 qp_1 qp_2
  replace qc := qc.on bN
  replace qp := qp.on bN
  replace q8 := q8.on bN
  replace B0 := B0.trans (bN.mono B0.size)
  clear bN
  clear cM
  go_upto_region 4 with (fail)
  have x0 := qp.laterT 0 _ rfl
  have x1 := qp.laterT 1 _ rfl
  have x2 := qp.laterT 2 _ rfl
  have HB := fun p : LaterT v2_ => laterT_of (p := p) (cB p.W)
  refine wp_region_later_tail0 6 3 (by kernel_rfl) (by kernel_rfl) ?_
  simp only [List.take_succ_cons, List.take_zero]
  repeat (go_big_quiet_step (first | (go_at_call 30; with_reducible exact HB _)))
  refine wpQuiet_nil ?_
  intro w' hw'
  obtain ⟨pq, rfl⟩ := hw'
  have bN := pq.h
  replace qc := qc.on bN
  replace qp := qp.on bN
  replace q8 := q8.on bN
  replace B0 := B0.trans (bN.mono B0.size)
  generalize pq.W = w4 at *
  clear HB cB x0 x1 x2 bN pq
  simp only [List.drop_succ_cons, List.drop_zero, List.take_succ_cons, List.take_zero]
  have bx := (Below.refl w4.heap.size w4).alloc (Nat.le_refl _) (.cells #[.int .u64 (U : Int), .int .u64 (B : Int)] 22)
  have cF := cF0 w4 _ rfl
  clear cF0
  go_wp2_with fail
  with_reducible refine cF.mono ?_
  rintro o w5 ⟨rfl, b5⟩
  have bN := bx.trans (b5.mono bx.size)
  clear cF
  replace qc := qc.on bN
  replace qp := qp.on bN
  replace q8 := q8.on bN
  replace B0 := B0.trans (bN.mono B0.size)
  clear bN bx b5
  go_upto_region 5 with (fail)
  have y0 := qc.later7 0 _ rfl
  have y1 := qc.later7 1 _ rfl
  have y2 := qc.later7 2 _ rfl
  have y3 := qc.later7 3 _ rfl
  have y4 := qc.later7 4 _ rfl
  have y5 := qc.later7 5 _ rfl
  have y6 := qc.later7 6 _ rfl
  have y7 := qc.later7 7 _ rfl
  have y8 := qc.later7 8 _ rfl
  have y9 := qc.later7 9 _ rfl
  have x0 := qp.later7 0 _ rfl
  have x1 := qp.later7 1 _ rfl
  have x2 := qp.later7 2 _ rfl
  have HP := fun p : Later w5 => later_of (p := p) (cP p.W)
  refine wp_region_later (by kernel_rfl) (by kernel_rfl) ?_
  repeat (go_big_quiet_step (first | (go_at_call 31; with_reducible exact HP _)))
  refine wpQuiet_nil ?_
  intro w' hw'
  obtain ⟨pq, rfl⟩ := hw'
  have bN := pq.h
  replace qc := qc.on bN
  replace qp := qp.on bN
  replace q8 := q8.on bN
  replace B0 := B0.trans (bN.mono B0.size)
  generalize pq.W = w6 at *
  clear HP cP bN pq y0 y1 y2 y3 y4 y5 y6 y7 y8 y9 x0 x1 x2
  have hl8 := q8.lt
  have qc_ := qc.cell
  have qc_0 := qc_ 0
  have qc_1 := qc_ 1
  have qc_2 := qc_ 2
  have qc_3 := qc_ 3
  have qc_4 := qc_ 4
  have qc_5 := qc_ 5
  have qc_6 := qc_ 6
  have qc_7 := qc_ 7
  have qc_8 := qc_ 8
  have qc_9 := qc_ 9
  simp only [List.getElem?_cons_zero, List.getElem?_cons_succ] at qc_0 qc_1 qc_2 qc_3 qc_4 qc_5 qc_6 qc_7 qc_8 qc_9
  clear qc_
  go_upto_region 7 with (fail)
  clear qc_0 qc_1 qc_2 qc_3 qc_4 qc_5 qc_6 qc_7 qc_8 qc_9
  have q12 := RowAt.new w6 37 #[.int .i64 (N : Int), .slice none 0 0]
  have bN := (Below.refl w6.heap.size w6).alloc (Nat.le_refl _) (.cells #[.int .i64 (N : Int), .slice none 0 0] 37)
  replace qc := qc.on bN
  replace qp := qp.on bN
  replace q8 := q8.on bN
  replace B0 := B0.trans (bN.mono B0.size)
  clear bN
  generalize w6.alloc (.cells #[.int .i64 (N : Int), .slice none 0 0] 37) = v3_ at *
  obtain ⟨g12, hg9⟩ : ∃ g12, g12 = w6.heap.size := ⟨_, rfl⟩
  rw [← hg9] at q12 hl8 ⊢
  clear hg9
  obtain ⟨w7, hw7⟩ : ∃ w7, w7 = v3_ := ⟨_, rfl⟩
  subst hw7
  have hl12 := q12.lt
  go_wp2_with fail
  go_loopw [13] (fun iv wr => ∃ i : Nat, i ≤ N ∧ iv = .int .i64 i ∧ (∃ u, RowAt wr g12 37 [.int .i64 (N : Int), u] ∧ wr.ownsRow w7.heap.size 3 1 u (prefI N F Q i).length ((prefI N F Q i).map (Value.int .i64))) ∧ RowAt wr (w.heap.size + 1 + 1) 37 [.int .i64 0, .slice none 0 0] ∧ RowAt wr w.heap.size 24 [.int .i64 (V : Int), .int .i64 (S : Int), .int .i64 (C : Int), .int .i64 (N : Int), .int .i64 (T : Int), .int .i64 (D : Int), .int .i64 (R : Int), .int .i64 (K : Int), .int .i64 (G : Int), .int .u64 z] ∧ RowAt wr (w.heap.size + 1) 26 [.int .u64 (U : Int), .int .i64 (Q : Int), .int .i64 (P : Int)] ∧ w7.heap.size ≤ wr.heap.size ∧ Below w.heap.size w wr) (fun i _ => N - (RowKit.intOf i).toNat)
  case atStart => exact ⟨0, Nat.zero_le _, rfl, ⟨_, q12, World.ownsRow_nil _ _ _ _⟩, q8, qc, qp, Nat.le_refl _, B0⟩
  case round =>
    obtain ⟨i, hip, rfl, ⟨u, r12, hown⟩, r8, rc, rp, hsz, hB⟩ := hrel
    clear q12 q8 qc qp B0
    have z3 := rc.cell 3
    simp only [List.getElem?_cons_zero, List.getElem?_cons_succ] at z3
    by_cases hlt : i < N
    · have g1 : ((i : Int) < (N : Int)) = True := eq_true (by omega)
      have g2 : (i < N) = True := eq_true hlt
      have hlen := prefI_len N F Q i
      have HON := Lib.hid (@prefI_on N F Q i)
      have HOFF := Lib.hid (@prefI_off N F Q i)
      have j1 : IntKind.i64.wrap ((i : Int) - (F : Int)) = (i : Int) - (F : Int) := IntWalk.i64_in _ (by omega)
      have j2 : (i : Int) - (F : Int) + (N : Int) = ((i + N - F : Nat) : Int) := by omega
      have j3 : IntKind.i64.wrap ((i + N - F : Nat) : Int) = ((i + N - F : Nat) : Int) := wrap_small (by omega) (by omega)
      have j4 : ((i + N - F : Nat) : Int).tmod (N : Int) = (((i + N - F) % N : Nat) : Int) := tmod_nat (i + N - F) N
      have hm9 : (i + N - F) % N < N := Nat.mod_lt _ (by omega)
      have hon : onB N F Q i = decide ((i + N - F) % N < Q) := by unfold onB; simp [hlt]
      rw [hon] at HON HOFF
      clear hon
      generalize i + N - F = P1 at *
      generalize P1 % N = md at *
      have j5 : IntKind.i64.wrap (md : Int) = (md : Int) := wrap_small (by omega) (by omega)
      go_upto_region 10 with (fail)
      clear z3
      have y3 := rc.later7 3 _ rfl
      have x1 := rp.later7 1 _ rfl
      refine wp_region_later (by kernel_rfl) (by kernel_rfl) ?_
      repeat (go_big_quiet_step (fail))
      refine wpQuiet_nil ?_
      intro w' hw'
      obtain ⟨pq, rfl⟩ := hw'
      have bq := pq.h
      have hown' := ownsRow_on hown bq
      replace r12 := r12.on bq
      replace r8 := r8.on bq
      replace rc := rc.on bq
      replace rp := rp.on bq
      have hB' := hB.trans (bq.mono hB.size)
      have hsz' : w7.heap.size ≤ pq.W.heap.size := Nat.le_trans hsz bq.size
      generalize pq.W = w9 at *
      clear bq pq y3 x1 hown hB hsz
      by_cases hmq : md < Q
      · have g3 : ((md : Int) < (Q : Int)) = True := eq_true (by omega)
        have g4 : (md < Q) = True := eq_true hmq
        obtain ⟨c10, c11⟩ := r12.two
        go_wp2_with (at_builtin; refine wpList_append_own _ rfl _ _ 35 rfl w7.heap.size 3 i0 (.int .i64 0) 1 8 Tryd.underlying35 hi hz0 hz1 hz2 rfl (by decide) _ _ _ rfl (hown'.alloc _) ⟨w9.heap.size, 0, none⟩ 1 1 [.int .i64 (i : Int)] rfl rfl (cell_one_new _ _ _) (by simp [Value.oneCell']) (by have : maxLen = 9223372036854775807 := rfl; omega) (by omega) (by simp; omega) ?_; intro v' w10 hown2 hgrow _; obtain ⟨g', cap', rfl⟩ := ownsRow_succ hown2; have d3 := rowAt_append hown' hgrow r12 (by omega); have d31 := d3.cell 1; have d30 := d3.frozen 1; simp only [List.getElem?_cons_zero, List.getElem?_cons_succ] at d31)
        have hgrow' : (w9.alloc (.cells #[.int .i64 (i : Int)] 3)).grownBy w10 u.ownBlock := hgrow
        have hlC := rc.lt
        have hlP := rp.lt
        go_roundw
        case rel =>
          refine ⟨i + 1, by omega, by go_num, ⟨_, d3.set 1 _, ?_⟩, (rowAt_append hown' hgrow' r8 (by omega)).far (p := ⟨g12, 1, none⟩) (by show w.heap.size + 1 + 1 ≠ g12; omega) _, (rowAt_append hown' hgrow' rc (by omega)).far (p := ⟨g12, 1, none⟩) (by show w.heap.size ≠ g12; omega) _, (rowAt_append hown' hgrow' rp (by omega)).far (p := ⟨g12, 1, none⟩) (by show w.heap.size + 1 ≠ g12; omega) _, ?_, hB'.trans (below_append hown' hgrow' (by omega) (by have := hB'.size; omega) (p := ⟨g12, 1, none⟩) (by show w.heap.size ≤ g12; omega) _)⟩
          · have := ownsRow_setCell_below hown2 (a := ⟨g12, 1, none⟩) (by show g12 < _; omega) (.slice (some ⟨g', 0, none⟩) ((prefI N F Q i).length + 1) cap')
            rw [HON.out (by simpa using hmq)]
            simpa using this
          · have := hgrow'.size
            simp [World.setCell] at this ⊢
            omega
        case measure => simp [RowKit.intOf]; omega
      · have g3 : ((md : Int) < (Q : Int)) = False := eq_false (by omega)
        have g4 : (md < Q) = False := eq_false hmq
        go_wp2_with fail
        go_roundw
        case rel =>
          refine ⟨i + 1, by omega, by go_num, ⟨u, r12, ?_⟩, r8, rc, rp, hsz', hB'⟩
          rw [HOFF.out (by simpa using hmq)]; exact hown'
        case measure => simp [RowKit.intOf]; omega
    · obtain rfl : i = N := by omega
      have g1 : ((i : Int) < (i : Int)) = False := eq_false (by omega)
      obtain ⟨Au, cu, rfl⟩ : ∃ Au cu, u = .slice Au (prefI i F Q i).length cu := by
        obtain ⟨Au, cu, e, _⟩ := (Elems.own (enc := Value.int .i64) (xs := prefI i F Q i) hown).form
        exact ⟨Au, cu, e⟩
      have HO := Lib.hid hown
      have HQ := Lib.hid r8
      obtain ⟨c00, c01⟩ := r8.two
      obtain ⟨c10, c11⟩ := r12.two
      have f0 := r8.frozen 0
      have f1 := r8.frozen 1
      clear hown r8
      go_wp2_with fail
      have R := (HQ.out.set 0 (.int .i64 (i : Int))).set 1 (.slice Au (prefI i F Q i).length cu)
      have e0 := R.cell 0
      have e1 := R.cell 1
      simp only [List.set_cons_zero, List.set_cons_succ, List.getElem?_cons_zero, List.getElem?_cons_succ] at e0 e1
      refine bodyPost_ret (v := .tuple #[.agg #[.int .i64 (i : Int), .slice Au (prefI i F Q i).length cu], .int .i64 0]) (by simp [results, Tryd.results15, go_sem, e0, e1]) rfl ?_
      refine ⟨Au, cu, rfl, ⟨_, rfl, ?_⟩, (fromOn_own HO.out).less (by omega), (hB.setCell (p := ⟨w.heap.size + 1 + 1, 0, none⟩) (by show w.heap.size ≤ w.heap.size + 1 + 1; omega) _).setCell (p := ⟨w.heap.size + 1 + 1, 1, none⟩) (by show w.heap.size ≤ w.heap.size + 1 + 1; omega) _⟩
      have := ownsRow_setCell_below (ownsRow_setCell_below HO.out (a := ⟨w.heap.size + 1 + 1, 0, none⟩) (by show w.heap.size + 1 + 1 < _; omega) (.int .i64 (i : Int))) (a := ⟨w.heap.size + 1 + 1, 1, none⟩) (by show w.heap.size + 1 + 1 < _; omega) (.slice Au (prefI i F Q i).length cu)
      exact Elems.own this



end Go.Proofs.YthlajfoipafaaaaDoor

namespace Go.Proofs.YthlajfoipafaaaaDoor
open Go.RowKit Go.Lib

set_option maxHeartbeats 1000000 in
set_option maxRecDepth 100000 in
theorem rsNets_no (v s c n t d r k g z u q p e : Int) (w : World) (hno : (fitsC v s c n t d r k g && fitsP q p && isTickB e) = false) :
    Calls Tryd.prog 15 #[.agg #[.int .i64 v, .int .i64 s, .int .i64 c, .int .i64 n, .int .i64 t, .int .i64 d, .int .i64 r, .int .i64 k, .int .i64 g, .int .u64 z], .agg #[.int .u64 u, .int .i64 q, .int .i64 p], .int .i64 e] w fun o w' => o = .returned (.tuple #[.agg #[.int .i64 0, .slice none 0 0], .int .i64 1]) ∧ Below w.heap.size w w' := by
  have cM := fun W => rmay11_any v s c n t d r k g z u q p e W
  rw [hno] at cM
  have B0 := Below.refl w.heap.size w
  go_enter Tryd.func15, Tryd.ntmps15
  go_upto_region 1 with (fail)
  replace B0 := B0.alloc B0.size (.cells #[.int .i64 v, .int .i64 s, .int .i64 c, .int .i64 n, .int .i64 t, .int .i64 d, .int .i64 r, .int .i64 k, .int .i64 g, .int .u64 z] 24)
  replace B0 := B0.alloc B0.size (.cells #[.int .u64 u, .int .i64 q, .int .i64 p] 26)
  replace B0 := B0.alloc B0.size (.cells #[.int .i64 0, .slice none 0 0] 37)
  have qc := RowAt.new w 24 #[.int .i64 v, .int .i64 s, .int .i64 c, .int .i64 n, .int .i64 t, .int .i64 d, .int .i64 r, .int .i64 k, .int .i64 g, .int .u64 z]
  replace qc := qc.alloc (.cells #[.int .u64 u, .int .i64 q, .int .i64 p] 26)
  replace qc := qc.alloc (.cells #[.int .i64 0, .slice none 0 0] 37)
  have qp := RowAt.new (w.alloc (.cells #[.int .i64 v, .int .i64 s, .int .i64 c, .int .i64 n, .int .i64 t, .int .i64 d, .int .i64 r, .int .i64 k, .int .i64 g, .int .u64 z] 24)) 26 #[.int .u64 u, .int .i64 q, .int .i64 p]
  replace qp := qp.alloc (.cells #[.int .i64 0, .slice none 0 0] 37)
  rw [World.size_alloc] at qp
  have q8 := RowAt.new ((w.alloc (.cells #[.int .i64 v, .int .i64 s, .int .i64 c, .int .i64 n, .int .i64 t, .int .i64 d, .int .i64 r, .int .i64 k, .int .i64 g, .int .u64 z] 24)).alloc (.cells #[.int .u64 u, .int .i64 q, .int .i64 p] 26)) 37 #[.int .i64 0, .slice none 0 0]
  rw [World.size_alloc, World.size_alloc] at q8
  generalize (((w.alloc (.cells #[.int .i64 v, .int .i64 s, .int .i64 c, .int .i64 n, .int .i64 t, .int .i64 d, .int .i64 r, .int .i64 k, .int .i64 g, .int .u64 z] 24)).alloc (.cells #[.int .u64 u, .int .i64 q, .int .i64 p] 26)).alloc (.cells #[.int .i64 0, .slice none 0 0] 37)) = v1_ at *
  have qc_ := qc.cell
  have qc_0 := qc_ 0
  have qc_1 := qc_ 1
  have qc_2 := qc_ 2
  have qc_3 := qc_ 3
  have qc_4 := qc_ 4
  have qc_5 := qc_ 5
  have qc_6 := qc_ 6
  have qc_7 := qc_ 7
  have qc_8 := qc_ 8
  have qc_9 := qc_ 9
  simp only [List.getElem?_cons_zero, List.getElem?_cons_succ] at qc_0 qc_1 qc_2 qc_3 qc_4 qc_5 qc_6 qc_7 qc_8 qc_9
  clear qc_
  have qp_ := qp.cell
  have qp_0 := qp_ 0
  have qp_1 := qp_ 1
  have qp_2 := qp_ 2
  simp only [List.getElem?_cons_zero, List.getElem?_cons_succ] at qp_0 qp_1 qp_2
  clear qp_
  go_wp2_with fail
  with_reducible refine (cM _).mono ?_
  rintro o v2_ ⟨rfl, bN⟩
  clear qc_0 qc_1 qc_2 qc_3 qc_4 qc_5 qc_6 qc_7 qc_8 qc_9 qp_0 qp_1 qp_2
  replace qc := qc.on bN
  replace qp := qp.on bN
  replace q8 := q8.on bN
  replace B0 := B0.trans (bN.mono B0.size)
  clear bN
  have f0 := q8.frozen 0
  have f1 := q8.frozen 1
  obtain ⟨c0, c1⟩ := q8.two
  go_wp2_with fail
  have R := (q8.set 0 (.int .i64 0)).set 1 (.slice none 0 0)
  have e0 := R.cell 0
  have e1 := R.cell 1
  simp only [List.set_cons_zero, List.set_cons_succ, List.getElem?_cons_zero, List.getElem?_cons_succ] at e0 e1
  refine bodyPost_ret (v := .tuple #[.agg #[.int .i64 0, .slice none 0 0], .int .i64 1]) (by simp [results, Tryd.results15, go_sem, e0, e1]) rfl ?_
  exact ⟨rfl, (B0.setCell (p := ⟨w.heap.size + 1 + 1, 0, none⟩) (by simp; omega) (.int .i64 0)).setCell (p := ⟨w.heap.size + 1 + 1, 1, none⟩) (by simp; omega) (.slice none 0 0)⟩
set_option maxHeartbeats 1000000 in
set_option maxRecDepth 100000 in
theorem rsNext_no (v s c n t d r k g z u q p e : Int) (w : World) (hno : (fitsC v s c n t d r k g && fitsP q p && isTickB e) = false) :
    Calls Tryd.prog 17 #[.agg #[.int .i64 v, .int .i64 s, .int .i64 c, .int .i64 n, .int .i64 t, .int .i64 d, .int .i64 r, .int .i64 k, .int .i64 g, .int .u64 z], .agg #[.int .u64 u, .int .i64 q, .int .i64 p], .int .i64 e] w fun o w' => o = .returned (.tuple #[.int .i64 0, .int .i64 1]) ∧ Below w.heap.size w w' := by
  have cM := fun W => rmay11_any v s c n t d r k g z u q p e W
  rw [hno] at cM
  have B0 := Below.refl w.heap.size w
  go_enter Tryd.func17, Tryd.ntmps17
  go_upto_region 1 with (fail)
  replace B0 := B0.alloc B0.size (.cells #[.int .i64 v, .int .i64 s, .int .i64 c, .int .i64 n, .int .i64 t, .int .i64 d, .int .i64 r, .int .i64 k, .int .i64 g, .int .u64 z] 24)
  replace B0 := B0.alloc B0.size (.cells #[.int .u64 u, .int .i64 q, .int .i64 p] 26)
  have qc := RowAt.new w 24 #[.int .i64 v, .int .i64 s, .int .i64 c, .int .i64 n, .int .i64 t, .int .i64 d, .int .i64 r, .int .i64 k, .int .i64 g, .int .u64 z]
  replace qc := qc.alloc (.cells #[.int .u64 u, .int .i64 q, .int .i64 p] 26)
  have qp := RowAt.new (w.alloc (.cells #[.int .i64 v, .int .i64 s, .int .i64 c, .int .i64 n, .int .i64 t, .int .i64 d, .int .i64 r, .int .i64 k, .int .i64 g, .int .u64 z] 24)) 26 #[.int .u64 u, .int .i64 q, .int .i64 p]
  rw [World.size_alloc] at qp
  generalize ((w.alloc (.cells #[.int .i64 v, .int .i64 s, .int .i64 c, .int .i64 n, .int .i64 t, .int .i64 d, .int .i64 r, .int .i64 k, .int .i64 g, .int .u64 z] 24)).alloc (.cells #[.int .u64 u, .int .i64 q, .int .i64 p] 26)) = v1_ at *
  have qc_ := qc.cell
  have qc_0 := qc_ 0
  have qc_1 := qc_ 1
  have qc_2 := qc_ 2
  have qc_3 := qc_ 3
  have qc_4 := qc_ 4
  have qc_5 := qc_ 5
  have qc_6 := qc_ 6
  have qc_7 := qc_ 7
  have qc_8 := qc_ 8
  have qc_9 := qc_ 9
  simp only [List.getElem?_cons_zero, List.getElem?_cons_succ] at qc_0 qc_1 qc_2 qc_3 qc_4 qc_5 qc_6 qc_7 qc_8 qc_9
  clear qc_
  have qp_ := qp.cell
  have qp_0 := qp_ 0
  have qp_1 := qp_ 1
  have qp_2 := qp_ 2
  simp only [List.getElem?_cons_zero, List.getElem?_cons_succ] at qp_0 qp_1 qp_2
  clear qp_
  go_wp2_with fail
  with_reducible refine (cM _).mono ?_
  rintro o v2_ ⟨rfl, bN⟩
  clear qc_0 qc_1 qc_2 qc_3 qc_4 qc_5 qc_6 qc_7 qc_8 qc_9 qp_0 qp_1 qp_2
  replace qc := qc.on bN
  replace qp := qp.on bN
  replace B0 := B0.trans (bN.mono B0.size)
  clear bN
  go_wp2_with fail
  go_ret2
  exact ⟨rfl, B0⟩
set_option maxHeartbeats 1000000 in
set_option maxRecDepth 100000 in
theorem rsNext_yes (V S C N T D R K G U Q P E : Nat) (z : Int) (w : World) (h : FitD V S C N T D R K G) (hp : FitP Q P) (hE : E ≤ 1099511627776) :
    Calls Tryd.prog 17 #[.agg #[.int .i64 (V : Int), .int .i64 (S : Int), .int .i64 (C : Int), .int .i64 (N : Int), .int .i64 (T : Int), .int .i64 (D : Int), .int .i64 (R : Int), .int .i64 (K : Int), .int .i64 (G : Int), .int .u64 z], .agg #[.int .u64 (U : Int), .int .i64 (Q : Int), .int .i64 (P : Int)], .int .i64 (E : Int)] w fun o w' => o = .returned (.tuple #[.int .i64 (endN U P (blkN U P E) : Int), .int .i64 0]) ∧ Below w.heap.size w w' := by
  obtain ⟨p1, p2⟩ : 1 ≤ P ∧ P ≤ 256 := ⟨hp.p1, hp.p2⟩
  have cM : ∀ W, Calls Tryd.prog 28 #[.agg #[.int .i64 (V : Int), .int .i64 (S : Int), .int .i64 (C : Int), .int .i64 (N : Int), .int .i64 (T : Int), .int .i64 (D : Int), .int .i64 (R : Int), .int .i64 (K : Int), .int .i64 (G : Int), .int .u64 z], .agg #[.int .u64 (U : Int), .int .i64 (Q : Int), .int .i64 (P : Int)], .int .i64 (E : Int)] W fun o w' => o = .returned (.bool true) ∧ Below W.heap.size W w' := fun W => by
    have := rmay11_any V S C N T D R K G z U Q P E W
    rwa [h.fits, hp.fits, show isTickB (E : Int) = true by unfold isTickB; simp; omega] at this
  have hgt := end_gt (U := U) (P := P) (e := E) p1
  have HSM := Lib.hid (fun (y : Nat) (hy : E ≤ y) => blk_same (U := U) (e := E) p1 hy)
  have HBE := Lib.hid (blk_end (U := U) (P := P) (e := E) p1)
  obtain ⟨nx, hnx⟩ : ∃ nx, endN U P (blkN U P E) = nx := ⟨_, rfl⟩
  rw [hnx] at hgt HSM HBE ⊢
  have cB0 := fun W => rBlock_any U P E (Q : Int) W p1 p2 (by omega)
  have HBJ := Lib.hid (fun (j : Nat) (hj : j ≤ nx) W => rBlock_any U P j (Q : Int) W p1 p2 (by omega))
  obtain ⟨B, hB⟩ : ∃ B, blkN U P E = B := ⟨_, rfl⟩
  rw [hB] at HSM HBE cB0
  clear hB hnx h
  have B0 := Below.refl w.heap.size w
  go_enter Tryd.func17, Tryd.ntmps17
  go_upto_region 1 with (fail)
  replace B0 := B0.alloc B0.size (.cells #[.int .i64 (V : Int), .int .i64 (S : Int), .int .i64 (C : Int), .int .i64 (N : Int), .int .i64 (T : Int), .int .i64 (D : Int), .int .i64 (R : Int), .int .i64 (K : Int), .int .i64 (G : Int), .int .u64 z] 24)
  replace B0 := B0.alloc B0.size (.cells #[.int .u64 (U : Int), .int .i64 (Q : Int), .int .i64 (P : Int)] 26)
  have qc := RowAt.new w 24 #[.int .i64 (V : Int), .int .i64 (S : Int), .int .i64 (C : Int), .int .i64 (N : Int), .int .i64 (T : Int), .int .i64 (D : Int), .int .i64 (R : Int), .int .i64 (K : Int), .int .i64 (G : Int), .int .u64 z]
  replace qc := qc.alloc (.cells #[.int .u64 (U : Int), .int .i64 (Q : Int), .int .i64 (P : Int)] 26)
  have qp := RowAt.new (w.alloc (.cells #[.int .i64 (V : Int), .int .i64 (S : Int), .int .i64 (C : Int), .int .i64 (N : Int), .int .i64 (T : Int), .int .i64 (D : Int), .int .i64 (R : Int), .int .i64 (K : Int), .int .i64 (G : Int), .int .u64 z] 24)) 26 #[.int .u64 (U : Int), .int .i64 (Q : Int), .int .i64 (P : Int)]
  rw [World.size_alloc] at qp
  generalize ((w.alloc (.cells #[.int .i64 (V : Int), .int .i64 (S : Int), .int .i64 (C : Int), .int .i64 (N : Int), .int .i64 (T : Int), .int .i64 (D : Int), .int .i64 (R : Int), .int .i64 (K : Int), .int .i64 (G : Int), .int .u64 z] 24)).alloc (.cells #[.int .u64 (U : Int), .int .i64 (Q : Int), .int .i64 (P : Int)] 26)) = v1_ at *
  have qc_ := qc.cell
  have qc_0 := qc_ 0
  have qc_1 := qc_ 1
  have qc_2 := qc_ 2
  have qc_3 := qc_ 3
  have qc_4 := qc_ 4
  have qc_5 := qc_ 5
  have qc_6 := qc_ 6
  have qc_7 := qc_ 7
  have qc_8 := qc_ 8
  have qc_9 := qc_ 9
  simp only [List.getElem?_cons_zero, List.getElem?_cons_succ] at qc_0 qc_1 qc_2 qc_3 qc_4 qc_5 qc_6 qc_7 qc_8 qc_9
  clear qc_
  have qp_ := qp.cell
  have qp_0 := qp_ 0
  have qp_1 := qp_ 1
  have qp_2 := qp_ 2
  simp only [List.getElem?_cons_zero, List.getElem?_cons_succ] at qp_0 qp_1 qp_2
  clear qp_
  go_wp2_with fail
  with_reducible refine (cM _).mono ?_
  rintro o v2_ ⟨rfl, bN⟩
  clear qc_0 qc_1 qc_2 qc_3 qc_4 qc_5 qc_6 qc_7 qc_8 qc_9 qp_0 qp_1 qp_2
  replace qc := qc.on bN
  replace qp := qp.on bN
  replace B0 := B0.trans (bN.mono B0.size)
  clear bN
  clear cM qc
  have i1 : (E : Int) + 1 = ((E + 1 : Nat) : Int) := by omega
  have i2 : IntKind.i64.wrap ((E + 1 : Nat) : Int) = ((E + 1 : Nat) : Int) := wrap_small (by omega) (by omega)
  obtain ⟨E1, hE1⟩ : ∃ E1, E + 1 = E1 := ⟨_, rfl⟩
  rw [hE1] at i1 i2
  have HE1 := Lib.hid hE1
  clear hE1
  obtain ⟨w7, hw7⟩ : ∃ w7, w7 = v2_ := ⟨_, rfl⟩
  subst hw7
  go_wp2_with fail
  go_loopw [9] (fun iv wr => ∃ j : Nat, E1 ≤ j ∧ j ≤ nx ∧ iv = .int .i64 j ∧ Below w7.heap.size w7 wr) (fun i _ => nx - (RowKit.intOf i).toNat)
  case atStart => exact ⟨E1, Nat.le_refl _, by have := HE1.out; omega, rfl, Below.refl _ _⟩
  case round =>
    obtain ⟨j, hj1, hj2, rfl, hb⟩ := hrel
    replace qp := qp.on hb
    have Bo := B0.trans (hb.mono B0.size)
    have cJ := HBJ.out j hj2
    have x0 := qp.later7 0 _ rfl
    have x1 := qp.later7 1 _ rfl
    have x2 := qp.later7 2 _ rfl
    have HB1 := fun p : Later wr => later_of (p := p) (cB0 p.W)
    have hjs := HSM.out j (by have := HE1.out; omega)
    have hje := HBE.out
    go_upto_region 5 with (fail)
    by_cases hjn : j < nx
    · rw [hjs.2 hjn] at cJ
      have HB2 := fun p : Later wr => later_of (p := p) (cJ p.W)
      clear hjs hje
      refine wp_region_later (by kernel_rfl) (by kernel_rfl) ?_
      repeat (go_big_quiet_step (first | (go_at_call 30; (first | with_reducible exact HB1 _ | with_reducible exact HB2 _))))
      refine wpQuiet_nil ?_
      intro w' hw'
      obtain ⟨pq, rfl⟩ := hw'
      have j3 : IntKind.i64.wrap ((j : Int) + 1) = (j : Int) + 1 := wrap_small (by omega) (by omega)
      go_wp2_with fail
      go_roundw
      case rel => exact ⟨j + 1, by omega, by omega, by go_num, hb.trans (pq.h.mono hb.size)⟩
      case measure => simp [RowKit.intOf]; omega
    · obtain rfl : j = nx := by omega
      rw [hje] at cJ
      have HB2 := fun p : Later wr => later_of (p := p) (cJ p.W)
      have n1 : (((B + 1 : Nat) : Int) == (B : Int)) = false := by rw [beq_eq_false_iff_ne]; omega
      generalize B + 1 = B1 at *
      clear hjs hje
      refine wp_region_later (by kernel_rfl) (by kernel_rfl) ?_
      repeat (go_big_quiet_step (first | (go_at_call 30; (first | with_reducible exact HB1 _ | with_reducible exact HB2 _))))
      refine wpQuiet_nil ?_
      intro w' hw'
      obtain ⟨pq, rfl⟩ := hw'
      go_wp2_with fail
      go_ret2
      exact ⟨rfl, Bo.trans (pq.h.mono Bo.size)⟩
set_option maxHeartbeats 1000000 in
set_option maxRecDepth 100000 in
theorem rsRecord_no (v s c n t d r k g z u q p e x : Int) (w : World) (hno : (fitsC v s c n t d r k g && fitsP q p && isTickB e) = false) :
    Calls Tryd.prog 19 #[.agg #[.int .i64 v, .int .i64 s, .int .i64 c, .int .i64 n, .int .i64 t, .int .i64 d, .int .i64 r, .int .i64 k, .int .i64 g, .int .u64 z], .agg #[.int .u64 u, .int .i64 q, .int .i64 p], .int .i64 e, .int .u64 x] w fun o w' => o = .returned (.tuple #[.agg #[.int .u64 0, .int .u64 0, .int .u64 0], .int .i64 1]) ∧ Below w.heap.size w w' := by
  have cM := fun W => rsNets_no v s c n t d r k g z u q p e W hno
  have B0 := Below.refl w.heap.size w
  go_enter Tryd.func19, Tryd.ntmps19
  go_upto_region 1 with (fail)
  replace B0 := B0.alloc B0.size (.cells #[.int .i64 v, .int .i64 s, .int .i64 c, .int .i64 n, .int .i64 t, .int .i64 d, .int .i64 r, .int .i64 k, .int .i64 g, .int .u64 z] 24)
  replace B0 := B0.alloc B0.size (.cells #[.int .u64 u, .int .i64 q, .int .i64 p] 26)
  replace B0 := B0.alloc B0.size (.cells #[.int .u64 0, .int .u64 0, .int .u64 0] 44)
  have qc := RowAt.new w 24 #[.int .i64 v, .int .i64 s, .int .i64 c, .int .i64 n, .int .i64 t, .int .i64 d, .int .i64 r, .int .i64 k, .int .i64 g, .int .u64 z]
  replace qc := qc.alloc (.cells #[.int .u64 u, .int .i64 q, .int .i64 p] 26)
  replace qc := qc.alloc (.cells #[.int .u64 0, .int .u64 0, .int .u64 0] 44)
  have qp := RowAt.new (w.alloc (.cells #[.int .i64 v, .int .i64 s, .int .i64 c, .int .i64 n, .int .i64 t, .int .i64 d, .int .i64 r, .int .i64 k, .int .i64 g, .int .u64 z] 24)) 26 #[.int .u64 u, .int .i64 q, .int .i64 p]
  replace qp := qp.alloc (.cells #[.int .u64 0, .int .u64 0, .int .u64 0] 44)
  rw [World.size_alloc] at qp
  have q8 := RowAt.new ((w.alloc (.cells #[.int .i64 v, .int .i64 s, .int .i64 c, .int .i64 n, .int .i64 t, .int .i64 d, .int .i64 r, .int .i64 k, .int .i64 g, .int .u64 z] 24)).alloc (.cells #[.int .u64 u, .int .i64 q, .int .i64 p] 26)) 44 #[.int .u64 0, .int .u64 0, .int .u64 0]
  rw [World.size_alloc, World.size_alloc] at q8
  generalize (((w.alloc (.cells #[.int .i64 v, .int .i64 s, .int .i64 c, .int .i64 n, .int .i64 t, .int .i64 d, .int .i64 r, .int .i64 k, .int .i64 g, .int .u64 z] 24)).alloc (.cells #[.int .u64 u, .int .i64 q, .int .i64 p] 26)).alloc (.cells #[.int .u64 0, .int .u64 0, .int .u64 0] 44)) = v1_ at *
  have qc_ := qc.cell
  have qc_0 := qc_ 0
  have qc_1 := qc_ 1
  have qc_2 := qc_ 2
  have qc_3 := qc_ 3
  have qc_4 := qc_ 4
  have qc_5 := qc_ 5
  have qc_6 := qc_ 6
  have qc_7 := qc_ 7
  have qc_8 := qc_ 8
  have qc_9 := qc_ 9
  simp only [List.getElem?_cons_zero, List.getElem?_cons_succ] at qc_0 qc_1 qc_2 qc_3 qc_4 qc_5 qc_6 qc_7 qc_8 qc_9
  clear qc_
  have qp_ := qp.cell
  have qp_0 := qp_ 0
  have qp_1 := qp_ 1
  have qp_2 := qp_ 2
  simp only [List.getElem?_cons_zero, List.getElem?_cons_succ] at qp_0 qp_1 qp_2
  clear qp_
  go_wp2_with fail
  with_reducible refine (cM _).mono ?_
  rintro o v2_ ⟨rfl, bN⟩
  clear qc_0 qc_1 qc_2 qc_3 qc_4 qc_5 qc_6 qc_7 qc_8 qc_9 qp_0 qp_1 qp_2
  replace qc := qc.on bN
  replace qp := qp.on bN
  replace q8 := q8.on bN
  replace B0 := B0.trans (bN.mono B0.size)
  clear bN
  go_upto_region 2 with (fail)
  have q10 := RowAt.new v2_ 37 #[.int .i64 0, .slice none 0 0]
  have bN := (Below.refl v2_.heap.size v2_).alloc (Nat.le_refl _) (.cells #[.int .i64 0, .slice none 0 0] 37)
  replace qc := qc.on bN
  replace qp := qp.on bN
  replace q8 := q8.on bN
  replace B0 := B0.trans (bN.mono B0.size)
  clear bN
  generalize v2_.alloc (.cells #[.int .i64 0, .slice none 0 0] 37) = v3_ at *
  obtain ⟨g10, hg9⟩ : ∃ g10, g10 = v2_.heap.size := ⟨_, rfl⟩
  rw [← hg9] at q10  ⊢
  clear hg9
  have f0 := q8.frozen 0
  have f1 := q8.frozen 1
  have f2 := q8.frozen 2
  have q8_ := q8.cell
  have q8_0 := q8_ 0
  have q8_1 := q8_ 1
  have q8_2 := q8_ 2
  simp only [List.getElem?_cons_zero, List.getElem?_cons_succ] at q8_0 q8_1 q8_2
  clear q8_
  go_wp2_with fail
  have R := ((q8.set 0 (.int .u64 0)).set 1 (.int .u64 0)).set 2 (.int .u64 0)
  have e0 := R.cell 0
  have e1 := R.cell 1
  have e2 := R.cell 2
  simp only [List.set_cons_zero, List.set_cons_succ, List.getElem?_cons_zero, List.getElem?_cons_succ] at e0 e1 e2
  refine bodyPost_ret (v := .tuple #[.agg #[.int .u64 0, .int .u64 0, .int .u64 0], .int .i64 1]) (by simp [results, Tryd.results19, go_sem, e0, e1, e2]) rfl ?_
  exact ⟨rfl, ((B0.setCell (p := ⟨w.heap.size + 1 + 1, 0, none⟩) (by simp; omega) (.int .u64 0)).setCell (p := ⟨w.heap.size + 1 + 1, 1, none⟩) (by simp; omega) (.int .u64 0)).setCell (p := ⟨w.heap.size + 1 + 1, 2, none⟩) (by simp; omega) (.int .u64 0)⟩
/-- The word of the first k of a list of bits. -/
def sumTo (M : List Nat) (k : Nat) : Nat := ((M.take k).map fun i => 2 ^ i).sum
theorem sumTo_succ (M : List Nat) (k : Nat) (hk : k < M.length) : sumTo M (k + 1) = sumTo M k + 2 ^ M[k] := by
  unfold sumTo
  rw [List.take_add_one, List.getElem?_eq_getElem hk, List.map_append, List.sum_append]
  simp
theorem sumTo_le (M : List Nat) (k : Nat) : sumTo M k ≤ (M.map fun i => 2 ^ i).sum := by
  unfold sumTo
  rw [List.map_take]
  exact sum_take_le _ _
theorem sumTo_all (M : List Nat) (k : Nat) (h : k = M.length) : sumTo M k = (M.map fun i => 2 ^ i).sum := by
  unfold sumTo
  rw [List.take_of_length_le (by omega)]
set_option maxHeartbeats 2000000 in
set_option maxRecDepth 100000 in
theorem rsRecord_yes (V S C N T D R K G U Q P E x : Nat) (z : Int) (w : World) (h : FitD V S C N T D R K G) (hp : FitP Q P) (hE : E ≤ 1099511627776) (hx : x < 18446744073709551616) :
    Calls Tryd.prog 19 #[.agg #[.int .i64 (V : Int), .int .i64 (S : Int), .int .i64 (C : Int), .int .i64 (N : Int), .int .i64 (T : Int), .int .i64 (D : Int), .int .i64 (R : Int), .int .i64 (K : Int), .int .i64 (G : Int), .int .u64 z], .agg #[.int .u64 (U : Int), .int .i64 (Q : Int), .int .i64 (P : Int)], .int .i64 (E : Int), .int .u64 (x : Int)] w fun o w' => o = .returned (.tuple #[.agg #[.int .u64 ((blkN U P E + 1 : Nat) : Int), .int .u64 (wordN N (firstN N K U (blkN U P E)) Q : Int), .int .u64 (plainW x : Nat)], .int .i64 0]) ∧ Below w.heap.size w w' := by
  obtain ⟨p1, p2⟩ : 1 ≤ P ∧ P ≤ 256 := ⟨hp.p1, hp.p2⟩
  obtain ⟨n1, n2⟩ : 1 ≤ N ∧ N ≤ 64 := ⟨h.n1, h.n2⟩
  obtain ⟨M, hM⟩ : ∃ M, netsL N (firstN N K U (blkN U P E)) Q = M := ⟨_, rfl⟩
  have hLM : netsI N (firstN N K U (blkN U P E)) Q = M.map fun n : Nat => (n : Int) := by rw [← hM]; rfl
  have cN := fun W => rsNets_yes V S C N T D R K G U Q P E z W h hp hE (M.map fun n : Nat => (n : Int)) hLM
  have hsum := wordN_sum N (firstN N K U (blkN U P E)) Q n2
  have hwl := wordN_lt N (firstN N K U (blkN U P E)) Q
  have hmem : ∀ j ∈ M, j < 64 := fun j hj => by
    rw [← hM] at hj
    have := netsL_mem.1 hj
    unfold onB at this
    simp at this
    omega
  have hlen : M.length ≤ 64 := by rw [← hM, netsL_len (firstN_lt N K U (blkN U P E) n1)]; omega
  rw [hM] at hsum
  have cB := fun W => rBlock_any U P E (Q : Int) W p1 p2 (by omega)
  have cL := fun W => rPlain_any x W hx
  have hbk : blkN U P E ≤ E + U % P := blk_le
  have hsh : U % P < P := Nat.mod_lt _ (by omega)
  generalize wordN N (firstN N K U (blkN U P E)) Q = wd at *
  generalize plainW x = pl at *
  clear hM hLM
  generalize blkN U P E = B at *
  have i0 : IntKind.u64.wrap (B : Int) = (B : Int) := IntWalk.u64_in _ (by omega)
  have i1 : (B : Int) + 1 = ((B + 1 : Nat) : Int) := by omega
  have i2 : IntKind.u64.wrap ((B + 1 : Nat) : Int) = ((B + 1 : Nat) : Int) := IntWalk.u64_in _ (by omega)
  generalize B + 1 = B1 at *
  obtain ⟨mn, hmn⟩ : ∃ mn, M.length = mn := ⟨_, rfl⟩
  rw [List.length_map, hmn] at cN
  clear h hsh
  have B0 := Below.refl w.heap.size w
  go_enter Tryd.func19, Tryd.ntmps19
  go_upto_region 1 with (fail)
  replace B0 := B0.alloc B0.size (.cells #[.int .i64 (V : Int), .int .i64 (S : Int), .int .i64 (C : Int), .int .i64 (N : Int), .int .i64 (T : Int), .int .i64 (D : Int), .int .i64 (R : Int), .int .i64 (K : Int), .int .i64 (G : Int), .int .u64 z] 24)
  replace B0 := B0.alloc B0.size (.cells #[.int .u64 (U : Int), .int .i64 (Q : Int), .int .i64 (P : Int)] 26)
  replace B0 := B0.alloc B0.size (.cells #[.int .u64 0, .int .u64 0, .int .u64 0] 44)
  have qc := RowAt.new w 24 #[.int .i64 (V : Int), .int .i64 (S : Int), .int .i64 (C : Int), .int .i64 (N : Int), .int .i64 (T : Int), .int .i64 (D : Int), .int .i64 (R : Int), .int .i64 (K : Int), .int .i64 (G : Int), .int .u64 z]
  replace qc := qc.alloc (.cells #[.int .u64 (U : Int), .int .i64 (Q : Int), .int .i64 (P : Int)] 26)
  replace qc := qc.alloc (.cells #[.int .u64 0, .int .u64 0, .int .u64 0] 44)
  have qp := RowAt.new (w.alloc (.cells #[.int .i64 (V : Int), .int .i64 (S : Int), .int .i64 (C : Int), .int .i64 (N : Int), .int .i64 (T : Int), .int .i64 (D : Int), .int .i64 (R : Int), .int .i64 (K : Int), .int .i64 (G : Int), .int .u64 z] 24)) 26 #[.int .u64 (U : Int), .int .i64 (Q : Int), .int .i64 (P : Int)]
  replace qp := qp.alloc (.cells #[.int .u64 0, .int .u64 0, .int .u64 0] 44)
  rw [World.size_alloc] at qp
  have q8 := RowAt.new ((w.alloc (.cells #[.int .i64 (V : Int), .int .i64 (S : Int), .int .i64 (C : Int), .int .i64 (N : Int), .int .i64 (T : Int), .int .i64 (D : Int), .int .i64 (R : Int), .int .i64 (K : Int), .int .i64 (G : Int), .int .u64 z] 24)).alloc (.cells #[.int .u64 (U : Int), .int .i64 (Q : Int), .int .i64 (P : Int)] 26)) 44 #[.int .u64 0, .int .u64 0, .int .u64 0]
  rw [World.size_alloc, World.size_alloc] at q8
  generalize (((w.alloc (.cells #[.int .i64 (V : Int), .int .i64 (S : Int), .int .i64 (C : Int), .int .i64 (N : Int), .int .i64 (T : Int), .int .i64 (D : Int), .int .i64 (R : Int), .int .i64 (K : Int), .int .i64 (G : Int), .int .u64 z] 24)).alloc (.cells #[.int .u64 (U : Int), .int .i64 (Q : Int), .int .i64 (P : Int)] 26)).alloc (.cells #[.int .u64 0, .int .u64 0, .int .u64 0] 44)) = v1_ at *
  have qc_ := qc.cell
  have qc_0 := qc_ 0
  have qc_1 := qc_ 1
  have qc_2 := qc_ 2
  have qc_3 := qc_ 3
  have qc_4 := qc_ 4
  have qc_5 := qc_ 5
  have qc_6 := qc_ 6
  have qc_7 := qc_ 7
  have qc_8 := qc_ 8
  have qc_9 := qc_ 9
  simp only [List.getElem?_cons_zero, List.getElem?_cons_succ] at qc_0 qc_1 qc_2 qc_3 qc_4 qc_5 qc_6 qc_7 qc_8 qc_9
  clear qc_
  have qp_ := qp.cell
  have qp_0 := qp_ 0
  have qp_1 := qp_ 1
  have qp_2 := qp_ 2
  simp only [List.getElem?_cons_zero, List.getElem?_cons_succ] at qp_0 qp_1 qp_2
  clear qp_
  go_wp2_with fail
  with_reducible refine (cN _).mono ?_
  rintro o v2_ ⟨A, c, rfl, hBt, _, bN⟩
  clear qc_0 qc_1 qc_2 qc_3 qc_4 qc_5 qc_6 qc_7 qc_8 qc_9 qp_0 qp_1 qp_2
  replace qc := qc.on bN
  replace qp := qp.on bN
  replace q8 := q8.on bN
  replace B0 := B0.trans (bN.mono B0.size)
  clear bN
  clear cN qc
  go_upto_region 2 with (fail)
  have q10 := RowAt.new v2_ 37 #[.int .i64 (N : Int), .slice A mn c]
  have bN := (Below.refl v2_.heap.size v2_).alloc (Nat.le_refl _) (.cells #[.int .i64 (N : Int), .slice A mn c] 37)
  replace qp := qp.on bN
  replace q8 := q8.on bN
  replace hBt := hBt.on bN
  replace B0 := B0.trans (bN.mono B0.size)
  clear bN
  generalize v2_.alloc (.cells #[.int .i64 (N : Int), .slice A mn c] 37) = v3_ at *
  obtain ⟨g10, hg9⟩ : ∃ g10, g10 = v2_.heap.size := ⟨_, rfl⟩
  rw [← hg9] at q10  ⊢
  clear hg9
  have qp_ := qp.cell
  have qp_0 := qp_ 0
  have qp_1 := qp_ 1
  have qp_2 := qp_ 2
  simp only [List.getElem?_cons_zero, List.getElem?_cons_succ] at qp_0 qp_1 qp_2
  clear qp_
  go_wp2_with fail
  with_reducible refine (cB _).mono ?_
  rintro o v4_ ⟨rfl, bN⟩
  clear qp_0 qp_1 qp_2
  replace qp := qp.on bN
  replace q8 := q8.on bN
  replace q10 := q10.on bN
  replace hBt := hBt.on bN
  replace B0 := B0.trans (bN.mono B0.size)
  clear bN
  go_wp2_with fail
  with_reducible refine (cL _).mono ?_
  rintro o v5_ ⟨rfl, rfl⟩
  have hl8 := q8.lt
  have hl10 := q10.lt
  have hap0 : ∀ ad, A = some ad → 0 < mn → ad.block < v4_.heap.size := by
    obtain ⟨sv, hsv, hI⟩ := hBt
    obtain rfl : sv = .slice A mn c := by cases hsv; rfl
    intro ad hA h0
    exact Elems.blocks hI (by rw [List.length_map, hmn]; exact h0) ad mn c (by rw [hA])
  go_upto_region 5 with (fail)
  have q12 := RowAt.new v4_ 44 #[.int .u64 (B1 : Int), .int .u64 0, .int .u64 (pl : Nat)]
  have bN := (Below.refl v4_.heap.size v4_).alloc (Nat.le_refl _) (.cells #[.int .u64 (B1 : Int), .int .u64 0, .int .u64 (pl : Nat)] 44)
  replace qp := qp.on bN
  replace q8 := q8.on bN
  replace q10 := q10.on bN
  replace hBt := hBt.on bN
  replace B0 := B0.trans (bN.mono B0.size)
  clear bN
  generalize v4_.alloc (.cells #[.int .u64 (B1 : Int), .int .u64 0, .int .u64 (pl : Nat)] 44) = v6_ at *
  obtain ⟨g12, hg9⟩ : ∃ g12, g12 = v4_.heap.size := ⟨_, rfl⟩
  rw [← hg9] at q12 hl8 hl10 hap0 ⊢
  clear hg9
  obtain ⟨w7, hw7⟩ : ∃ w7, w7 = v6_ := ⟨_, rfl⟩
  subst hw7
  obtain ⟨sv, hsv, hI⟩ := hBt
  obtain rfl : sv = .slice A mn c := by cases hsv; rfl
  clear hsv cB cL qp
  have HM := Lib.hid hmn
  go_wp2_with fail
  
  go_loopw [13] (fun iv wr => ∃ i : Nat, i ≤ mn ∧ iv = .int .i64 i ∧ RowAt wr g12 44 [.int .u64 (B1 : Int), .int .u64 (sumTo M i : Int), .int .u64 (pl : Nat)] ∧ RowAt wr g10 37 [.int .i64 (N : Int), .slice A mn c] ∧ RowAt wr (w.heap.size + 1 + 1) 44 [.int .u64 0, .int .u64 0, .int .u64 0] ∧ Ints wr wr.heap.size (.slice A mn c) (M.map fun n : Nat => (n : Int)) ∧ (∀ ad, A = some ad → 0 < mn → ad.block ≠ g12) ∧ Below w.heap.size w wr) (fun i _ => mn - (RowKit.intOf i).toNat)
  case atStart => exact ⟨0, Nat.zero_le _, rfl, q12, q10, q8, hI, fun ad hA h0 => Nat.ne_of_lt (hap0 ad hA h0), B0⟩
  case round =>
    obtain ⟨i, hip, rfl, r12, r10, r8, hI', hap, hB⟩ := hrel
    clear q12 q10 q8 hI B0
    have z1 := r10.cell 1
    simp only [List.getElem?_cons_zero, List.getElem?_cons_succ] at z1
    by_cases hlt : i < mn
    · have g1 : ((i : Int) < (mn : Int)) = True := eq_true (by omega)
      have g2 : (i < mn) = True := eq_true hlt
      have hiM : i < M.length := by have := HM.out; omega
      obtain ⟨ad, rfl, hadb, hcell⟩ := hI'.at_ (k := i) (by rw [List.length_map]; exact hiM)
      rw [List.getElem_map] at hcell
      have HSS := Lib.hid (sumTo_succ M i hiM)
      have hle := sumTo_le M (i + 1)
      rw [HSS.out, hsum] at hle
      have hj64 := hmem _ (List.getElem_mem hiM)
      generalize M[i] = j at *
      obtain ⟨b2, hb2⟩ : ∃ b2, 2 ^ j = b2 := ⟨_, rfl⟩
      have hp2 : b2 ≤ 2 ^ 63 := by rw [← hb2]; exact Nat.pow_le_pow_right (by decide) (by omega)
      have e2 : IntKind.u64.wrap ((2 : Int) ^ j) = (b2 : Int) := by
        rw [show ((2 : Int) ^ j) = (b2 : Int) by rw [← hb2]; exact (Int.natCast_pow 2 j).symm]
        exact IntWalk.u64_in _ (by omega)
      rw [hb2] at HSS hle
      clear hb2
      generalize sumTo M i = Sk at *
      have e3 : (Sk : Int) + (b2 : Int) = ((Sk + b2 : Nat) : Int) := by omega
      have e4 : IntKind.u64.wrap ((Sk + b2 : Nat) : Int) = ((Sk + b2 : Nat) : Int) := IntWalk.u64_in _ (by omega)
      obtain ⟨S1, hS1⟩ : ∃ S1, Sk + b2 = S1 := ⟨_, rfl⟩
      rw [hS1] at e3 e4 HSS hle
      clear hS1
      go_upto_region 8 with (fail)
      clear z1
      have y1 := r12.laterT 1 _ rfl
      have z1 := r10.laterT 1 _ rfl
      have yc : ∀ p : LaterT wr, p.W.cell? (ad.add i) = some (.int .i64 (j : Int)) := fun p => by rw [← hcell]; exact p.h.cell (by rw [add_block]; exact hadb)
      refine wp_region_later_tail0 9 2 (by kernel_rfl) (by kernel_rfl) ?_
      simp only [List.take_succ_cons, List.take_zero]
      repeat (go_big_quiet_step (fail))
      refine wpQuiet_nil ?_
      intro w' hw'
      obtain ⟨pq, rfl⟩ := hw'
      have bq := pq.h
      replace r12 := r12.on bq
      replace r10 := r10.on bq
      replace r8 := r8.on bq
      replace hI' := hI'.on bq
      have hB' := hB.trans (bq.mono hB.size)
      generalize pq.W = w9 at *
      clear bq pq y1 z1 yc hB hcell hadb
      simp only [List.drop_succ_cons, List.drop_zero, List.take_succ_cons, List.take_zero]
      have f1 := r12.frozen 1
      have d1 := r12.cell 1
      simp only [List.getElem?_cons_zero, List.getElem?_cons_succ] at d1
      go_wp2_with fail
      go_roundw
      case rel =>
        have R := r12.set 1 (.int .u64 (S1 : Int))
        simp only [List.set_cons_zero, List.set_cons_succ] at R
        exact ⟨i + 1, by omega, by go_num, by rw [HSS.out]; exact R, r10.far (p := ⟨g12, 1, none⟩) (by show g10 ≠ g12; omega) _, r8.far (p := ⟨g12, 1, none⟩) (by show w.heap.size + 1 + 1 ≠ g12; omega) _, by
          have := Elems.apart_of hI' (fun ad' n' c' e => by cases e; exact hap _ rfl (by omega)) (p := ⟨g12, 1, none⟩) rfl (.int .u64 (S1 : Int))
          simpa [World.setCell] using this, hap, hB'.setCell (p := ⟨g12, 1, none⟩) (by show w.heap.size ≤ g12; omega) _⟩
      case measure => simp [RowKit.intOf]; omega
    · obtain rfl : i = mn := by omega
      have g1 : ((i : Int) < (i : Int)) = False := eq_false (by omega)
      have hS := sumTo_all M i HM.out.symm
      rw [hsum] at hS
      rw [hS] at r12
      have f0 := r8.frozen 0
      have f1 := r8.frozen 1
      have f2 := r8.frozen 2
      have c0 := r8.cell 0
      have c1 := r8.cell 1
      have c2 := r8.cell 2
      have d0 := r12.cell 0
      have d1 := r12.cell 1
      have d2 := r12.cell 2
      simp only [List.getElem?_cons_zero, List.getElem?_cons_succ] at c0 c1 c2 d0 d1 d2
      clear hS
      go_wp2_with fail
      have R := ((r8.set 0 (.int .u64 (B1 : Int))).set 1 (.int .u64 (wd : Int))).set 2 (.int .u64 (pl : Nat))
      have e0 := R.cell 0
      have e1 := R.cell 1
      have e2 := R.cell 2
      simp only [List.set_cons_zero, List.set_cons_succ, List.getElem?_cons_zero, List.getElem?_cons_succ] at e0 e1 e2
      refine bodyPost_ret (v := .tuple #[.agg #[.int .u64 (B1 : Int), .int .u64 (wd : Int), .int .u64 (pl : Nat)], .int .i64 0]) (by simp [results, Tryd.results19, go_sem, e0, e1, e2]) rfl ?_
      exact ⟨rfl, ((hB.setCell (p := ⟨w.heap.size + 1 + 1, 0, none⟩) (by simp; omega) (.int .u64 (B1 : Int))).setCell (p := ⟨w.heap.size + 1 + 1, 1, none⟩) (by simp; omega) (.int .u64 (wd : Int))).setCell (p := ⟨w.heap.size + 1 + 1, 2, none⟩) (by simp; omega) (.int .u64 (pl : Nat))⟩

end Go.Proofs.YthlajfoipafaaaaDoor

namespace Go.Proofs.YthlajfoipafaaaaDoor
open Go.RowKit Go.Lib

theorem pick11_any (c n : Int) (w : World) (hc : -9223372036854775808 ≤ c ∧ c ≤ 9223372036854775807) (hn : 0 < n) (hn2 : n ≤ 2199023255552) :
    Calls Tryd.prog 13 #[.int .i64 c, .int .i64 n] w fun e w' => e = .returned (.int .i64 (pickS c n : Int)) ∧ w = w' := by
  rw [← pickS_eq c n hn]
  by_cases h : c < 0
  · rw [if_pos h]
    have he : -(c + 1) % n = -((c + 1).tmod n) := by
      rw [← Int.neg_tmod, Int.tmod_eq_emod_of_nonneg (by omega)]
    rw [he]
    clear he
    go_enter Tryd.func13, Tryd.ntmps13
    go_wp2
    go_ret
    exact ⟨rfl, rfl⟩
  · rw [if_neg h]
    go_enter Tryd.func13, Tryd.ntmps13
    go_wp2
    go_ret
    exact ⟨rfl, rfl⟩
theorem Plan_any (U Q P : Nat) (kp pr : Int) (w : World) (hk : I64K kp) (hp : I64K pr) (hQ : pickS kp 12 = Q) (hP : 1 + pickS pr 9 = P) :
    Calls Tryd.prog 10 #[.int .u64 (U : Int), .int .i64 kp, .int .i64 pr] w fun o w' => o = .returned (.agg #[.int .u64 (U : Int), .int .i64 (Q : Int), .int .i64 (P : Int)]) ∧ Below w.heap.size w w' := by
  have c1 := fun W => pick11_any kp 12 W hk (by decide) (by decide)
  have c2 := fun W => pick11_any pr 9 W hp (by decide) (by decide)
  have l2 := pickS_lt pr 9 (by decide)
  rw [hQ] at c1
  clear hQ
  generalize pickS pr 9 = p0 at *
  have e1 : (1 : Int) + (p0 : Int) = (P : Int) := by omega
  have e2 : IntKind.i64.wrap (P : Int) = (P : Int) := wrap_small (by omega) (by omega)
  clear hP
  have q8 := RowAt.new w 26 #[.int .u64 0, .int .i64 0, .int .i64 0]
  have b0 := (Below.refl w.heap.size w).alloc (Nat.le_refl _) (.cells #[.int .u64 0, .int .i64 0, .int .i64 0] 26)
  go_enter Tryd.func10, Tryd.ntmps10
  go_upto_region 1 with (fail)
  generalize w.alloc (.cells #[.int .u64 0, .int .i64 0, .int .i64 0] 26) = w0 at *
  have f0 := q8.frozen 0
  have f1 := q8.frozen 1
  have f2 := q8.frozen 2
  have d0 := q8.cell 0
  have d1 := q8.cell 1
  have d2 := q8.cell 2
  simp only [List.getElem?_cons_zero, List.getElem?_cons_succ] at d0 d1 d2
  go_wp2_with (first | (with_reducible refine (c1 _).mono ?_; rintro o w1 ⟨rfl, rfl⟩) | (with_reducible refine (c2 _).mono ?_; rintro o w1 ⟨rfl, rfl⟩))
  have R3 := ((q8.set 0 (.int .u64 (U : Int))).set 1 (.int .i64 (Q : Int))).set 2 (.int .i64 (P : Int))
  have k0 := R3.cell 0
  have k1 := R3.cell 1
  have k2 := R3.cell 2
  simp only [List.set_cons_zero, List.set_cons_succ, List.getElem?_cons_zero, List.getElem?_cons_succ] at k0 k1 k2
  refine bodyPost_ret (v := .agg #[.int .u64 (U : Int), .int .i64 (Q : Int), .int .i64 (P : Int)]) (by simp [results, Tryd.results10, go_sem, k0, k1, k2]) rfl ?_
  exact ⟨rfl, ((b0.setCell (p := ⟨w.heap.size, 0, none⟩) (by simp) _).setCell (p := ⟨w.heap.size, 1, none⟩) (by simp) _).setCell (p := ⟨w.heap.size, 2, none⟩) (by simp) _⟩
/-- The raw chain is one that fits. -/
theorem raw_chain11 (n0 n1 n2 n3 n4 n5 : Int) (b0 : I64K n0) (b1 : I64K n1) (b2 : I64K n2) (b3 : I64K n3) (b4 : I64K n4) (b5 : I64K n5) (z : Int) : ∃ V S C N T D R K G : Nat, FitD V S C N T D R K G ∧
    ∀ w, Calls Tryd.prog 9 #[.agg #[.int .i64 n0, .int .i64 n1, .int .i64 n2, .int .i64 n3, .int .i64 n4, .int .i64 n5], .int .u64 z] w fun o w' => o = .returned (.agg #[.int .i64 (V : Int), .int .i64 (S : Int), .int .i64 (C : Int), .int .i64 (N : Int), .int .i64 (T : Int), .int .i64 (D : Int), .int .i64 (R : Int), .int .i64 (K : Int), .int .i64 (G : Int), .int .u64 z]) ∧ Below w.heap.size w w' := by
  obtain ⟨v, s, c, n, t, d, r, k, g, hc⟩ := chain_of n0 n1 n2 n3 n4 n5
  obtain ⟨V, S, C, N, T, D, R, K, G, rfl, rfl, rfl, rfl, rfl, rfl, rfl, rfl, rfl, hf⟩ := fit_nat hc.small.fits
  exact ⟨V, S, C, N, T, D, R, K, G, hf, fun w => Chain_any hc z w b0 b1 b2 b3 b4 b5⟩

theorem aw11_fit : FitD 1 1 1 4 1 0 1 0 1 := ⟨by decide, by decide, by decide, by decide, by decide, by decide, by decide, by decide, by decide, by decide, by decide, by decide, by decide, by decide, by decide, by decide⟩
theorem aw11_plan : FitP 3 4 := ⟨by decide, by decide, by decide⟩
theorem aw11_first (B : Nat) : firstN 4 0 6 B = 2 := rfl
theorem aw11_nets (W : World) (hT : Both W) : Calls Tryd.prog 14 #[.agg #[.int .i64 1, .int .i64 1, .int .i64 1, .int .i64 4, .int .i64 1, .int .i64 0, .int .i64 1, .int .i64 0, .int .i64 1, .int .u64 0], .agg #[.int .u64 6, .int .i64 3, .int .i64 4], .int .i64 0] W fun o w' => ∃ A c, o = .returned (.tuple #[.agg #[.int .i64 4, .slice A 3 c], .int .i64 0]) ∧ Bt w' (.agg #[.int .i64 4, .slice A 3 c]) 4 [0, 2, 3] ∧ FromOn W.heap.size (.slice A 3 c) ∧ Below W.heap.size W w' :=
  sNets_yes 1 1 1 4 1 0 1 0 1 6 3 4 0 0 W aw11_fit aw11_plan (by decide) hT [0, 2, 3] (by rw [aw11_first]; decide)
theorem aw11_next (W : World) (hT : Both W) : Calls Tryd.prog 16 #[.agg #[.int .i64 1, .int .i64 1, .int .i64 1, .int .i64 4, .int .i64 1, .int .i64 0, .int .i64 1, .int .i64 0, .int .i64 1, .int .u64 0], .agg #[.int .u64 6, .int .i64 3, .int .i64 4], .int .i64 0] W fun o w' => o = .returned (.tuple #[.int .i64 2, .int .i64 0]) ∧ Below W.heap.size W w' :=
  sNext_yes 1 1 1 4 1 0 1 0 1 6 3 4 0 0 W aw11_fit aw11_plan (by decide) hT
theorem aw11_rec (W : World) (hT : Both W) : Calls Tryd.prog 18 #[.agg #[.int .i64 1, .int .i64 1, .int .i64 1, .int .i64 4, .int .i64 1, .int .i64 0, .int .i64 1, .int .i64 0, .int .i64 1, .int .u64 0], .agg #[.int .u64 6, .int .i64 3, .int .i64 4], .int .i64 1, .int .u64 9223372036854775808] W fun o w' => o = .returned (.tuple #[.agg #[.int .u64 1, .int .u64 13, .int .u64 0], .int .i64 0]) ∧ Below W.heap.size W w' := by
  have := sRecord_yes 1 1 1 4 1 0 1 0 1 6 3 4 1 9223372036854775808 0 W aw11_fit aw11_plan (by decide) hT (by decide)
  rw [aw11_first, show wordN 4 2 3 = 13 by decide, show plainW 9223372036854775808 = 0 by decide] at this
  exact this
theorem aw11_no1 (W : World) (hT : Both W) : Calls Tryd.prog 14 #[.agg #[.int .i64 1, .int .i64 1, .int .i64 1, .int .i64 4, .int .i64 1, .int .i64 0, .int .i64 1, .int .i64 0, .int .i64 1, .int .u64 0], .agg #[.int .u64 0, .int .i64 0, .int .i64 0], .int .i64 0] W fun o w' => o = .returned (.tuple #[.agg #[.int .i64 0, .slice none 0 0], .int .i64 1]) ∧ Below W.heap.size W w' :=
  sNets_no 1 1 1 4 1 0 1 0 1 0 0 0 0 0 W hT (by decide)
theorem aw11_no2 (W : World) (hT : Both W) : Calls Tryd.prog 16 #[.agg #[.int .i64 1, .int .i64 1, .int .i64 1, .int .i64 4, .int .i64 1, .int .i64 0, .int .i64 1, .int .i64 0, .int .i64 1, .int .u64 0], .agg #[.int .u64 6, .int .i64 3, .int .i64 4], .int .i64 (-1)] W fun o w' => o = .returned (.tuple #[.int .i64 0, .int .i64 1]) ∧ Below W.heap.size W w' :=
  sNext_no 1 1 1 4 1 0 1 0 1 0 6 3 4 (-1) W hT (by decide)
theorem aw11_f1 (W : World) : Calls Tryd.prog 11 #[.agg #[.int .u64 6, .int .i64 3, .int .i64 4]] W fun o w' => o = .returned (.bool true) ∧ Below W.heap.size W w' := scFits_any 6 3 4 W
theorem aw11_f2 (W : World) : Calls Tryd.prog 11 #[.agg #[.int .u64 0, .int .i64 0, .int .i64 0]] W fun o w' => o = .returned (.bool false) ∧ Below W.heap.size W w' := scFits_any 0 0 0 W

set_option maxHeartbeats 4000000 in
set_option maxRecDepth 100000 in
theorem awake11_any (w : World) (hT : Both w) : Calls Tryd.prog 8 #[] w fun o w' => o = .returned (.bool true) ∧ Below w.heap.size w w' := by
  have B0 := Below.refl w.heap.size w
  go_enter Tryd.func8, Tryd.ntmps8
  go_upto_region 2 with (fail)
  have qc := RowAt.new w 24 #[.int .i64 1, .int .i64 1, .int .i64 1, .int .i64 4, .int .i64 1, .int .i64 0, .int .i64 1, .int .i64 0, .int .i64 1, .int .u64 0]
  have bN := (Below.refl w.heap.size w).alloc (Nat.le_refl _) (.cells #[.int .i64 1, .int .i64 1, .int .i64 1, .int .i64 4, .int .i64 1, .int .i64 0, .int .i64 1, .int .i64 0, .int .i64 1, .int .u64 0] 24)
  replace hT := hT.on bN
  replace B0 := B0.trans (bN.mono B0.size)
  clear bN
  generalize w.alloc (.cells #[.int .i64 1, .int .i64 1, .int .i64 1, .int .i64 4, .int .i64 1, .int .i64 0, .int .i64 1, .int .i64 0, .int .i64 1, .int .u64 0] 24) = v1_ at *
  obtain ⟨gC, hg9⟩ : ∃ gC, gC = w.heap.size := ⟨_, rfl⟩
  rw [← hg9] at qc ⊢
  clear hg9
  go_upto_region 3 with (fail)
  have qp := RowAt.new v1_ 26 #[.int .u64 6, .int .i64 3, .int .i64 4]
  have bN := (Below.refl v1_.heap.size v1_).alloc (Nat.le_refl _) (.cells #[.int .u64 6, .int .i64 3, .int .i64 4] 26)
  replace qc := qc.on bN
  replace hT := hT.on bN
  replace B0 := B0.trans (bN.mono B0.size)
  clear bN
  generalize v1_.alloc (.cells #[.int .u64 6, .int .i64 3, .int .i64 4] 26) = v2_ at *
  obtain ⟨gP, hg9⟩ : ∃ gP, gP = v1_.heap.size := ⟨_, rfl⟩
  rw [← hg9] at qp ⊢
  clear hg9
  have qc_ := qc.cell
  have qc_0 := qc_ 0
  have qc_1 := qc_ 1
  have qc_2 := qc_ 2
  have qc_3 := qc_ 3
  have qc_4 := qc_ 4
  have qc_5 := qc_ 5
  have qc_6 := qc_ 6
  have qc_7 := qc_ 7
  have qc_8 := qc_ 8
  have qc_9 := qc_ 9
  simp only [List.getElem?_cons_zero, List.getElem?_cons_succ] at qc_0 qc_1 qc_2 qc_3 qc_4 qc_5 qc_6 qc_7 qc_8 qc_9
  clear qc_
  have qp_ := qp.cell
  have qp_0 := qp_ 0
  have qp_1 := qp_ 1
  have qp_2 := qp_ 2
  simp only [List.getElem?_cons_zero, List.getElem?_cons_succ] at qp_0 qp_1 qp_2
  clear qp_
  go_wp2_with fail
  with_reducible refine (aw11_nets _ hT).mono ?_
  rintro o v3_ ⟨A1, c1, rfl, hB1, _, bN⟩
  clear qc_0 qc_1 qc_2 qc_3 qc_4 qc_5 qc_6 qc_7 qc_8 qc_9 qp_0 qp_1 qp_2
  replace qc := qc.on bN
  replace qp := qp.on bN
  replace hT := hT.on bN
  replace B0 := B0.trans (bN.mono B0.size)
  clear bN
  go_upto_region 4 with (fail)
  have q3 := RowAt.new v3_ 37 #[.int .i64 4, .slice A1 3 c1]
  have bN := (Below.refl v3_.heap.size v3_).alloc (Nat.le_refl _) (.cells #[.int .i64 4, .slice A1 3 c1] 37)
  replace qc := qc.on bN
  replace qp := qp.on bN
  replace hB1 := hB1.on bN
  replace hT := hT.on bN
  replace B0 := B0.trans (bN.mono B0.size)
  clear bN
  generalize v3_.alloc (.cells #[.int .i64 4, .slice A1 3 c1] 37) = v4_ at *
  obtain ⟨g3, hg9⟩ : ∃ g3, g3 = v3_.heap.size := ⟨_, rfl⟩
  rw [← hg9] at q3 ⊢
  clear hg9
  have qc_ := qc.cell
  have qc_0 := qc_ 0
  have qc_1 := qc_ 1
  have qc_2 := qc_ 2
  have qc_3 := qc_ 3
  have qc_4 := qc_ 4
  have qc_5 := qc_ 5
  have qc_6 := qc_ 6
  have qc_7 := qc_ 7
  have qc_8 := qc_ 8
  have qc_9 := qc_ 9
  simp only [List.getElem?_cons_zero, List.getElem?_cons_succ] at qc_0 qc_1 qc_2 qc_3 qc_4 qc_5 qc_6 qc_7 qc_8 qc_9
  clear qc_
  have qp_ := qp.cell
  have qp_0 := qp_ 0
  have qp_1 := qp_ 1
  have qp_2 := qp_ 2
  simp only [List.getElem?_cons_zero, List.getElem?_cons_succ] at qp_0 qp_1 qp_2
  clear qp_
  go_wp2_with fail
  with_reducible refine (aw11_next _ hT).mono ?_
  rintro o v5_ ⟨rfl, bN⟩
  clear qc_0 qc_1 qc_2 qc_3 qc_4 qc_5 qc_6 qc_7 qc_8 qc_9 qp_0 qp_1 qp_2
  replace qc := qc.on bN
  replace qp := qp.on bN
  replace q3 := q3.on bN
  replace hB1 := hB1.on bN
  replace hT := hT.on bN
  replace B0 := B0.trans (bN.mono B0.size)
  clear bN
  go_upto_region 5 with (fail)
  have qc_ := qc.cell
  have qc_0 := qc_ 0
  have qc_1 := qc_ 1
  have qc_2 := qc_ 2
  have qc_3 := qc_ 3
  have qc_4 := qc_ 4
  have qc_5 := qc_ 5
  have qc_6 := qc_ 6
  have qc_7 := qc_ 7
  have qc_8 := qc_ 8
  have qc_9 := qc_ 9
  simp only [List.getElem?_cons_zero, List.getElem?_cons_succ] at qc_0 qc_1 qc_2 qc_3 qc_4 qc_5 qc_6 qc_7 qc_8 qc_9
  clear qc_
  have qp_ := qp.cell
  have qp_0 := qp_ 0
  have qp_1 := qp_ 1
  have qp_2 := qp_ 2
  simp only [List.getElem?_cons_zero, List.getElem?_cons_succ] at qp_0 qp_1 qp_2
  clear qp_
  go_wp2_with fail
  with_reducible refine (aw11_rec _ hT).mono ?_
  rintro o v6_ ⟨rfl, bN⟩
  clear qc_0 qc_1 qc_2 qc_3 qc_4 qc_5 qc_6 qc_7 qc_8 qc_9 qp_0 qp_1 qp_2
  replace qc := qc.on bN
  replace qp := qp.on bN
  replace q3 := q3.on bN
  replace hB1 := hB1.on bN
  replace hT := hT.on bN
  replace B0 := B0.trans (bN.mono B0.size)
  clear bN
  go_upto_region 6 with (fail)
  have q7 := RowAt.new v6_ 44 #[.int .u64 1, .int .u64 13, .int .u64 0]
  have bN := (Below.refl v6_.heap.size v6_).alloc (Nat.le_refl _) (.cells #[.int .u64 1, .int .u64 13, .int .u64 0] 44)
  replace qc := qc.on bN
  replace qp := qp.on bN
  replace q3 := q3.on bN
  replace hB1 := hB1.on bN
  replace hT := hT.on bN
  replace B0 := B0.trans (bN.mono B0.size)
  clear bN
  generalize v6_.alloc (.cells #[.int .u64 1, .int .u64 13, .int .u64 0] 44) = v7_ at *
  obtain ⟨g7, hg9⟩ : ∃ g7, g7 = v6_.heap.size := ⟨_, rfl⟩
  rw [← hg9] at q7 ⊢
  clear hg9
  have qc_ := qc.cell
  have qc_0 := qc_ 0
  have qc_1 := qc_ 1
  have qc_2 := qc_ 2
  have qc_3 := qc_ 3
  have qc_4 := qc_ 4
  have qc_5 := qc_ 5
  have qc_6 := qc_ 6
  have qc_7 := qc_ 7
  have qc_8 := qc_ 8
  have qc_9 := qc_ 9
  simp only [List.getElem?_cons_zero, List.getElem?_cons_succ] at qc_0 qc_1 qc_2 qc_3 qc_4 qc_5 qc_6 qc_7 qc_8 qc_9
  clear qc_
  have qp_ := qp.cell
  have qp_0 := qp_ 0
  have qp_1 := qp_ 1
  have qp_2 := qp_ 2
  simp only [List.getElem?_cons_zero, List.getElem?_cons_succ] at qp_0 qp_1 qp_2
  clear qp_
  go_wp2_with fail
  with_reducible refine (aw11_no1 _ hT).mono ?_
  rintro o v8_ ⟨rfl, bN⟩
  clear qc_0 qc_1 qc_2 qc_3 qc_4 qc_5 qc_6 qc_7 qc_8 qc_9 qp_0 qp_1 qp_2
  replace qc := qc.on bN
  replace qp := qp.on bN
  replace q3 := q3.on bN
  replace q7 := q7.on bN
  replace hB1 := hB1.on bN
  replace hT := hT.on bN
  replace B0 := B0.trans (bN.mono B0.size)
  clear bN
  go_upto_region 7 with (fail)
  have q9 := RowAt.new v8_ 37 #[.int .i64 0, .slice none 0 0]
  have bN := (Below.refl v8_.heap.size v8_).alloc (Nat.le_refl _) (.cells #[.int .i64 0, .slice none 0 0] 37)
  replace qc := qc.on bN
  replace qp := qp.on bN
  replace q3 := q3.on bN
  replace q7 := q7.on bN
  replace hB1 := hB1.on bN
  replace hT := hT.on bN
  replace B0 := B0.trans (bN.mono B0.size)
  clear bN
  generalize v8_.alloc (.cells #[.int .i64 0, .slice none 0 0] 37) = v9_ at *
  obtain ⟨g9, hg9⟩ : ∃ g9, g9 = v8_.heap.size := ⟨_, rfl⟩
  rw [← hg9] at q9 ⊢
  clear hg9
  have qc_ := qc.cell
  have qc_0 := qc_ 0
  have qc_1 := qc_ 1
  have qc_2 := qc_ 2
  have qc_3 := qc_ 3
  have qc_4 := qc_ 4
  have qc_5 := qc_ 5
  have qc_6 := qc_ 6
  have qc_7 := qc_ 7
  have qc_8 := qc_ 8
  have qc_9 := qc_ 9
  simp only [List.getElem?_cons_zero, List.getElem?_cons_succ] at qc_0 qc_1 qc_2 qc_3 qc_4 qc_5 qc_6 qc_7 qc_8 qc_9
  clear qc_
  have qp_ := qp.cell
  have qp_0 := qp_ 0
  have qp_1 := qp_ 1
  have qp_2 := qp_ 2
  simp only [List.getElem?_cons_zero, List.getElem?_cons_succ] at qp_0 qp_1 qp_2
  clear qp_
  go_wp2_with fail
  with_reducible refine (aw11_no2 _ hT).mono ?_
  rintro o v10_ ⟨rfl, bN⟩
  clear qc_0 qc_1 qc_2 qc_3 qc_4 qc_5 qc_6 qc_7 qc_8 qc_9 qp_0 qp_1 qp_2
  replace qc := qc.on bN
  replace qp := qp.on bN
  replace q3 := q3.on bN
  replace q7 := q7.on bN
  replace q9 := q9.on bN
  replace hB1 := hB1.on bN
  replace hT := hT.on bN
  replace B0 := B0.trans (bN.mono B0.size)
  clear bN
  go_upto_region 8 with (fail)
  have qp_ := qp.cell
  have qp_0 := qp_ 0
  have qp_1 := qp_ 1
  have qp_2 := qp_ 2
  simp only [List.getElem?_cons_zero, List.getElem?_cons_succ] at qp_0 qp_1 qp_2
  clear qp_
  go_wp2_with fail
  with_reducible refine (aw11_f1 _).mono ?_
  rintro o v11_ ⟨rfl, bN⟩
  clear qp_0 qp_1 qp_2
  replace qc := qc.on bN
  replace qp := qp.on bN
  replace q3 := q3.on bN
  replace q7 := q7.on bN
  replace q9 := q9.on bN
  replace hB1 := hB1.on bN
  replace hT := hT.on bN
  replace B0 := B0.trans (bN.mono B0.size)
  clear bN
  go_wp2_with fail
  with_reducible refine (aw11_f2 _).mono ?_
  rintro o v12_ ⟨rfl, bN⟩
  replace qc := qc.on bN
  replace qp := qp.on bN
  replace q3 := q3.on bN
  replace q7 := q7.on bN
  replace q9 := q9.on bN
  replace hB1 := hB1.on bN
  replace hT := hT.on bN
  replace B0 := B0.trans (bN.mono B0.size)
  clear bN
  have q3_ := q3.cell
  have q3_0 := q3_ 0
  have q3_1 := q3_ 1
  simp only [List.getElem?_cons_zero, List.getElem?_cons_succ] at q3_0 q3_1
  clear q3_
  have q7_ := q7.cell
  have q7_0 := q7_ 0
  have q7_1 := q7_ 1
  have q7_2 := q7_ 2
  simp only [List.getElem?_cons_zero, List.getElem?_cons_succ] at q7_0 q7_1 q7_2
  clear q7_
  have r3 := RowAt.new v12_ 3 #[.int .i64 0, .int .i64 2, .int .i64 3]
  have b3 := (Below.refl v12_.heap.size v12_).alloc (Nat.le_refl _) (.cells #[.int .i64 0, .int .i64 2, .int .i64 3] 3)
  have hS := Same_any _ (.agg #[.int .i64 4, .slice (some ⟨v12_.heap.size, 0, none⟩) 3 3]) 4 4 [0, 2, 3] [0, 2, 3] _ (hB1.on b3) ⟨_, rfl, Elems.row (xs := [0, 2, 3]) r3⟩ (by decide) (by decide)
  rw [show sameB 4 [0, 2, 3] 4 [0, 2, 3] = true by decide] at hS
  go_wp2_with fail
  with_reducible refine hS.mono ?_
  rintro o v9 ⟨rfl, bN⟩
  clear q3_0 q3_1 q7_0 q7_1 q7_2
  replace q7 := (q7.on b3).on bN
  replace B0 := B0.trans ((b3.trans (bN.mono b3.size)).mono B0.size)
  have q7_ := q7.cell
  have q7_0 := q7_ 0
  have q7_1 := q7_ 1
  have q7_2 := q7_ 2
  simp only [List.getElem?_cons_zero, List.getElem?_cons_succ] at q7_0 q7_1 q7_2
  clear q7_
  go_wp2_with fail
  go_ret
  exact ⟨rfl, B0⟩
end Go.Proofs.YthlajfoipafaaaaDoor

namespace Go.Proofs.YthlajfoipafaaaaDoor
open Go.RowKit Go.Lib

theorem nets_both (v s c n t d r k g z q p e : Int) (u : Nat) : ∃ (NN er : Int) (L : List Int), L.length ≤ maxLen ∧
    (∀ W, Both W → Calls Tryd.prog 14 #[.agg #[.int .i64 v, .int .i64 s, .int .i64 c, .int .i64 n, .int .i64 t, .int .i64 d, .int .i64 r, .int .i64 k, .int .i64 g, .int .u64 z], .agg #[.int .u64 (u : Int), .int .i64 q, .int .i64 p], .int .i64 e] W fun o w' => ∃ A cp, o = .returned (.tuple #[.agg #[.int .i64 NN, .slice A L.length cp], .int .i64 er]) ∧ Bt w' (.agg #[.int .i64 NN, .slice A L.length cp]) NN L ∧ Below W.heap.size W w') ∧
    (∀ W, Calls Tryd.prog 15 #[.agg #[.int .i64 v, .int .i64 s, .int .i64 c, .int .i64 n, .int .i64 t, .int .i64 d, .int .i64 r, .int .i64 k, .int .i64 g, .int .u64 z], .agg #[.int .u64 (u : Int), .int .i64 q, .int .i64 p], .int .i64 e] W fun o w' => ∃ A cp, o = .returned (.tuple #[.agg #[.int .i64 NN, .slice A L.length cp], .int .i64 er]) ∧ Bt w' (.agg #[.int .i64 NN, .slice A L.length cp]) NN L ∧ Below W.heap.size W w') := by
  by_cases hm : (fitsC v s c n t d r k g && fitsP q p && isTickB e) = true
  · obtain ⟨⟨h1, h2⟩, h3⟩ : (fitsC v s c n t d r k g = true ∧ fitsP q p = true) ∧ isTickB e = true := by simpa [Bool.and_eq_true] using hm
    obtain ⟨V, S, C, N, T, D, R, K, G, rfl, rfl, rfl, rfl, rfl, rfl, rfl, rfl, rfl, hf⟩ := fit_nat h1
    rw [fitsP_iff] at h2
    obtain ⟨Q, rfl⟩ := Int.eq_ofNat_of_zero_le h2.1
    obtain ⟨P, rfl⟩ := Int.eq_ofNat_of_zero_le (show 0 ≤ p by omega)
    unfold isTickB at h3
    simp only [Bool.and_eq_true, decide_eq_true_eq] at h3
    obtain ⟨E, rfl⟩ := Int.eq_ofNat_of_zero_le h3.1
    have hp : FitP Q P := ⟨by omega, by omega, by omega⟩
    obtain ⟨L, hL⟩ : ∃ L, netsI N (firstN N K u (blkN u P E)) Q = L := ⟨_, rfl⟩
    refine ⟨N, 0, L, ?_, fun W hW => ?_, fun W => ?_⟩
    · have := bits8_len N (firstN N K u (blkN u P E)) Q hf.n2
      rw [hL] at this
      unfold maxLen
      omega
    · exact (sNets_yes V S C N T D R K G u Q P E z W hf hp (by omega) hW L hL).mono fun o w' ⟨A, cp, ho, hb, _, hB⟩ => ⟨A, cp, ho, hb, hB⟩
    · exact (rsNets_yes V S C N T D R K G u Q P E z W hf hp (by omega) L hL).mono fun o w' ⟨A, cp, ho, hb, _, hB⟩ => ⟨A, cp, ho, hb, hB⟩
  · have hm' := Bool.eq_false_iff.2 hm
    refine ⟨0, 1, [], by simp, fun W hW => ?_, fun W => ?_⟩
    · exact (sNets_no v s c n t d r k g z u q p e W hW hm').mono fun o w' ⟨ho, hB⟩ => ⟨none, 0, ho, ⟨_, rfl, Elems.nil _ _ _⟩, hB⟩
    · exact (rsNets_no v s c n t d r k g z u q p e W hm').mono fun o w' ⟨ho, hB⟩ => ⟨none, 0, ho, ⟨_, rfl, Elems.nil _ _ _⟩, hB⟩
theorem next_both (v s c n t d r k g z q p e : Int) (u : Nat) : ∃ x er : Int,
    (∀ W, Both W → Calls Tryd.prog 16 #[.agg #[.int .i64 v, .int .i64 s, .int .i64 c, .int .i64 n, .int .i64 t, .int .i64 d, .int .i64 r, .int .i64 k, .int .i64 g, .int .u64 z], .agg #[.int .u64 (u : Int), .int .i64 q, .int .i64 p], .int .i64 e] W fun o w' => o = .returned (.tuple #[.int .i64 x, .int .i64 er]) ∧ Below W.heap.size W w') ∧
    (∀ W, Calls Tryd.prog 17 #[.agg #[.int .i64 v, .int .i64 s, .int .i64 c, .int .i64 n, .int .i64 t, .int .i64 d, .int .i64 r, .int .i64 k, .int .i64 g, .int .u64 z], .agg #[.int .u64 (u : Int), .int .i64 q, .int .i64 p], .int .i64 e] W fun o w' => o = .returned (.tuple #[.int .i64 x, .int .i64 er]) ∧ Below W.heap.size W w') := by
  by_cases hm : (fitsC v s c n t d r k g && fitsP q p && isTickB e) = true
  · obtain ⟨⟨h1, h2⟩, h3⟩ : (fitsC v s c n t d r k g = true ∧ fitsP q p = true) ∧ isTickB e = true := by simpa [Bool.and_eq_true] using hm
    obtain ⟨V, S, C, N, T, D, R, K, G, rfl, rfl, rfl, rfl, rfl, rfl, rfl, rfl, rfl, hf⟩ := fit_nat h1
    rw [fitsP_iff] at h2
    obtain ⟨Q, rfl⟩ := Int.eq_ofNat_of_zero_le h2.1
    obtain ⟨P, rfl⟩ := Int.eq_ofNat_of_zero_le (show 0 ≤ p by omega)
    unfold isTickB at h3
    simp only [Bool.and_eq_true, decide_eq_true_eq] at h3
    obtain ⟨E, rfl⟩ := Int.eq_ofNat_of_zero_le h3.1
    have hp : FitP Q P := ⟨by omega, by omega, by omega⟩
    exact ⟨_, 0, fun W hW => sNext_yes V S C N T D R K G u Q P E z W hf hp (by omega) hW, fun W => rsNext_yes V S C N T D R K G u Q P E z W hf hp (by omega)⟩
  · have hm' := Bool.eq_false_iff.2 hm
    exact ⟨0, 1, fun W hW => sNext_no v s c n t d r k g z u q p e W hW hm', fun W => rsNext_no v s c n t d r k g z u q p e W hm'⟩
theorem rec_both (v s c n t d r k g z q p e : Int) (u lw : Nat) (hw : lw < 18446744073709551616) : ∃ x0 x1 x2 er : Int,
    (∀ W, Both W → Calls Tryd.prog 18 #[.agg #[.int .i64 v, .int .i64 s, .int .i64 c, .int .i64 n, .int .i64 t, .int .i64 d, .int .i64 r, .int .i64 k, .int .i64 g, .int .u64 z], .agg #[.int .u64 (u : Int), .int .i64 q, .int .i64 p], .int .i64 e, .int .u64 (lw : Int)] W fun o w' => o = .returned (.tuple #[.agg #[.int .u64 x0, .int .u64 x1, .int .u64 x2], .int .i64 er]) ∧ Below W.heap.size W w') ∧
    (∀ W, Calls Tryd.prog 19 #[.agg #[.int .i64 v, .int .i64 s, .int .i64 c, .int .i64 n, .int .i64 t, .int .i64 d, .int .i64 r, .int .i64 k, .int .i64 g, .int .u64 z], .agg #[.int .u64 (u : Int), .int .i64 q, .int .i64 p], .int .i64 e, .int .u64 (lw : Int)] W fun o w' => o = .returned (.tuple #[.agg #[.int .u64 x0, .int .u64 x1, .int .u64 x2], .int .i64 er]) ∧ Below W.heap.size W w') := by
  by_cases hm : (fitsC v s c n t d r k g && fitsP q p && isTickB e) = true
  · obtain ⟨⟨h1, h2⟩, h3⟩ : (fitsC v s c n t d r k g = true ∧ fitsP q p = true) ∧ isTickB e = true := by simpa [Bool.and_eq_true] using hm
    obtain ⟨V, S, C, N, T, D, R, K, G, rfl, rfl, rfl, rfl, rfl, rfl, rfl, rfl, rfl, hf⟩ := fit_nat h1
    rw [fitsP_iff] at h2
    obtain ⟨Q, rfl⟩ := Int.eq_ofNat_of_zero_le h2.1
    obtain ⟨P, rfl⟩ := Int.eq_ofNat_of_zero_le (show 0 ≤ p by omega)
    unfold isTickB at h3
    simp only [Bool.and_eq_true, decide_eq_true_eq] at h3
    obtain ⟨E, rfl⟩ := Int.eq_ofNat_of_zero_le h3.1
    have hp : FitP Q P := ⟨by omega, by omega, by omega⟩
    exact ⟨_, _, _, 0, fun W hW => sRecord_yes V S C N T D R K G u Q P E lw z W hf hp (by omega) hW hw, fun W => rsRecord_yes V S C N T D R K G u Q P E lw z W hf hp (by omega) hw⟩
  · have hm' := Bool.eq_false_iff.2 hm
    exact ⟨0, 0, 0, 1, fun W hW => sRecord_no v s c n t d r k g z u q p e lw W hW hm', fun W => rsRecord_no v s c n t d r k g z u q p e lw W hm'⟩
theorem two_chains {W : World} {q : Nat} {t : TypeId} {a0 a1 a2 a3 a4 a5 a6 a7 a8 za d0 d1 d2 d3 d4 d5 d6 d7 d8 zd : Int}
    (h : RowAt W q t [.int .i64 a0, .int .i64 a1, .int .i64 a2, .int .i64 a3, .int .i64 a4, .int .i64 a5, .int .i64 a6, .int .i64 a7, .int .i64 a8, .int .u64 za, .int .i64 d0, .int .i64 d1, .int .i64 d2, .int .i64 d3, .int .i64 d4, .int .i64 d5, .int .i64 d6, .int .i64 d7, .int .i64 d8, .int .u64 zd]) (m : Nat) (hm : m < 2) :
    ∃ x0 x1 x2 x3 x4 x5 x6 x7 x8 z : Int, W.cell? ⟨q, m * 10, none⟩ = some (.int .i64 x0) ∧ W.cell? ⟨q, m * 10 + 1, none⟩ = some (.int .i64 x1) ∧ W.cell? ⟨q, m * 10 + 2, none⟩ = some (.int .i64 x2) ∧ W.cell? ⟨q, m * 10 + 3, none⟩ = some (.int .i64 x3) ∧ W.cell? ⟨q, m * 10 + 4, none⟩ = some (.int .i64 x4) ∧ W.cell? ⟨q, m * 10 + 5, none⟩ = some (.int .i64 x5) ∧ W.cell? ⟨q, m * 10 + 6, none⟩ = some (.int .i64 x6) ∧ W.cell? ⟨q, m * 10 + 7, none⟩ = some (.int .i64 x7) ∧ W.cell? ⟨q, m * 10 + 8, none⟩ = some (.int .i64 x8) ∧ W.cell? ⟨q, m * 10 + 9, none⟩ = some (.int .u64 z) := by
  have hm2 : m = 0 ∨ m = 1 := by omega
  rcases hm2 with rfl | rfl
  · exact ⟨a0, a1, a2, a3, a4, a5, a6, a7, a8, za, by rw [h.cell]; rfl, by rw [h.cell]; rfl, by rw [h.cell]; rfl, by rw [h.cell]; rfl, by rw [h.cell]; rfl, by rw [h.cell]; rfl, by rw [h.cell]; rfl, by rw [h.cell]; rfl, by rw [h.cell]; rfl, by rw [h.cell]; rfl⟩
  · exact ⟨d0, d1, d2, d3, d4, d5, d6, d7, d8, zd, by rw [h.cell]; rfl, by rw [h.cell]; rfl, by rw [h.cell]; rfl, by rw [h.cell]; rfl, by rw [h.cell]; rfl, by rw [h.cell]; rfl, by rw [h.cell]; rfl, by rw [h.cell]; rfl, by rw [h.cell]; rfl, by rw [h.cell]; rfl⟩
theorem four_plans {W : World} {g : Nat} {t : TypeId} {u0 u1 u2 u3 : Nat} {q0 p0 q1 p1 q2 p2 q3 p3 : Int}
    (h : RowAt W g t [.int .u64 (u0 : Int), .int .i64 q0, .int .i64 p0, .int .u64 (u1 : Int), .int .i64 q1, .int .i64 p1, .int .u64 (u2 : Int), .int .i64 q2, .int .i64 p2, .int .u64 (u3 : Int), .int .i64 q3, .int .i64 p3]) (m : Nat) (hm : m < 4) :
    ∃ (u : Nat) (q p : Int), W.cell? ⟨g, m * 3, none⟩ = some (.int .u64 (u : Int)) ∧ W.cell? ⟨g, m * 3 + 1, none⟩ = some (.int .i64 q) ∧ W.cell? ⟨g, m * 3 + 2, none⟩ = some (.int .i64 p) := by
  have hm2 : m = 0 ∨ m = 1 ∨ m = 2 ∨ m = 3 := by omega
  rcases hm2 with rfl | rfl | rfl | rfl
  · exact ⟨u0, q0, p0, by rw [h.cell]; rfl, by rw [h.cell]; rfl, by rw [h.cell]; rfl⟩
  · exact ⟨u1, q1, p1, by rw [h.cell]; rfl, by rw [h.cell]; rfl, by rw [h.cell]; rfl⟩
  · exact ⟨u2, q2, p2, by rw [h.cell]; rfl, by rw [h.cell]; rfl, by rw [h.cell]; rfl⟩
  · exact ⟨u3, q3, p3, by rw [h.cell]; rfl, by rw [h.cell]; rfl, by rw [h.cell]; rfl⟩
theorem three_ints {W : World} {g : Nat} {t : TypeId} {x0 x1 x2 : Int} (h : RowAt W g t [.int .i64 x0, .int .i64 x1, .int .i64 x2]) (m : Nat) (hm : m < 3) :
    ∃ x : Int, W.cell? ⟨g, m, none⟩ = some (.int .i64 x) := by
  have hm2 : m = 0 ∨ m = 1 ∨ m = 2 := by omega
  rcases hm2 with rfl | rfl | rfl
  · exact ⟨x0, by rw [h.cell]; rfl⟩
  · exact ⟨x1, by rw [h.cell]; rfl⟩
  · exact ⟨x2, by rw [h.cell]; rfl⟩
end Go.Proofs.YthlajfoipafaaaaDoor
