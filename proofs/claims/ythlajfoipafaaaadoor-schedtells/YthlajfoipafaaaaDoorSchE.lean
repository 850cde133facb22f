/- Package sched: ask, Nets, Next, Record.
   Package sched: Nets, Next, Record. -/
import Derived.Test.YthlajfoipafaaaaDoorSchC
import Derived.Test.YthlajfoipafaaaaDoorRegU
import Derived.Test.YthlajfoipafaaaaDoorLagA
namespace Go.Proofs.YthlajfoipafaaaaDoor
open Go.RowKit Go.Lib

theorem Both.tab {w : World} (h : Both w) : Tab w := h.1
theorem Both.spans {w : World} (h : Both w) : Spans w := h.2
theorem ints_store2s {w : World} {v : Value} {l : List Int} {g lo : Nat} (h : Ints w w.heap.size v l) (hf : FromOn lo v) (hg : g < lo) (u u' : Value) : Ints ((w.setCell ⟨g, 0, none⟩ u).setCell ⟨g, 1, none⟩ u') ((w.setCell ⟨g, 0, none⟩ u).setCell ⟨g, 1, none⟩ u').heap.size v l := by
  have hne : ∀ ad n c, v = .slice (some ad) n c → ad.block ≠ g := fun ad n c e => by have := hf ad n c e; omega
  have := Elems.apart_of (Elems.apart_of h hne (p := ⟨g, 0, none⟩) rfl u) hne (p := ⟨g, 1, none⟩) rfl u'
  simpa [World.setCell] using this

set_option maxHeartbeats 1000000 in
set_option maxRecDepth 100000 in
/-- What Record tells of a turn; the lag's word lies in a box. -/
theorem trec_any (V S C N T D R K G U Q P B x gx : Nat) (z : Int) (w : World) (h : FitD V S C N T D R K G) (hp : FitP Q P) (hB9 : B ≤ 2199023255552) (hx : x < 18446744073709551616) (hT : Tab w) (hg : RowAt w gx 22 [.int .u64 (x : Int)]) :
    Calls Tryd.prog 35 #[.agg #[.int .i64 (V : Int), .int .i64 (S : Int), .int .i64 (C : Int), .int .i64 (N : Int), .int .i64 (T : Int), .int .i64 (D : Int), .int .i64 (R : Int), .int .i64 (K : Int), .int .i64 (G : Int), .int .u64 z, .int .u64 (U : Int), .int .i64 (Q : Int), .int .i64 (P : Int), .int .i64 (B : Int)], .pointer (some ⟨gx, 0, none⟩)] w fun o w' => o = .returned (.agg #[.int .u64 ((B + 1 : Nat) : Int), .int .u64 (wordN N (firstN N K U B) Q : Int), .int .u64 (plainW x : Nat)]) ∧ Below w.heap.size w w' := by
  have cW := fun W hW => tword_any V S C N T D R K G U Q P B z W h hp hB9 hW
  have cL := fun W => Plain_any x W hx
  generalize wordN N (firstN N K U B) Q = wd at *
  generalize plainW x = pl at *
  have e0 : IntKind.u64.wrap (B : Int) = (B : Int) := IntWalk.u64_in _ (by omega)
  have e1 : (B : Int) + 1 = ((B + 1 : Nat) : Int) := by omega
  have e2 : IntKind.u64.wrap ((B + 1 : Nat) : Int) = ((B + 1 : Nat) : Int) := IntWalk.u64_in _ (by omega)
  generalize B + 1 = B1 at *
  have b0 := ((Below.refl w.heap.size w).alloc (Nat.le_refl _) (.cells #[.int .i64 (V : Int), .int .i64 (S : Int), .int .i64 (C : Int), .int .i64 (N : Int), .int .i64 (T : Int), .int .i64 (D : Int), .int .i64 (R : Int), .int .i64 (K : Int), .int .i64 (G : Int), .int .u64 z, .int .u64 (U : Int), .int .i64 (Q : Int), .int .i64 (P : Int), .int .i64 (B : Int)] 59)).alloc (((Below.refl w.heap.size w).alloc (Nat.le_refl _) (.cells #[.int .i64 (V : Int), .int .i64 (S : Int), .int .i64 (C : Int), .int .i64 (N : Int), .int .i64 (T : Int), .int .i64 (D : Int), .int .i64 (R : Int), .int .i64 (K : Int), .int .i64 (G : Int), .int .u64 z, .int .u64 (U : Int), .int .i64 (Q : Int), .int .i64 (P : Int), .int .i64 (B : Int)] 59)).size) (.cells #[.int .u64 0, .int .u64 0, .int .u64 0] 44)
  have q := (RowAt.new w 59 #[.int .i64 (V : Int), .int .i64 (S : Int), .int .i64 (C : Int), .int .i64 (N : Int), .int .i64 (T : Int), .int .i64 (D : Int), .int .i64 (R : Int), .int .i64 (K : Int), .int .i64 (G : Int), .int .u64 z, .int .u64 (U : Int), .int .i64 (Q : Int), .int .i64 (P : Int), .int .i64 (B : Int)]).alloc (.cells #[.int .u64 0, .int .u64 0, .int .u64 0] 44)
  have q3 := RowAt.new (w.alloc (.cells #[.int .i64 (V : Int), .int .i64 (S : Int), .int .i64 (C : Int), .int .i64 (N : Int), .int .i64 (T : Int), .int .i64 (D : Int), .int .i64 (R : Int), .int .i64 (K : Int), .int .i64 (G : Int), .int .u64 z, .int .u64 (U : Int), .int .i64 (Q : Int), .int .i64 (P : Int), .int .i64 (B : Int)] 59)) 44 #[.int .u64 0, .int .u64 0, .int .u64 0]
  rw [World.size_alloc] at q3
  have hgx := (hg.alloc (.cells #[.int .i64 (V : Int), .int .i64 (S : Int), .int .i64 (C : Int), .int .i64 (N : Int), .int .i64 (T : Int), .int .i64 (D : Int), .int .i64 (R : Int), .int .i64 (K : Int), .int .i64 (G : Int), .int .u64 z, .int .u64 (U : Int), .int .i64 (Q : Int), .int .i64 (P : Int), .int .i64 (B : Int)] 59)).alloc (.cells #[.int .u64 0, .int .u64 0, .int .u64 0] 44)
  have hT0 := hT.below b0 hT.lt
  have hlx := hg.lt
  go_enter Tryd.func35, Tryd.ntmps35
  go_upto_region 1 with (fail)
  generalize (w.alloc (.cells #[.int .i64 (V : Int), .int .i64 (S : Int), .int .i64 (C : Int), .int .i64 (N : Int), .int .i64 (T : Int), .int .i64 (D : Int), .int .i64 (R : Int), .int .i64 (K : Int), .int .i64 (G : Int), .int .u64 z, .int .u64 (U : Int), .int .i64 (Q : Int), .int .i64 (P : Int), .int .i64 (B : Int)] 59)).alloc (.cells #[.int .u64 0, .int .u64 0, .int .u64 0] 44) = w1 at *
  clear hg hT
  have hl1 := q3.lt
  have y0 := q.laterT 0 _ rfl
  have y1 := q.laterT 1 _ rfl
  have y2 := q.laterT 2 _ rfl
  have y3 := q.laterT 3 _ rfl
  have y4 := q.laterT 4 _ rfl
  have y5 := q.laterT 5 _ rfl
  have y6 := q.laterT 6 _ rfl
  have y7 := q.laterT 7 _ rfl
  have y8 := q.laterT 8 _ rfl
  have y9 := q.laterT 9 _ rfl
  have y10 := q.laterT 10 _ rfl
  have y11 := q.laterT 11 _ rfl
  have y12 := q.laterT 12 _ rfl
  have y13 := q.laterT 13 _ rfl
  have yx := hgx.laterT 0 _ rfl
  have HW : ∀ p : LaterT w1, Calls Tryd.prog 36 #[.agg #[.int .i64 (V : Int), .int .i64 (S : Int), .int .i64 (C : Int), .int .i64 (N : Int), .int .i64 (T : Int), .int .i64 (D : Int), .int .i64 (R : Int), .int .i64 (K : Int), .int .i64 (G : Int), .int .u64 z, .int .u64 (U : Int), .int .i64 (Q : Int), .int .i64 (P : Int), .int .i64 (B : Int)]] p.W fun e w_ => e = .returned (.int .u64 (wd : Int)) ∧ ∃ p : LaterT w1, w_ = p.W := fun p => laterT_of (cW _ (hT0.on p.h))
  have HL : ∀ p : LaterT w1, Calls Tryd.prog 23 #[.int .u64 (x : Int)] p.W fun e w_ => e = .returned (.int .u64 (pl : Nat)) ∧ ∃ p : LaterT w1, w_ = p.W := fun p => laterT_same (cL _)
  refine wp_region_later_tail0 8 2 (by kernel_rfl) (by kernel_rfl) ?_
  simp only [List.take_succ_cons, List.take_zero]
  repeat (go_big_quiet_step (first | (go_at_call 36; exact HW _) | (go_at_call 23; exact HL _)))
  refine wpQuiet_nil ?_
  intro w' hw'
  obtain ⟨pq, rfl⟩ := hw'
  have bq := pq.h
  replace q3 := q3.on bq
  have B2 := b0.trans (bq.mono b0.size)
  generalize pq.W = w2 at *
  clear HW HL cW cL q hgx hT0 b0 bq pq y0 y1 y2 y3 y4 y5 y6 y7 y8 y9 y10 y11 y12 y13 yx
  simp only [List.drop_succ_cons, List.drop_zero, List.take_succ_cons, List.take_zero]
  have f0 := q3.frozen 0
  have f1 := q3.frozen 1
  have f2 := q3.frozen 2
  have c0 := q3.cell 0
  have c1 := q3.cell 1
  have c2 := q3.cell 2
  simp only [List.getElem?_cons_zero, List.getElem?_cons_succ] at c0 c1 c2
  go_wp2_with fail
  have R3 := ((q3.set 0 (.int .u64 (B1 : Int))).set 1 (.int .u64 (wd : Int))).set 2 (.int .u64 (pl : Nat))
  have d0 := R3.cell 0
  have d1 := R3.cell 1
  have d2 := R3.cell 2
  simp only [List.set_cons_zero, List.set_cons_succ, List.getElem?_cons_zero, List.getElem?_cons_succ] at d0 d1 d2
  refine bodyPost_ret (v := .agg #[.int .u64 (B1 : Int), .int .u64 (wd : Int), .int .u64 (pl : Nat)]) (by simp [results, Tryd.results35, go_sem, d0, d1, d2]) rfl ?_
  exact ⟨rfl, ((B2.setCell (p := ⟨w.heap.size + 1, 0, none⟩) (by simp) _).setCell (p := ⟨w.heap.size + 1, 1, none⟩) (by simp) _).setCell (p := ⟨w.heap.size + 1, 2, none⟩) (by simp) _⟩
set_option maxHeartbeats 2000000 in
set_option maxRecDepth 100000 in
theorem askB_yes (V S C N T D R K G U Q P E : Nat) (z : Int) (w : World) (h : FitD V S C N T D R K G) (hp : FitP Q P) (hE : E ≤ 1099511627776) (hT : Both w) (L : List Int) (hL : netsI N (firstN N K U (blkN U P E)) Q = L) :
    Calls Tryd.prog 26 #[.agg #[.int .i64 (V : Int), .int .i64 (S : Int), .int .i64 (C : Int), .int .i64 (N : Int), .int .i64 (T : Int), .int .i64 (D : Int), .int .i64 (R : Int), .int .i64 (K : Int), .int .i64 (G : Int), .int .u64 z], .agg #[.int .u64 (U : Int), .int .i64 (Q : Int), .int .i64 (P : Int)], .int .i64 (E : Int), .func (.func 27) #[] #[]] w fun o w' => ∃ A c, o = .returned (.tuple #[.agg #[.int .i64 (N : Int), .slice A L.length c], .int .i64 0]) ∧ Bt w' (.agg #[.int .i64 (N : Int), .slice A L.length c]) N L ∧ FromOn w.heap.size (.slice A L.length c) ∧ Below w.heap.size w w' := by
  obtain ⟨p1, p2⟩ : 1 ≤ P ∧ P ≤ 256 := ⟨hp.p1, hp.p2⟩
  have cS := fun W => shift_any U P (Q : Int) W p1 p2
  have cFP : ∀ W, Calls Tryd.prog 11 #[.agg #[.int .u64 (U : Int), .int .i64 (Q : Int), .int .i64 (P : Int)]] W fun o w' => o = .returned (.bool true) ∧ Below W.heap.size W w' := fun W => by have := scFits_any U Q P W; rwa [hp.fits] at this
  have hsh : U % P < P := Nat.mod_lt _ (by omega)
  have hbk : blkN U P E ≤ E + U % P := blk_le
  have e4 : ((E + U % P : Nat) : Int).tdiv (P : Int) = ((blkN U P E : Nat) : Int) := tdiv_nat (E + U % P) P
  have cT := fun W (hW : Tab W) => tbits_any V S C N T D R K G U Q P (blkN U P E) z W h hp (by omega) hW L hL
  clear hL
  generalize blkN U P E = B at *
  generalize U % P = sh at *
  have e1 : (E : Int) + (sh : Int) = ((E + sh : Nat) : Int) := by omega
  have e2 : IntKind.i64.wrap ((E + sh : Nat) : Int) = ((E + sh : Nat) : Int) := wrap_small (by omega) (by omega)
  generalize E + sh = ES at *
  have e3 : IntKind.i64.wrap (B : Int) = (B : Int) := wrap_small (by omega) (by omega)
  have e5 : ((P : Int) = 0) = False := eq_false (by omega)
  have e6 : (P = 0) = False := eq_false (by omega)
  have e7 : ((E : Int) < 0) = False := eq_false (by omega)
  have e8 : (1099511627776 < (E : Int)) = False := eq_false (by omega)
  have e9 : (1099511627776 < E) = False := eq_false (by omega)
  have b0 := Below.refl w.heap.size w
  replace b0 := b0.alloc b0.size (.cells #[.int .i64 (V : Int), .int .i64 (S : Int), .int .i64 (C : Int), .int .i64 (N : Int), .int .i64 (T : Int), .int .i64 (D : Int), .int .i64 (R : Int), .int .i64 (K : Int), .int .i64 (G : Int), .int .u64 z] 24)
  replace b0 := b0.alloc b0.size (.cells #[.int .u64 (U : Int), .int .i64 (Q : Int), .int .i64 (P : Int)] 26)
  replace b0 := b0.alloc b0.size (.cells #[.int .i64 0, .slice none 0 0] 37)
  have qc := (RowAt.new w 24 #[.int .i64 (V : Int), .int .i64 (S : Int), .int .i64 (C : Int), .int .i64 (N : Int), .int .i64 (T : Int), .int .i64 (D : Int), .int .i64 (R : Int), .int .i64 (K : Int), .int .i64 (G : Int), .int .u64 z]).alloc (.cells #[.int .u64 (U : Int), .int .i64 (Q : Int), .int .i64 (P : Int)] 26)
  replace qc := qc.alloc (.cells #[.int .i64 0, .slice none 0 0] 37)
  have qp := RowAt.new (w.alloc (.cells #[.int .i64 (V : Int), .int .i64 (S : Int), .int .i64 (C : Int), .int .i64 (N : Int), .int .i64 (T : Int), .int .i64 (D : Int), .int .i64 (R : Int), .int .i64 (K : Int), .int .i64 (G : Int), .int .u64 z] 24)) 26 #[.int .u64 (U : Int), .int .i64 (Q : Int), .int .i64 (P : Int)]
  replace qp := qp.alloc (.cells #[.int .i64 0, .slice none 0 0] 37)
  rw [World.size_alloc] at qp
  have q8 := RowAt.new ((w.alloc (.cells #[.int .i64 (V : Int), .int .i64 (S : Int), .int .i64 (C : Int), .int .i64 (N : Int), .int .i64 (T : Int), .int .i64 (D : Int), .int .i64 (R : Int), .int .i64 (K : Int), .int .i64 (G : Int), .int .u64 z] 24)).alloc (.cells #[.int .u64 (U : Int), .int .i64 (Q : Int), .int .i64 (P : Int)] 26)) 37 #[.int .i64 0, .slice none 0 0]
  rw [World.size_alloc, World.size_alloc] at q8
  have hT0 : Both (((w.alloc (.cells #[.int .i64 (V : Int), .int .i64 (S : Int), .int .i64 (C : Int), .int .i64 (N : Int), .int .i64 (T : Int), .int .i64 (D : Int), .int .i64 (R : Int), .int .i64 (K : Int), .int .i64 (G : Int), .int .u64 z] 24)).alloc (.cells #[.int .u64 (U : Int), .int .i64 (Q : Int), .int .i64 (P : Int)] 26)).alloc (.cells #[.int .i64 0, .slice none 0 0] 37)) := ⟨hT.1.below b0 hT.1.lt, hT.2.below b0 hT.2.lt⟩
  go_enter Tryd.func26, Tryd.ntmps26
  go_upto_region 1 with (fail)
  generalize (((w.alloc (.cells #[.int .i64 (V : Int), .int .i64 (S : Int), .int .i64 (C : Int), .int .i64 (N : Int), .int .i64 (T : Int), .int .i64 (D : Int), .int .i64 (R : Int), .int .i64 (K : Int), .int .i64 (G : Int), .int .u64 z] 24)).alloc (.cells #[.int .u64 (U : Int), .int .i64 (Q : Int), .int .i64 (P : Int)] 26)).alloc (.cells #[.int .i64 0, .slice none 0 0] 37)) = w0 at *
  clear hT
  have y := qc.cell
  have y0 := y 0
  have y1 := y 1
  have y2 := y 2
  have y3 := y 3
  have y4 := y 4
  have y5 := y 5
  have y6 := y 6
  have y7 := y 7
  have y8 := y 8
  have y9 := y 9
  simp only [List.getElem?_cons_zero, List.getElem?_cons_succ] at y0 y1 y2 y3 y4 y5 y6 y7 y8 y9
  clear y
  go_wp2_with fail
  with_reducible refine (Fits_eq h.fits z _ hT0.spans).mono ?_
  rintro o w1 ⟨rfl, b1⟩
  clear y0 y1 y2 y3 y4 y5 y6 y7 y8 y9
  replace qc := qc.on b1
  replace qp := qp.on b1
  replace q8 := q8.on b1
  have hT1 := hT0.on b1
  have B1 := b0.trans (b1.mono b0.size)
  clear b0 b1 hT0
  have x := qp.cell
  have x0 := x 0
  have x1 := x 1
  have x2 := x 2
  simp only [List.getElem?_cons_zero, List.getElem?_cons_succ] at x0 x1 x2
  clear x
  go_wp2_with fail
  with_reducible refine (cFP _).mono ?_
  rintro o w2 ⟨rfl, b2⟩
  clear x0 x1 x2 cFP
  replace qc := qc.on b2
  replace qp := qp.on b2
  replace q8 := q8.on b2
  have hT2 := hT1.on b2
  have B2 := B1.trans (b2.mono B1.size)
  clear b2 B1 hT1
  go_upto_region 4 with (fail)
  have y0 := qc.laterT 0 _ rfl
  have y1 := qc.laterT 1 _ rfl
  have y2 := qc.laterT 2 _ rfl
  have y3 := qc.laterT 3 _ rfl
  have y4 := qc.laterT 4 _ rfl
  have y5 := qc.laterT 5 _ rfl
  have y6 := qc.laterT 6 _ rfl
  have y7 := qc.laterT 7 _ rfl
  have y8 := qc.laterT 8 _ rfl
  have y9 := qc.laterT 9 _ rfl
  have x0 := qp.laterT 0 _ rfl
  have x1 := qp.laterT 1 _ rfl
  have x2 := qp.laterT 2 _ rfl
  have HS : ∀ p : LaterT w2, Calls Tryd.prog 45 #[.agg #[.int .u64 (U : Int), .int .i64 (Q : Int), .int .i64 (P : Int)]] p.W fun e w_ => e = .returned (.int .i64 (sh : Int)) ∧ ∃ p : LaterT w2, w_ = p.W := fun p => laterT_of (cS _)
  refine wp_region_later_tail0 11 3 (by kernel_rfl) (by kernel_rfl) ?_
  simp only [List.take_succ_cons, List.take_zero]
  (try simp only [Act.put]); (try simp only [List.setIfInBounds_toArray]); (try simp only [List.set_cons_succ, List.set_cons_zero])
  repeat (go_big_quiet_step (first | (go_at_call 45; exact HS _)))
  refine wpQuiet_nil ?_
  intro w' hw'
  obtain ⟨pq, rfl⟩ := hw'
  have bq := pq.h
  replace qc := qc.on bq
  replace qp := qp.on bq
  replace q8 := q8.on bq
  have hT3 := hT2.on bq
  have B3 := B2.trans (bq.mono B2.size)
  generalize pq.W = w3 at *
  clear HS cS bq pq B2 hT2 y0 y1 y2 y3 y4 y5 y6 y7 y8 y9 x0 x1 x2
  simp only [List.drop_succ_cons, List.drop_zero, List.take_succ_cons, List.take_zero]
  go_wp2_with (go_at_call 27; refine (cT _ hT3.tab).mono ?_; rintro o w4 ⟨A, c, rfl, hBt, hFr, b4⟩; have B4 := B3.trans (b4.mono B3.size); have q4 := q8.on b4; have f0 := q4.frozen 0; have f1 := q4.frozen 1; obtain ⟨c0, c1⟩ := q4.two)
  have hl8 := q8.lt
  have R3 := (q4.set 0 (.int .i64 (N : Int))).set 1 (.slice A L.length c)
  have d0 := R3.cell 0
  have d1 := R3.cell 1
  simp only [List.set_cons_zero, List.set_cons_succ, List.getElem?_cons_zero, List.getElem?_cons_succ] at d0 d1
  refine bodyPost_ret (v := .tuple #[.agg #[.int .i64 (N : Int), .slice A L.length c], .int .i64 0]) (by simp [results, Tryd.results26, go_sem, d0, d1]) rfl ?_
  obtain ⟨v, hv, hI⟩ := hBt
  obtain rfl : v = .slice A L.length c := by cases hv; rfl
  exact ⟨A, c, rfl, ⟨_, rfl, ints_store2s hI hFr (show w.heap.size + 1 + 1 < w3.heap.size by omega) _ _⟩, hFr.less (by have := B3.size; omega), (B4.setCell (p := ⟨w.heap.size + 1 + 1, 0, none⟩) (by simp; omega) _).setCell (p := ⟨w.heap.size + 1 + 1, 1, none⟩) (by simp; omega) _⟩
set_option maxHeartbeats 2000000 in
set_option maxRecDepth 100000 in
theorem askI_yes (V S C N T D R K G U Q P E : Nat) (z : Int) (w : World) (h : FitD V S C N T D R K G) (hp : FitP Q P) (hE : E ≤ 1099511627776) (hT : Both w) :
    Calls Tryd.prog 32 #[.agg #[.int .i64 (V : Int), .int .i64 (S : Int), .int .i64 (C : Int), .int .i64 (N : Int), .int .i64 (T : Int), .int .i64 (D : Int), .int .i64 (R : Int), .int .i64 (K : Int), .int .i64 (G : Int), .int .u64 z], .agg #[.int .u64 (U : Int), .int .i64 (Q : Int), .int .i64 (P : Int)], .int .i64 (E : Int), .func (.func 33) #[] #[]] w fun o w' => o = .returned (.tuple #[.int .i64 (endN U P (blkN U P E) : Int), .int .i64 0]) ∧ Below w.heap.size w w' := by
  obtain ⟨p1, p2⟩ : 1 ≤ P ∧ P ≤ 256 := ⟨hp.p1, hp.p2⟩
  have cS := fun W => shift_any U P (Q : Int) W p1 p2
  have cFP : ∀ W, Calls Tryd.prog 11 #[.agg #[.int .u64 (U : Int), .int .i64 (Q : Int), .int .i64 (P : Int)]] W fun o w' => o = .returned (.bool true) ∧ Below W.heap.size W w' := fun W => by have := scFits_any U Q P W; rwa [hp.fits] at this
  have hsh : U % P < P := Nat.mod_lt _ (by omega)
  have hbk : blkN U P E ≤ E + U % P := blk_le
  have e4 : ((E + U % P : Nat) : Int).tdiv (P : Int) = ((blkN U P E : Nat) : Int) := tdiv_nat (E + U % P) P
  have cT := fun W => tend_any V S C N T D R K G U Q P (blkN U P E) z W hp (by omega)
  generalize endN U P (blkN U P E) = en at *
  generalize blkN U P E = B at *
  generalize U % P = sh at *
  have e1 : (E : Int) + (sh : Int) = ((E + sh : Nat) : Int) := by omega
  have e2 : IntKind.i64.wrap ((E + sh : Nat) : Int) = ((E + sh : Nat) : Int) := wrap_small (by omega) (by omega)
  generalize E + sh = ES at *
  have e3 : IntKind.i64.wrap (B : Int) = (B : Int) := wrap_small (by omega) (by omega)
  have e5 : ((P : Int) = 0) = False := eq_false (by omega)
  have e6 : (P = 0) = False := eq_false (by omega)
  have e7 : ((E : Int) < 0) = False := eq_false (by omega)
  have e8 : (1099511627776 < (E : Int)) = False := eq_false (by omega)
  have e9 : (1099511627776 < E) = False := eq_false (by omega)
  have b0 := Below.refl w.heap.size w
  replace b0 := b0.alloc b0.size (.cells #[.int .i64 (V : Int), .int .i64 (S : Int), .int .i64 (C : Int), .int .i64 (N : Int), .int .i64 (T : Int), .int .i64 (D : Int), .int .i64 (R : Int), .int .i64 (K : Int), .int .i64 (G : Int), .int .u64 z] 24)
  replace b0 := b0.alloc b0.size (.cells #[.int .u64 (U : Int), .int .i64 (Q : Int), .int .i64 (P : Int)] 26)
  have qc := (RowAt.new w 24 #[.int .i64 (V : Int), .int .i64 (S : Int), .int .i64 (C : Int), .int .i64 (N : Int), .int .i64 (T : Int), .int .i64 (D : Int), .int .i64 (R : Int), .int .i64 (K : Int), .int .i64 (G : Int), .int .u64 z]).alloc (.cells #[.int .u64 (U : Int), .int .i64 (Q : Int), .int .i64 (P : Int)] 26)
  have qp := RowAt.new (w.alloc (.cells #[.int .i64 (V : Int), .int .i64 (S : Int), .int .i64 (C : Int), .int .i64 (N : Int), .int .i64 (T : Int), .int .i64 (D : Int), .int .i64 (R : Int), .int .i64 (K : Int), .int .i64 (G : Int), .int .u64 z] 24)) 26 #[.int .u64 (U : Int), .int .i64 (Q : Int), .int .i64 (P : Int)]
  rw [World.size_alloc] at qp
  have hT0 : Both ((w.alloc (.cells #[.int .i64 (V : Int), .int .i64 (S : Int), .int .i64 (C : Int), .int .i64 (N : Int), .int .i64 (T : Int), .int .i64 (D : Int), .int .i64 (R : Int), .int .i64 (K : Int), .int .i64 (G : Int), .int .u64 z] 24)).alloc (.cells #[.int .u64 (U : Int), .int .i64 (Q : Int), .int .i64 (P : Int)] 26)) := ⟨hT.1.below b0 hT.1.lt, hT.2.below b0 hT.2.lt⟩
  go_enter Tryd.func32, Tryd.ntmps32
  go_upto_region 1 with (fail)
  generalize ((w.alloc (.cells #[.int .i64 (V : Int), .int .i64 (S : Int), .int .i64 (C : Int), .int .i64 (N : Int), .int .i64 (T : Int), .int .i64 (D : Int), .int .i64 (R : Int), .int .i64 (K : Int), .int .i64 (G : Int), .int .u64 z] 24)).alloc (.cells #[.int .u64 (U : Int), .int .i64 (Q : Int), .int .i64 (P : Int)] 26)) = w0 at *
  clear hT
  have y := qc.cell
  have y0 := y 0
  have y1 := y 1
  have y2 := y 2
  have y3 := y 3
  have y4 := y 4
  have y5 := y 5
  have y6 := y 6
  have y7 := y 7
  have y8 := y 8
  have y9 := y 9
  simp only [List.getElem?_cons_zero, List.getElem?_cons_succ] at y0 y1 y2 y3 y4 y5 y6 y7 y8 y9
  clear y
  go_wp2_with fail
  with_reducible refine (Fits_eq h.fits z _ hT0.spans).mono ?_
  rintro o w1 ⟨rfl, b1⟩
  clear y0 y1 y2 y3 y4 y5 y6 y7 y8 y9
  replace qc := qc.on b1
  replace qp := qp.on b1
  have hT1 := hT0.on b1
  have B1 := b0.trans (b1.mono b0.size)
  clear b0 b1 hT0
  have x := qp.cell
  have x0 := x 0
  have x1 := x 1
  have x2 := x 2
  simp only [List.getElem?_cons_zero, List.getElem?_cons_succ] at x0 x1 x2
  clear x
  go_wp2_with fail
  with_reducible refine (cFP _).mono ?_
  rintro o w2 ⟨rfl, b2⟩
  clear x0 x1 x2 cFP
  replace qc := qc.on b2
  replace qp := qp.on b2
  have hT2 := hT1.on b2
  have B2 := B1.trans (b2.mono B1.size)
  clear b2 B1 hT1
  go_upto_region 4 with (fail)
  have y0 := qc.laterT 0 _ rfl
  have y1 := qc.laterT 1 _ rfl
  have y2 := qc.laterT 2 _ rfl
  have y3 := qc.laterT 3 _ rfl
  have y4 := qc.laterT 4 _ rfl
  have y5 := qc.laterT 5 _ rfl
  have y6 := qc.laterT 6 _ rfl
  have y7 := qc.laterT 7 _ rfl
  have y8 := qc.laterT 8 _ rfl
  have y9 := qc.laterT 9 _ rfl
  have x0 := qp.laterT 0 _ rfl
  have x1 := qp.laterT 1 _ rfl
  have x2 := qp.laterT 2 _ rfl
  have HS : ∀ p : LaterT w2, Calls Tryd.prog 45 #[.agg #[.int .u64 (U : Int), .int .i64 (Q : Int), .int .i64 (P : Int)]] p.W fun e w_ => e = .returned (.int .i64 (sh : Int)) ∧ ∃ p : LaterT w2, w_ = p.W := fun p => laterT_of (cS _)
  refine wp_region_later_tail0 11 3 (by kernel_rfl) (by kernel_rfl) ?_
  simp only [List.take_succ_cons, List.take_zero]
  (try simp only [Act.put]); (try simp only [List.setIfInBounds_toArray]); (try simp only [List.set_cons_succ, List.set_cons_zero])
  repeat (go_big_quiet_step (first | (go_at_call 45; exact HS _)))
  refine wpQuiet_nil ?_
  intro w' hw'
  obtain ⟨pq, rfl⟩ := hw'
  have bq := pq.h
  replace qc := qc.on bq
  replace qp := qp.on bq
  have hT3 := hT2.on bq
  have B3 := B2.trans (bq.mono B2.size)
  generalize pq.W = w3 at *
  clear HS cS bq pq B2 hT2 y0 y1 y2 y3 y4 y5 y6 y7 y8 y9 x0 x1 x2
  simp only [List.drop_succ_cons, List.drop_zero, List.take_succ_cons, List.take_zero]
  go_wp2_with (go_at_call 33; refine (cT _).mono ?_; rintro o w4 ⟨rfl, b4⟩)
  have B4 := B3.trans (b4.mono B3.size)
  go_ret2
  exact ⟨rfl, B4⟩
set_option maxHeartbeats 2000000 in
set_option maxRecDepth 100000 in
theorem askR_yes (V S C N T D R K G U Q P E x gx : Nat) (z : Int) (w : World) (h : FitD V S C N T D R K G) (hp : FitP Q P) (hE : E ≤ 1099511627776) (hT : Both w) (hx : x < 18446744073709551616) (hg : RowAt w gx 22 [.int .u64 (x : Int)]) :
    Calls Tryd.prog 34 #[.agg #[.int .i64 (V : Int), .int .i64 (S : Int), .int .i64 (C : Int), .int .i64 (N : Int), .int .i64 (T : Int), .int .i64 (D : Int), .int .i64 (R : Int), .int .i64 (K : Int), .int .i64 (G : Int), .int .u64 z], .agg #[.int .u64 (U : Int), .int .i64 (Q : Int), .int .i64 (P : Int)], .int .i64 (E : Int), .func (.func 35) #[] #[.pointer (some ⟨gx, 0, none⟩)]] w fun o w' => o = .returned (.tuple #[.agg #[.int .u64 ((blkN U P E + 1 : Nat) : Int), .int .u64 (wordN N (firstN N K U (blkN U P E)) Q : Int), .int .u64 (plainW x : Nat)], .int .i64 0]) ∧ Below w.heap.size w w' := by
  obtain ⟨p1, p2⟩ : 1 ≤ P ∧ P ≤ 256 := ⟨hp.p1, hp.p2⟩
  have cS := fun W => shift_any U P (Q : Int) W p1 p2
  have cFP : ∀ W, Calls Tryd.prog 11 #[.agg #[.int .u64 (U : Int), .int .i64 (Q : Int), .int .i64 (P : Int)]] W fun o w' => o = .returned (.bool true) ∧ Below W.heap.size W w' := fun W => by have := scFits_any U Q P W; rwa [hp.fits] at this
  have hsh : U % P < P := Nat.mod_lt _ (by omega)
  have hbk : blkN U P E ≤ E + U % P := blk_le
  have e4 : ((E + U % P : Nat) : Int).tdiv (P : Int) = ((blkN U P E : Nat) : Int) := tdiv_nat (E + U % P) P
  have cT := fun W (hW : Tab W) (hG : RowAt W gx 22 [.int .u64 (x : Int)]) => trec_any V S C N T D R K G U Q P (blkN U P E) x gx z W h hp (by omega) hx hW hG
  generalize wordN N (firstN N K U (blkN U P E)) Q = wd at *
  generalize plainW x = pl at *
  generalize blkN U P E = B at *
  generalize U % P = sh at *
  have e1 : (E : Int) + (sh : Int) = ((E + sh : Nat) : Int) := by omega
  have e2 : IntKind.i64.wrap ((E + sh : Nat) : Int) = ((E + sh : Nat) : Int) := wrap_small (by omega) (by omega)
  generalize E + sh = ES at *
  have e3 : IntKind.i64.wrap (B : Int) = (B : Int) := wrap_small (by omega) (by omega)
  have e5 : ((P : Int) = 0) = False := eq_false (by omega)
  have e6 : (P = 0) = False := eq_false (by omega)
  have e7 : ((E : Int) < 0) = False := eq_false (by omega)
  have e8 : (1099511627776 < (E : Int)) = False := eq_false (by omega)
  have e9 : (1099511627776 < E) = False := eq_false (by omega)
  generalize B + 1 = B1 at *
  have b0 := Below.refl w.heap.size w
  replace b0 := b0.alloc b0.size (.cells #[.int .i64 (V : Int), .int .i64 (S : Int), .int .i64 (C : Int), .int .i64 (N : Int), .int .i64 (T : Int), .int .i64 (D : Int), .int .i64 (R : Int), .int .i64 (K : Int), .int .i64 (G : Int), .int .u64 z] 24)
  replace b0 := b0.alloc b0.size (.cells #[.int .u64 (U : Int), .int .i64 (Q : Int), .int .i64 (P : Int)] 26)
  replace b0 := b0.alloc b0.size (.cells #[.int .u64 0, .int .u64 0, .int .u64 0] 44)
  have qc := (RowAt.new w 24 #[.int .i64 (V : Int), .int .i64 (S : Int), .int .i64 (C : Int), .int .i64 (N : Int), .int .i64 (T : Int), .int .i64 (D : Int), .int .i64 (R : Int), .int .i64 (K : Int), .int .i64 (G : Int), .int .u64 z]).alloc (.cells #[.int .u64 (U : Int), .int .i64 (Q : Int), .int .i64 (P : Int)] 26)
  replace qc := qc.alloc (.cells #[.int .u64 0, .int .u64 0, .int .u64 0] 44)
  have qp := RowAt.new (w.alloc (.cells #[.int .i64 (V : Int), .int .i64 (S : Int), .int .i64 (C : Int), .int .i64 (N : Int), .int .i64 (T : Int), .int .i64 (D : Int), .int .i64 (R : Int), .int .i64 (K : Int), .int .i64 (G : Int), .int .u64 z] 24)) 26 #[.int .u64 (U : Int), .int .i64 (Q : Int), .int .i64 (P : Int)]
  replace qp := qp.alloc (.cells #[.int .u64 0, .int .u64 0, .int .u64 0] 44)
  rw [World.size_alloc] at qp
  have q8 := RowAt.new ((w.alloc (.cells #[.int .i64 (V : Int), .int .i64 (S : Int), .int .i64 (C : Int), .int .i64 (N : Int), .int .i64 (T : Int), .int .i64 (D : Int), .int .i64 (R : Int), .int .i64 (K : Int), .int .i64 (G : Int), .int .u64 z] 24)).alloc (.cells #[.int .u64 (U : Int), .int .i64 (Q : Int), .int .i64 (P : Int)] 26)) 44 #[.int .u64 0, .int .u64 0, .int .u64 0]
  rw [World.size_alloc, World.size_alloc] at q8
  have hT0 : Both (((w.alloc (.cells #[.int .i64 (V : Int), .int .i64 (S : Int), .int .i64 (C : Int), .int .i64 (N : Int), .int .i64 (T : Int), .int .i64 (D : Int), .int .i64 (R : Int), .int .i64 (K : Int), .int .i64 (G : Int), .int .u64 z] 24)).alloc (.cells #[.int .u64 (U : Int), .int .i64 (Q : Int), .int .i64 (P : Int)] 26)).alloc (.cells #[.int .u64 0, .int .u64 0, .int .u64 0] 44)) := ⟨hT.1.below b0 hT.1.lt, hT.2.below b0 hT.2.lt⟩
  replace hg := hg.below b0 hg.lt
  go_enter Tryd.func34, Tryd.ntmps34
  go_upto_region 1 with (fail)
  generalize (((w.alloc (.cells #[.int .i64 (V : Int), .int .i64 (S : Int), .int .i64 (C : Int), .int .i64 (N : Int), .int .i64 (T : Int), .int .i64 (D : Int), .int .i64 (R : Int), .int .i64 (K : Int), .int .i64 (G : Int), .int .u64 z] 24)).alloc (.cells #[.int .u64 (U : Int), .int .i64 (Q : Int), .int .i64 (P : Int)] 26)).alloc (.cells #[.int .u64 0, .int .u64 0, .int .u64 0] 44)) = w0 at *
  clear hT
  have y := qc.cell
  have y0 := y 0
  have y1 := y 1
  have y2 := y 2
  have y3 := y 3
  have y4 := y 4
  have y5 := y 5
  have y6 := y 6
  have y7 := y 7
  have y8 := y 8
  have y9 := y 9
  simp only [List.getElem?_cons_zero, List.getElem?_cons_succ] at y0 y1 y2 y3 y4 y5 y6 y7 y8 y9
  clear y
  go_wp2_with fail
  with_reducible refine (Fits_eq h.fits z _ hT0.spans).mono ?_
  rintro o w1 ⟨rfl, b1⟩
  clear y0 y1 y2 y3 y4 y5 y6 y7 y8 y9
  replace qc := qc.on b1
  replace qp := qp.on b1
  replace q8 := q8.on b1
  replace hg := hg.on b1
  have hT1 := hT0.on b1
  have B1 := b0.trans (b1.mono b0.size)
  clear b0 b1 hT0
  have x := qp.cell
  have x0 := x 0
  have x1 := x 1
  have x2 := x 2
  simp only [List.getElem?_cons_zero, List.getElem?_cons_succ] at x0 x1 x2
  clear x
  go_wp2_with fail
  with_reducible refine (cFP _).mono ?_
  rintro o w2 ⟨rfl, b2⟩
  clear x0 x1 x2 cFP
  replace qc := qc.on b2
  replace qp := qp.on b2
  replace q8 := q8.on b2
  replace hg := hg.on b2
  have hT2 := hT1.on b2
  have B2 := B1.trans (b2.mono B1.size)
  clear b2 B1 hT1
  go_upto_region 4 with (fail)
  have y0 := qc.laterT 0 _ rfl
  have y1 := qc.laterT 1 _ rfl
  have y2 := qc.laterT 2 _ rfl
  have y3 := qc.laterT 3 _ rfl
  have y4 := qc.laterT 4 _ rfl
  have y5 := qc.laterT 5 _ rfl
  have y6 := qc.laterT 6 _ rfl
  have y7 := qc.laterT 7 _ rfl
  have y8 := qc.laterT 8 _ rfl
  have y9 := qc.laterT 9 _ rfl
  have x0 := qp.laterT 0 _ rfl
  have x1 := qp.laterT 1 _ rfl
  have x2 := qp.laterT 2 _ rfl
  have HS : ∀ p : LaterT w2, Calls Tryd.prog 45 #[.agg #[.int .u64 (U : Int), .int .i64 (Q : Int), .int .i64 (P : Int)]] p.W fun e w_ => e = .returned (.int .i64 (sh : Int)) ∧ ∃ p : LaterT w2, w_ = p.W := fun p => laterT_of (cS _)
  refine wp_region_later_tail0 11 3 (by kernel_rfl) (by kernel_rfl) ?_
  simp only [List.take_succ_cons, List.take_zero]
  (try simp only [Act.put]); (try simp only [List.setIfInBounds_toArray]); (try simp only [List.set_cons_succ, List.set_cons_zero])
  repeat (go_big_quiet_step (first | (go_at_call 45; exact HS _)))
  refine wpQuiet_nil ?_
  intro w' hw'
  obtain ⟨pq, rfl⟩ := hw'
  have bq := pq.h
  replace qc := qc.on bq
  replace qp := qp.on bq
  replace q8 := q8.on bq
  replace hg := hg.on bq
  have hT3 := hT2.on bq
  have B3 := B2.trans (bq.mono B2.size)
  generalize pq.W = w3 at *
  clear HS cS bq pq B2 hT2 y0 y1 y2 y3 y4 y5 y6 y7 y8 y9 x0 x1 x2
  simp only [List.drop_succ_cons, List.drop_zero, List.take_succ_cons, List.take_zero]
  go_wp2_with (go_at_call 35; refine (cT _ hT3.tab hg).mono ?_; rintro o w4 ⟨rfl, b4⟩; have B4 := B3.trans (b4.mono B3.size); have q4 := q8.on b4; have f0 := q4.frozen 0; have f1 := q4.frozen 1; have f2 := q4.frozen 2; have c0 := q4.cell 0; have c1 := q4.cell 1; have c2 := q4.cell 2; simp only [List.getElem?_cons_zero, List.getElem?_cons_succ] at c0 c1 c2)
  have R3 := ((q4.set 0 (.int .u64 (B1 : Int))).set 1 (.int .u64 (wd : Int))).set 2 (.int .u64 (pl : Nat))
  have d0 := R3.cell 0
  have d1 := R3.cell 1
  have d2 := R3.cell 2
  simp only [List.set_cons_zero, List.set_cons_succ, List.getElem?_cons_zero, List.getElem?_cons_succ] at d0 d1 d2
  refine bodyPost_ret (v := .tuple #[.agg #[.int .u64 (B1 : Int), .int .u64 (wd : Int), .int .u64 (pl : Nat)], .int .i64 0]) (by simp [results, Tryd.results34, go_sem, d0, d1, d2]) rfl ?_
  exact ⟨rfl, ((B4.setCell (p := ⟨w.heap.size + 1 + 1, 0, none⟩) (by simp; omega) _).setCell (p := ⟨w.heap.size + 1 + 1, 1, none⟩) (by simp; omega) _).setCell (p := ⟨w.heap.size + 1 + 1, 2, none⟩) (by simp; omega) _⟩
set_option maxHeartbeats 2000000 in
set_option maxRecDepth 100000 in
theorem askB_no (v s c n t d r k g z u q p e : Int) (tell : Value) (w : World) (hT : Both w) (hno : (fitsC v s c n t d r k g && fitsP q p && isTickB e) = false) :
    Calls Tryd.prog 26 #[.agg #[.int .i64 v, .int .i64 s, .int .i64 c, .int .i64 n, .int .i64 t, .int .i64 d, .int .i64 r, .int .i64 k, .int .i64 g, .int .u64 z], .agg #[.int .u64 u, .int .i64 q, .int .i64 p], .int .i64 e, tell] w fun o w' => o = .returned (.tuple #[.agg #[.int .i64 0, .slice none 0 0], .int .i64 1]) ∧ Below w.heap.size w w' := by
  have cF := fun W hW => Fits_any v s c n t d r k g z W hW
  have cP := fun W => scFits_any u q p W
  generalize fitsC v s c n t d r k g = f1 at *
  generalize fitsP q p = f2 at *
  have b0 := Below.refl w.heap.size w
  replace b0 := b0.alloc b0.size (.cells #[.int .i64 v, .int .i64 s, .int .i64 c, .int .i64 n, .int .i64 t, .int .i64 d, .int .i64 r, .int .i64 k, .int .i64 g, .int .u64 z] 24)
  replace b0 := b0.alloc b0.size (.cells #[.int .u64 u, .int .i64 q, .int .i64 p] 26)
  replace b0 := b0.alloc b0.size (.cells #[.int .i64 0, .slice none 0 0] 37)
  have qc := (RowAt.new w 24 #[.int .i64 v, .int .i64 s, .int .i64 c, .int .i64 n, .int .i64 t, .int .i64 d, .int .i64 r, .int .i64 k, .int .i64 g, .int .u64 z]).alloc (.cells #[.int .u64 u, .int .i64 q, .int .i64 p] 26)
  replace qc := qc.alloc (.cells #[.int .i64 0, .slice none 0 0] 37)
  have qp := RowAt.new (w.alloc (.cells #[.int .i64 v, .int .i64 s, .int .i64 c, .int .i64 n, .int .i64 t, .int .i64 d, .int .i64 r, .int .i64 k, .int .i64 g, .int .u64 z] 24)) 26 #[.int .u64 u, .int .i64 q, .int .i64 p]
  replace qp := qp.alloc (.cells #[.int .i64 0, .slice none 0 0] 37)
  rw [World.size_alloc] at qp
  have q8 := RowAt.new ((w.alloc (.cells #[.int .i64 v, .int .i64 s, .int .i64 c, .int .i64 n, .int .i64 t, .int .i64 d, .int .i64 r, .int .i64 k, .int .i64 g, .int .u64 z] 24)).alloc (.cells #[.int .u64 u, .int .i64 q, .int .i64 p] 26)) 37 #[.int .i64 0, .slice none 0 0]
  rw [World.size_alloc, World.size_alloc] at q8
  have hT0 : Both (((w.alloc (.cells #[.int .i64 v, .int .i64 s, .int .i64 c, .int .i64 n, .int .i64 t, .int .i64 d, .int .i64 r, .int .i64 k, .int .i64 g, .int .u64 z] 24)).alloc (.cells #[.int .u64 u, .int .i64 q, .int .i64 p] 26)).alloc (.cells #[.int .i64 0, .slice none 0 0] 37)) := ⟨hT.1.below b0 hT.1.lt, hT.2.below b0 hT.2.lt⟩
  go_enter Tryd.func26, Tryd.ntmps26
  go_upto_region 1 with (fail)
  generalize (((w.alloc (.cells #[.int .i64 v, .int .i64 s, .int .i64 c, .int .i64 n, .int .i64 t, .int .i64 d, .int .i64 r, .int .i64 k, .int .i64 g, .int .u64 z] 24)).alloc (.cells #[.int .u64 u, .int .i64 q, .int .i64 p] 26)).alloc (.cells #[.int .i64 0, .slice none 0 0] 37)) = w0 at *
  clear hT
  have y := qc.cell
  have y0 := y 0
  have y1 := y 1
  have y2 := y 2
  have y3 := y 3
  have y4 := y 4
  have y5 := y 5
  have y6 := y 6
  have y7 := y 7
  have y8 := y 8
  have y9 := y 9
  simp only [List.getElem?_cons_zero, List.getElem?_cons_succ] at y0 y1 y2 y3 y4 y5 y6 y7 y8 y9
  clear y
  go_wp2_with fail
  with_reducible refine (cF _ hT0.spans).mono ?_
  rintro o w1 ⟨rfl, b1⟩
  clear y0 y1 y2 y3 y4 y5 y6 y7 y8 y9
  replace qp := qp.on b1
  replace q8 := q8.on b1
  have hl8 := q8.lt
  have B1 := b0.trans (b1.mono b0.size)
  clear b0 b1 hT0 cF
  cases f1
  · clear hno
    have f0_ := q8.frozen 0
    have f1_ := q8.frozen 1
    have c0_ := q8.cell 0
    have c1_ := q8.cell 1
    simp only [List.getElem?_cons_zero, List.getElem?_cons_succ] at c0_ c1_
    go_wp2_with fail
    have R3 := (((q8.set 0 (.int .i64 0)).set 1 (.slice none 0 0))).alloc (.cells #[.int .i64 0, .slice none 0 0] 37)
    have d0 := R3.cell 0
    have d1 := R3.cell 1
    simp only [List.set_cons_zero, List.set_cons_succ, List.getElem?_cons_zero, List.getElem?_cons_succ] at d0 d1
    refine bodyPost_ret (v := .tuple #[.agg #[.int .i64 0, .slice none 0 0], .int .i64 1]) (by simp [results, Tryd.results26, go_sem, d0, d1]) rfl ?_
    have B3 := ((B1.setCell (p := ⟨w.heap.size + 1 + 1, 0, none⟩) (by simp; omega) (.int .i64 0)).setCell (p := ⟨w.heap.size + 1 + 1, 1, none⟩) (by simp; omega) (.slice none 0 0))
    exact ⟨rfl, B3.alloc B3.size _⟩
  · have hno2 : (f2 && isTickB e) = false := by simpa using hno
    clear hno
    have x := qp.cell
    have x0 := x 0
    have x1 := x 1
    have x2 := x 2
    simp only [List.getElem?_cons_zero, List.getElem?_cons_succ] at x0 x1 x2
    clear x
    go_wp2_with fail
    with_reducible refine (cP _).mono ?_
    rintro o w2 ⟨rfl, b2⟩
    clear x0 x1 x2 cP
    replace q8 := q8.on b2
    replace hl8 := q8.lt
    have B2 := B1.trans (b2.mono B1.size)
    clear b2 B1
    cases f2
    · clear hno2
      have f0_ := q8.frozen 0
      have f1_ := q8.frozen 1
      have c0_ := q8.cell 0
      have c1_ := q8.cell 1
      simp only [List.getElem?_cons_zero, List.getElem?_cons_succ] at c0_ c1_
      go_wp2_with fail
      have R3 := (((q8.set 0 (.int .i64 0)).set 1 (.slice none 0 0))).alloc (.cells #[.int .i64 0, .slice none 0 0] 37)
      have d0 := R3.cell 0
      have d1 := R3.cell 1
      simp only [List.set_cons_zero, List.set_cons_succ, List.getElem?_cons_zero, List.getElem?_cons_succ] at d0 d1
      refine bodyPost_ret (v := .tuple #[.agg #[.int .i64 0, .slice none 0 0], .int .i64 1]) (by simp [results, Tryd.results26, go_sem, d0, d1]) rfl ?_
      have B3 := ((B2.setCell (p := ⟨w.heap.size + 1 + 1, 0, none⟩) (by simp; omega) (.int .i64 0)).setCell (p := ⟨w.heap.size + 1 + 1, 1, none⟩) (by simp; omega) (.slice none 0 0))
      exact ⟨rfl, B3.alloc B3.size _⟩
    · have hno3 : isTickB e = false := by simpa using hno2
      clear hno2
      unfold isTickB at hno3
      have f0_ := q8.frozen 0
      have f1_ := q8.frozen 1
      have c0_ := q8.cell 0
      have c1_ := q8.cell 1
      simp only [List.getElem?_cons_zero, List.getElem?_cons_succ] at c0_ c1_
      by_cases he : e < 0
      · have g1 : (e < 0) = True := eq_true he
        clear hno3
        go_wp2_with fail
        have R3 := (((q8.set 0 (.int .i64 0)).set 1 (.slice none 0 0))).alloc (.cells #[.int .i64 0, .slice none 0 0] 37)
        have d0 := R3.cell 0
        have d1 := R3.cell 1
        simp only [List.set_cons_zero, List.set_cons_succ, List.getElem?_cons_zero, List.getElem?_cons_succ] at d0 d1
        refine bodyPost_ret (v := .tuple #[.agg #[.int .i64 0, .slice none 0 0], .int .i64 1]) (by simp [results, Tryd.results26, go_sem, d0, d1]) rfl ?_
        have B3 := ((B2.setCell (p := ⟨w.heap.size + 1 + 1, 0, none⟩) (by simp; omega) (.int .i64 0)).setCell (p := ⟨w.heap.size + 1 + 1, 1, none⟩) (by simp; omega) (.slice none 0 0))
        exact ⟨rfl, B3.alloc B3.size _⟩
      · have g1 : (e < 0) = False := eq_false he
        have g2 : (1099511627776 < e) = True := eq_true (by simp at hno3; omega)
        clear hno3
        go_wp2_with fail
        have R3 := (((q8.set 0 (.int .i64 0)).set 1 (.slice none 0 0))).alloc (.cells #[.int .i64 0, .slice none 0 0] 37)
        have d0 := R3.cell 0
        have d1 := R3.cell 1
        simp only [List.set_cons_zero, List.set_cons_succ, List.getElem?_cons_zero, List.getElem?_cons_succ] at d0 d1
        refine bodyPost_ret (v := .tuple #[.agg #[.int .i64 0, .slice none 0 0], .int .i64 1]) (by simp [results, Tryd.results26, go_sem, d0, d1]) rfl ?_
        have B3 := ((B2.setCell (p := ⟨w.heap.size + 1 + 1, 0, none⟩) (by simp; omega) (.int .i64 0)).setCell (p := ⟨w.heap.size + 1 + 1, 1, none⟩) (by simp; omega) (.slice none 0 0))
        exact ⟨rfl, B3.alloc B3.size _⟩
set_option maxHeartbeats 2000000 in
set_option maxRecDepth 100000 in
theorem askI_no (v s c n t d r k g z u q p e : Int) (tell : Value) (w : World) (hT : Both w) (hno : (fitsC v s c n t d r k g && fitsP q p && isTickB e) = false) :
    Calls Tryd.prog 32 #[.agg #[.int .i64 v, .int .i64 s, .int .i64 c, .int .i64 n, .int .i64 t, .int .i64 d, .int .i64 r, .int .i64 k, .int .i64 g, .int .u64 z], .agg #[.int .u64 u, .int .i64 q, .int .i64 p], .int .i64 e, tell] w fun o w' => o = .returned (.tuple #[.int .i64 0, .int .i64 1]) ∧ Below w.heap.size w w' := by
  have cF := fun W hW => Fits_any v s c n t d r k g z W hW
  have cP := fun W => scFits_any u q p W
  generalize fitsC v s c n t d r k g = f1 at *
  generalize fitsP q p = f2 at *
  have b0 := Below.refl w.heap.size w
  replace b0 := b0.alloc b0.size (.cells #[.int .i64 v, .int .i64 s, .int .i64 c, .int .i64 n, .int .i64 t, .int .i64 d, .int .i64 r, .int .i64 k, .int .i64 g, .int .u64 z] 24)
  replace b0 := b0.alloc b0.size (.cells #[.int .u64 u, .int .i64 q, .int .i64 p] 26)
  have qc := (RowAt.new w 24 #[.int .i64 v, .int .i64 s, .int .i64 c, .int .i64 n, .int .i64 t, .int .i64 d, .int .i64 r, .int .i64 k, .int .i64 g, .int .u64 z]).alloc (.cells #[.int .u64 u, .int .i64 q, .int .i64 p] 26)
  have qp := RowAt.new (w.alloc (.cells #[.int .i64 v, .int .i64 s, .int .i64 c, .int .i64 n, .int .i64 t, .int .i64 d, .int .i64 r, .int .i64 k, .int .i64 g, .int .u64 z] 24)) 26 #[.int .u64 u, .int .i64 q, .int .i64 p]
  rw [World.size_alloc] at qp
  have hT0 : Both ((w.alloc (.cells #[.int .i64 v, .int .i64 s, .int .i64 c, .int .i64 n, .int .i64 t, .int .i64 d, .int .i64 r, .int .i64 k, .int .i64 g, .int .u64 z] 24)).alloc (.cells #[.int .u64 u, .int .i64 q, .int .i64 p] 26)) := ⟨hT.1.below b0 hT.1.lt, hT.2.below b0 hT.2.lt⟩
  go_enter Tryd.func32, Tryd.ntmps32
  go_upto_region 1 with (fail)
  generalize ((w.alloc (.cells #[.int .i64 v, .int .i64 s, .int .i64 c, .int .i64 n, .int .i64 t, .int .i64 d, .int .i64 r, .int .i64 k, .int .i64 g, .int .u64 z] 24)).alloc (.cells #[.int .u64 u, .int .i64 q, .int .i64 p] 26)) = w0 at *
  clear hT
  have y := qc.cell
  have y0 := y 0
  have y1 := y 1
  have y2 := y 2
  have y3 := y 3
  have y4 := y 4
  have y5 := y 5
  have y6 := y 6
  have y7 := y 7
  have y8 := y 8
  have y9 := y 9
  simp only [List.getElem?_cons_zero, List.getElem?_cons_succ] at y0 y1 y2 y3 y4 y5 y6 y7 y8 y9
  clear y
  go_wp2_with fail
  with_reducible refine (cF _ hT0.spans).mono ?_
  rintro o w1 ⟨rfl, b1⟩
  clear y0 y1 y2 y3 y4 y5 y6 y7 y8 y9
  replace qp := qp.on b1
  have B1 := b0.trans (b1.mono b0.size)
  clear b0 b1 hT0 cF
  cases f1
  · clear hno
    go_wp2_with fail
    go_ret2
    exact ⟨rfl, B1⟩
  · have hno2 : (f2 && isTickB e) = false := by simpa using hno
    clear hno
    have x := qp.cell
    have x0 := x 0
    have x1 := x 1
    have x2 := x 2
    simp only [List.getElem?_cons_zero, List.getElem?_cons_succ] at x0 x1 x2
    clear x
    go_wp2_with fail
    with_reducible refine (cP _).mono ?_
    rintro o w2 ⟨rfl, b2⟩
    clear x0 x1 x2 cP
    have B2 := B1.trans (b2.mono B1.size)
    clear b2 B1
    cases f2
    · clear hno2
      go_wp2_with fail
      go_ret2
      exact ⟨rfl, B2⟩
    · have hno3 : isTickB e = false := by simpa using hno2
      clear hno2
      unfold isTickB at hno3
      by_cases he : e < 0
      · have g1 : (e < 0) = True := eq_true he
        clear hno3
        go_wp2_with fail
        go_ret2
        exact ⟨rfl, B2⟩
      · have g1 : (e < 0) = False := eq_false he
        have g2 : (1099511627776 < e) = True := eq_true (by simp at hno3; omega)
        clear hno3
        go_wp2_with fail
        go_ret2
        exact ⟨rfl, B2⟩
set_option maxHeartbeats 2000000 in
set_option maxRecDepth 100000 in
theorem askR_no (v s c n t d r k g z u q p e : Int) (tell : Value) (w : World) (hT : Both w) (hno : (fitsC v s c n t d r k g && fitsP q p && isTickB e) = false) :
    Calls Tryd.prog 34 #[.agg #[.int .i64 v, .int .i64 s, .int .i64 c, .int .i64 n, .int .i64 t, .int .i64 d, .int .i64 r, .int .i64 k, .int .i64 g, .int .u64 z], .agg #[.int .u64 u, .int .i64 q, .int .i64 p], .int .i64 e, tell] w fun o w' => o = .returned (.tuple #[.agg #[.int .u64 0, .int .u64 0, .int .u64 0], .int .i64 1]) ∧ Below w.heap.size w w' := by
  have cF := fun W hW => Fits_any v s c n t d r k g z W hW
  have cP := fun W => scFits_any u q p W
  generalize fitsC v s c n t d r k g = f1 at *
  generalize fitsP q p = f2 at *
  have b0 := Below.refl w.heap.size w
  replace b0 := b0.alloc b0.size (.cells #[.int .i64 v, .int .i64 s, .int .i64 c, .int .i64 n, .int .i64 t, .int .i64 d, .int .i64 r, .int .i64 k, .int .i64 g, .int .u64 z] 24)
  replace b0 := b0.alloc b0.size (.cells #[.int .u64 u, .int .i64 q, .int .i64 p] 26)
  replace b0 := b0.alloc b0.size (.cells #[.int .u64 0, .int .u64 0, .int .u64 0] 44)
  have qc := (RowAt.new w 24 #[.int .i64 v, .int .i64 s, .int .i64 c, .int .i64 n, .int .i64 t, .int .i64 d, .int .i64 r, .int .i64 k, .int .i64 g, .int .u64 z]).alloc (.cells #[.int .u64 u, .int .i64 q, .int .i64 p] 26)
  replace qc := qc.alloc (.cells #[.int .u64 0, .int .u64 0, .int .u64 0] 44)
  have qp := RowAt.new (w.alloc (.cells #[.int .i64 v, .int .i64 s, .int .i64 c, .int .i64 n, .int .i64 t, .int .i64 d, .int .i64 r, .int .i64 k, .int .i64 g, .int .u64 z] 24)) 26 #[.int .u64 u, .int .i64 q, .int .i64 p]
  replace qp := qp.alloc (.cells #[.int .u64 0, .int .u64 0, .int .u64 0] 44)
  rw [World.size_alloc] at qp
  have q8 := RowAt.new ((w.alloc (.cells #[.int .i64 v, .int .i64 s, .int .i64 c, .int .i64 n, .int .i64 t, .int .i64 d, .int .i64 r, .int .i64 k, .int .i64 g, .int .u64 z] 24)).alloc (.cells #[.int .u64 u, .int .i64 q, .int .i64 p] 26)) 44 #[.int .u64 0, .int .u64 0, .int .u64 0]
  rw [World.size_alloc, World.size_alloc] at q8
  have hT0 : Both (((w.alloc (.cells #[.int .i64 v, .int .i64 s, .int .i64 c, .int .i64 n, .int .i64 t, .int .i64 d, .int .i64 r, .int .i64 k, .int .i64 g, .int .u64 z] 24)).alloc (.cells #[.int .u64 u, .int .i64 q, .int .i64 p] 26)).alloc (.cells #[.int .u64 0, .int .u64 0, .int .u64 0] 44)) := ⟨hT.1.below b0 hT.1.lt, hT.2.below b0 hT.2.lt⟩
  go_enter Tryd.func34, Tryd.ntmps34
  go_upto_region 1 with (fail)
  generalize (((w.alloc (.cells #[.int .i64 v, .int .i64 s, .int .i64 c, .int .i64 n, .int .i64 t, .int .i64 d, .int .i64 r, .int .i64 k, .int .i64 g, .int .u64 z] 24)).alloc (.cells #[.int .u64 u, .int .i64 q, .int .i64 p] 26)).alloc (.cells #[.int .u64 0, .int .u64 0, .int .u64 0] 44)) = w0 at *
  clear hT
  have y := qc.cell
  have y0 := y 0
  have y1 := y 1
  have y2 := y 2
  have y3 := y 3
  have y4 := y 4
  have y5 := y 5
  have y6 := y 6
  have y7 := y 7
  have y8 := y 8
  have y9 := y 9
  simp only [List.getElem?_cons_zero, List.getElem?_cons_succ] at y0 y1 y2 y3 y4 y5 y6 y7 y8 y9
  clear y
  go_wp2_with fail
  with_reducible refine (cF _ hT0.spans).mono ?_
  rintro o w1 ⟨rfl, b1⟩
  clear y0 y1 y2 y3 y4 y5 y6 y7 y8 y9
  replace qp := qp.on b1
  replace q8 := q8.on b1
  have hl8 := q8.lt
  have B1 := b0.trans (b1.mono b0.size)
  clear b0 b1 hT0 cF
  cases f1
  · clear hno
    have f0_ := q8.frozen 0
    have f1_ := q8.frozen 1
    have f2_ := q8.frozen 2
    have c0_ := q8.cell 0
    have c1_ := q8.cell 1
    have c2_ := q8.cell 2
    simp only [List.getElem?_cons_zero, List.getElem?_cons_succ] at c0_ c1_ c2_
    go_wp2_with fail
    have R3 := ((((q8.set 0 (.int .u64 0)).set 1 (.int .u64 0)).set 2 (.int .u64 0))).alloc (.cells #[.int .u64 0, .int .u64 0, .int .u64 0] 44)
    have d0 := R3.cell 0
    have d1 := R3.cell 1
    have d2 := R3.cell 2
    simp only [List.set_cons_zero, List.set_cons_succ, List.getElem?_cons_zero, List.getElem?_cons_succ] at d0 d1 d2
    refine bodyPost_ret (v := .tuple #[.agg #[.int .u64 0, .int .u64 0, .int .u64 0], .int .i64 1]) (by simp [results, Tryd.results34, go_sem, d0, d1, d2]) rfl ?_
    have B3 := (((B1.setCell (p := ⟨w.heap.size + 1 + 1, 0, none⟩) (by simp; omega) (.int .u64 0)).setCell (p := ⟨w.heap.size + 1 + 1, 1, none⟩) (by simp; omega) (.int .u64 0)).setCell (p := ⟨w.heap.size + 1 + 1, 2, none⟩) (by simp; omega) (.int .u64 0))
    exact ⟨rfl, B3.alloc B3.size _⟩
  · have hno2 : (f2 && isTickB e) = false := by simpa using hno
    clear hno
    have x := qp.cell
    have x0 := x 0
    have x1 := x 1
    have x2 := x 2
    simp only [List.getElem?_cons_zero, List.getElem?_cons_succ] at x0 x1 x2
    clear x
    go_wp2_with fail
    with_reducible refine (cP _).mono ?_
    rintro o w2 ⟨rfl, b2⟩
    clear x0 x1 x2 cP
    replace q8 := q8.on b2
    replace hl8 := q8.lt
    have B2 := B1.trans (b2.mono B1.size)
    clear b2 B1
    cases f2
    · clear hno2
      have f0_ := q8.frozen 0
      have f1_ := q8.frozen 1
      have f2_ := q8.frozen 2
      have c0_ := q8.cell 0
      have c1_ := q8.cell 1
      have c2_ := q8.cell 2
      simp only [List.getElem?_cons_zero, List.getElem?_cons_succ] at c0_ c1_ c2_
      go_wp2_with fail
      have R3 := ((((q8.set 0 (.int .u64 0)).set 1 (.int .u64 0)).set 2 (.int .u64 0))).alloc (.cells #[.int .u64 0, .int .u64 0, .int .u64 0] 44)
      have d0 := R3.cell 0
      have d1 := R3.cell 1
      have d2 := R3.cell 2
      simp only [List.set_cons_zero, List.set_cons_succ, List.getElem?_cons_zero, List.getElem?_cons_succ] at d0 d1 d2
      refine bodyPost_ret (v := .tuple #[.agg #[.int .u64 0, .int .u64 0, .int .u64 0], .int .i64 1]) (by simp [results, Tryd.results34, go_sem, d0, d1, d2]) rfl ?_
      have B3 := (((B2.setCell (p := ⟨w.heap.size + 1 + 1, 0, none⟩) (by simp; omega) (.int .u64 0)).setCell (p := ⟨w.heap.size + 1 + 1, 1, none⟩) (by simp; omega) (.int .u64 0)).setCell (p := ⟨w.heap.size + 1 + 1, 2, none⟩) (by simp; omega) (.int .u64 0))
      exact ⟨rfl, B3.alloc B3.size _⟩
    · have hno3 : isTickB e = false := by simpa using hno2
      clear hno2
      unfold isTickB at hno3
      have f0_ := q8.frozen 0
      have f1_ := q8.frozen 1
      have f2_ := q8.frozen 2
      have c0_ := q8.cell 0
      have c1_ := q8.cell 1
      have c2_ := q8.cell 2
      simp only [List.getElem?_cons_zero, List.getElem?_cons_succ] at c0_ c1_ c2_
      by_cases he : e < 0
      · have g1 : (e < 0) = True := eq_true he
        clear hno3
        go_wp2_with fail
        have R3 := ((((q8.set 0 (.int .u64 0)).set 1 (.int .u64 0)).set 2 (.int .u64 0))).alloc (.cells #[.int .u64 0, .int .u64 0, .int .u64 0] 44)
        have d0 := R3.cell 0
        have d1 := R3.cell 1
        have d2 := R3.cell 2
        simp only [List.set_cons_zero, List.set_cons_succ, List.getElem?_cons_zero, List.getElem?_cons_succ] at d0 d1 d2
        refine bodyPost_ret (v := .tuple #[.agg #[.int .u64 0, .int .u64 0, .int .u64 0], .int .i64 1]) (by simp [results, Tryd.results34, go_sem, d0, d1, d2]) rfl ?_
        have B3 := (((B2.setCell (p := ⟨w.heap.size + 1 + 1, 0, none⟩) (by simp; omega) (.int .u64 0)).setCell (p := ⟨w.heap.size + 1 + 1, 1, none⟩) (by simp; omega) (.int .u64 0)).setCell (p := ⟨w.heap.size + 1 + 1, 2, none⟩) (by simp; omega) (.int .u64 0))
        exact ⟨rfl, B3.alloc B3.size _⟩
      · have g1 : (e < 0) = False := eq_false he
        have g2 : (1099511627776 < e) = True := eq_true (by simp at hno3; omega)
        clear hno3
        go_wp2_with fail
        have R3 := ((((q8.set 0 (.int .u64 0)).set 1 (.int .u64 0)).set 2 (.int .u64 0))).alloc (.cells #[.int .u64 0, .int .u64 0, .int .u64 0] 44)
        have d0 := R3.cell 0
        have d1 := R3.cell 1
        have d2 := R3.cell 2
        simp only [List.set_cons_zero, List.set_cons_succ, List.getElem?_cons_zero, List.getElem?_cons_succ] at d0 d1 d2
        refine bodyPost_ret (v := .tuple #[.agg #[.int .u64 0, .int .u64 0, .int .u64 0], .int .i64 1]) (by simp [results, Tryd.results34, go_sem, d0, d1, d2]) rfl ?_
        have B3 := (((B2.setCell (p := ⟨w.heap.size + 1 + 1, 0, none⟩) (by simp; omega) (.int .u64 0)).setCell (p := ⟨w.heap.size + 1 + 1, 1, none⟩) (by simp; omega) (.int .u64 0)).setCell (p := ⟨w.heap.size + 1 + 1, 2, none⟩) (by simp; omega) (.int .u64 0))
        exact ⟨rfl, B3.alloc B3.size _⟩

end Go.Proofs.YthlajfoipafaaaaDoor

namespace Go.Proofs.YthlajfoipafaaaaDoor
open Go.RowKit Go.Lib

set_option maxHeartbeats 2000000 in
set_option maxRecDepth 100000 in
theorem sNets_yes (V S C N T D R K G U Q P E : Nat) (z : Int) (w : World) (h : FitD V S C N T D R K G) (hp : FitP Q P) (hE : E ≤ 1099511627776) (hT : Both w) (L : List Int) (hL : netsI N (firstN N K U (blkN U P E)) Q = L) :
    Calls Tryd.prog 14 #[.agg #[.int .i64 (V : Int), .int .i64 (S : Int), .int .i64 (C : Int), .int .i64 (N : Int), .int .i64 (T : Int), .int .i64 (D : Int), .int .i64 (R : Int), .int .i64 (K : Int), .int .i64 (G : Int), .int .u64 z], .agg #[.int .u64 (U : Int), .int .i64 (Q : Int), .int .i64 (P : Int)], .int .i64 (E : Int)] w fun o w' => ∃ A c, o = .returned (.tuple #[.agg #[.int .i64 (N : Int), .slice A L.length c], .int .i64 0]) ∧ Bt w' (.agg #[.int .i64 (N : Int), .slice A L.length c]) N L ∧ FromOn w.heap.size (.slice A L.length c) ∧ Below w.heap.size w w' := by
  have b0 := Below.refl w.heap.size w
  replace b0 := b0.alloc b0.size (.cells #[.int .i64 (V : Int), .int .i64 (S : Int), .int .i64 (C : Int), .int .i64 (N : Int), .int .i64 (T : Int), .int .i64 (D : Int), .int .i64 (R : Int), .int .i64 (K : Int), .int .i64 (G : Int), .int .u64 z] 24)
  replace b0 := b0.alloc b0.size (.cells #[.int .u64 (U : Int), .int .i64 (Q : Int), .int .i64 (P : Int)] 26)
  replace b0 := b0.alloc b0.size (.cells #[.int .i64 0, .slice none 0 0] 37)
  have qc := RowAt.new w 24 #[.int .i64 (V : Int), .int .i64 (S : Int), .int .i64 (C : Int), .int .i64 (N : Int), .int .i64 (T : Int), .int .i64 (D : Int), .int .i64 (R : Int), .int .i64 (K : Int), .int .i64 (G : Int), .int .u64 z]
  replace qc := qc.alloc (.cells #[.int .u64 (U : Int), .int .i64 (Q : Int), .int .i64 (P : Int)] 26)
  replace qc := qc.alloc (.cells #[.int .i64 0, .slice none 0 0] 37)
  have qp := RowAt.new (w.alloc (.cells #[.int .i64 (V : Int), .int .i64 (S : Int), .int .i64 (C : Int), .int .i64 (N : Int), .int .i64 (T : Int), .int .i64 (D : Int), .int .i64 (R : Int), .int .i64 (K : Int), .int .i64 (G : Int), .int .u64 z] 24)) 26 #[.int .u64 (U : Int), .int .i64 (Q : Int), .int .i64 (P : Int)]
  replace qp := qp.alloc (.cells #[.int .i64 0, .slice none 0 0] 37)
  rw [World.size_alloc] at qp
  have q8 := RowAt.new ((w.alloc (.cells #[.int .i64 (V : Int), .int .i64 (S : Int), .int .i64 (C : Int), .int .i64 (N : Int), .int .i64 (T : Int), .int .i64 (D : Int), .int .i64 (R : Int), .int .i64 (K : Int), .int .i64 (G : Int), .int .u64 z] 24)).alloc (.cells #[.int .u64 (U : Int), .int .i64 (Q : Int), .int .i64 (P : Int)] 26)) 37 #[.int .i64 0, .slice none 0 0]
  rw [World.size_alloc, World.size_alloc] at q8
  have hT0 : Both (((w.alloc (.cells #[.int .i64 (V : Int), .int .i64 (S : Int), .int .i64 (C : Int), .int .i64 (N : Int), .int .i64 (T : Int), .int .i64 (D : Int), .int .i64 (R : Int), .int .i64 (K : Int), .int .i64 (G : Int), .int .u64 z] 24)).alloc (.cells #[.int .u64 (U : Int), .int .i64 (Q : Int), .int .i64 (P : Int)] 26)).alloc (.cells #[.int .i64 0, .slice none 0 0] 37)) := ⟨hT.1.below b0 hT.1.lt, hT.2.below b0 hT.2.lt⟩
  have cA := askB_yes V S C N T D R K G U Q P E z (((w.alloc (.cells #[.int .i64 (V : Int), .int .i64 (S : Int), .int .i64 (C : Int), .int .i64 (N : Int), .int .i64 (T : Int), .int .i64 (D : Int), .int .i64 (R : Int), .int .i64 (K : Int), .int .i64 (G : Int), .int .u64 z] 24)).alloc (.cells #[.int .u64 (U : Int), .int .i64 (Q : Int), .int .i64 (P : Int)] 26)).alloc (.cells #[.int .i64 0, .slice none 0 0] 37)) h hp hE hT0 L hL
  clear hL
  go_enter Tryd.func14, Tryd.ntmps14
  go_upto_region 1 with (fail)
  generalize (((w.alloc (.cells #[.int .i64 (V : Int), .int .i64 (S : Int), .int .i64 (C : Int), .int .i64 (N : Int), .int .i64 (T : Int), .int .i64 (D : Int), .int .i64 (R : Int), .int .i64 (K : Int), .int .i64 (G : Int), .int .u64 z] 24)).alloc (.cells #[.int .u64 (U : Int), .int .i64 (Q : Int), .int .i64 (P : Int)] 26)).alloc (.cells #[.int .i64 0, .slice none 0 0] 37)) = w0 at *
  clear hT
  have y := qc.cell
  have y0 := y 0
  have y1 := y 1
  have y2 := y 2
  have y3 := y 3
  have y4 := y 4
  have y5 := y 5
  have y6 := y 6
  have y7 := y 7
  have y8 := y 8
  have y9 := y 9
  simp only [List.getElem?_cons_zero, List.getElem?_cons_succ] at y0 y1 y2 y3 y4 y5 y6 y7 y8 y9
  clear y
  have x := qp.cell
  have x0 := x 0
  have x1 := x 1
  have x2 := x 2
  simp only [List.getElem?_cons_zero, List.getElem?_cons_succ] at x0 x1 x2
  clear x
  have hl8 := q8.lt
  go_wp2_with fail
  with_reducible refine cA.mono ?_
  rintro o w2 ⟨A, c, rfl, hBt, hFr, b2⟩
  have B2 := b0.trans (b2.mono b0.size)
  replace q8 := q8.on b2
  have f0 := q8.frozen 0
  have f1 := q8.frozen 1
  have c0_ := q8.cell 0
  have c1_ := q8.cell 1
  simp only [List.getElem?_cons_zero, List.getElem?_cons_succ] at c0_ c1_
  go_wp2_with fail
  have R3 := (q8.set 0 (.int .i64 (N : Int))).set 1 (.slice A L.length c)
  have d0 := R3.cell 0
  have d1 := R3.cell 1
  simp only [List.set_cons_zero, List.set_cons_succ, List.getElem?_cons_zero, List.getElem?_cons_succ] at d0 d1
  refine bodyPost_ret (v := .tuple #[.agg #[.int .i64 (N : Int), .slice A L.length c], .int .i64 0]) (by simp [results, Tryd.results14, go_sem, d0, d1]) rfl ?_
  obtain ⟨v, hv, hI⟩ := hBt
  obtain rfl : v = .slice A L.length c := by cases hv; rfl
  exact ⟨A, c, rfl, ⟨_, rfl, ints_store2s hI hFr (show w.heap.size + 1 + 1 < w0.heap.size by omega) _ _⟩, hFr.less (by have := b0.size; omega), ((B2.setCell (p := ⟨w.heap.size + 1 + 1, 0, none⟩) (by simp; omega) (.int .i64 (N : Int))).setCell (p := ⟨w.heap.size + 1 + 1, 1, none⟩) (by simp; omega) (.slice A L.length c))⟩
set_option maxHeartbeats 2000000 in
set_option maxRecDepth 100000 in
theorem sNets_no (v s c n t d r k g z u q p e : Int) (w : World) (hT : Both w) (hno : (fitsC v s c n t d r k g && fitsP q p && isTickB e) = false) :
    Calls Tryd.prog 14 #[.agg #[.int .i64 v, .int .i64 s, .int .i64 c, .int .i64 n, .int .i64 t, .int .i64 d, .int .i64 r, .int .i64 k, .int .i64 g, .int .u64 z], .agg #[.int .u64 u, .int .i64 q, .int .i64 p], .int .i64 e] w fun o w' => o = .returned (.tuple #[.agg #[.int .i64 0, .slice none 0 0], .int .i64 1]) ∧ Below w.heap.size w w' := by
  have b0 := Below.refl w.heap.size w
  replace b0 := b0.alloc b0.size (.cells #[.int .i64 v, .int .i64 s, .int .i64 c, .int .i64 n, .int .i64 t, .int .i64 d, .int .i64 r, .int .i64 k, .int .i64 g, .int .u64 z] 24)
  replace b0 := b0.alloc b0.size (.cells #[.int .u64 u, .int .i64 q, .int .i64 p] 26)
  replace b0 := b0.alloc b0.size (.cells #[.int .i64 0, .slice none 0 0] 37)
  have qc := RowAt.new w 24 #[.int .i64 v, .int .i64 s, .int .i64 c, .int .i64 n, .int .i64 t, .int .i64 d, .int .i64 r, .int .i64 k, .int .i64 g, .int .u64 z]
  replace qc := qc.alloc (.cells #[.int .u64 u, .int .i64 q, .int .i64 p] 26)
  replace qc := qc.alloc (.cells #[.int .i64 0, .slice none 0 0] 37)
  have qp := RowAt.new (w.alloc (.cells #[.int .i64 v, .int .i64 s, .int .i64 c, .int .i64 n, .int .i64 t, .int .i64 d, .int .i64 r, .int .i64 k, .int .i64 g, .int .u64 z] 24)) 26 #[.int .u64 u, .int .i64 q, .int .i64 p]
  replace qp := qp.alloc (.cells #[.int .i64 0, .slice none 0 0] 37)
  rw [World.size_alloc] at qp
  have q8 := RowAt.new ((w.alloc (.cells #[.int .i64 v, .int .i64 s, .int .i64 c, .int .i64 n, .int .i64 t, .int .i64 d, .int .i64 r, .int .i64 k, .int .i64 g, .int .u64 z] 24)).alloc (.cells #[.int .u64 u, .int .i64 q, .int .i64 p] 26)) 37 #[.int .i64 0, .slice none 0 0]
  rw [World.size_alloc, World.size_alloc] at q8
  have hT0 : Both (((w.alloc (.cells #[.int .i64 v, .int .i64 s, .int .i64 c, .int .i64 n, .int .i64 t, .int .i64 d, .int .i64 r, .int .i64 k, .int .i64 g, .int .u64 z] 24)).alloc (.cells #[.int .u64 u, .int .i64 q, .int .i64 p] 26)).alloc (.cells #[.int .i64 0, .slice none 0 0] 37)) := ⟨hT.1.below b0 hT.1.lt, hT.2.below b0 hT.2.lt⟩
  have cA := askB_no v s c n t d r k g z u q p e (.func (.func 27) #[] #[]) (((w.alloc (.cells #[.int .i64 v, .int .i64 s, .int .i64 c, .int .i64 n, .int .i64 t, .int .i64 d, .int .i64 r, .int .i64 k, .int .i64 g, .int .u64 z] 24)).alloc (.cells #[.int .u64 u, .int .i64 q, .int .i64 p] 26)).alloc (.cells #[.int .i64 0, .slice none 0 0] 37)) hT0 hno
  go_enter Tryd.func14, Tryd.ntmps14
  go_upto_region 1 with (fail)
  generalize (((w.alloc (.cells #[.int .i64 v, .int .i64 s, .int .i64 c, .int .i64 n, .int .i64 t, .int .i64 d, .int .i64 r, .int .i64 k, .int .i64 g, .int .u64 z] 24)).alloc (.cells #[.int .u64 u, .int .i64 q, .int .i64 p] 26)).alloc (.cells #[.int .i64 0, .slice none 0 0] 37)) = w0 at *
  clear hT
  have y := qc.cell
  have y0 := y 0
  have y1 := y 1
  have y2 := y 2
  have y3 := y 3
  have y4 := y 4
  have y5 := y 5
  have y6 := y 6
  have y7 := y 7
  have y8 := y 8
  have y9 := y 9
  simp only [List.getElem?_cons_zero, List.getElem?_cons_succ] at y0 y1 y2 y3 y4 y5 y6 y7 y8 y9
  clear y
  have x := qp.cell
  have x0 := x 0
  have x1 := x 1
  have x2 := x 2
  simp only [List.getElem?_cons_zero, List.getElem?_cons_succ] at x0 x1 x2
  clear x
  have hl8 := q8.lt
  go_wp2_with fail
  with_reducible refine cA.mono ?_
  rintro o w2 ⟨rfl, b2⟩
  have B2 := b0.trans (b2.mono b0.size)
  replace q8 := q8.on b2
  have f0 := q8.frozen 0
  have f1 := q8.frozen 1
  have c0_ := q8.cell 0
  have c1_ := q8.cell 1
  simp only [List.getElem?_cons_zero, List.getElem?_cons_succ] at c0_ c1_
  go_wp2_with fail
  have R3 := (q8.set 0 (.int .i64 0)).set 1 (.slice none 0 0)
  have d0 := R3.cell 0
  have d1 := R3.cell 1
  simp only [List.set_cons_zero, List.set_cons_succ, List.getElem?_cons_zero, List.getElem?_cons_succ] at d0 d1
  refine bodyPost_ret (v := .tuple #[.agg #[.int .i64 0, .slice none 0 0], .int .i64 1]) (by simp [results, Tryd.results14, go_sem, d0, d1]) rfl ?_
  exact ⟨rfl, ((B2.setCell (p := ⟨w.heap.size + 1 + 1, 0, none⟩) (by simp; omega) (.int .i64 0)).setCell (p := ⟨w.heap.size + 1 + 1, 1, none⟩) (by simp; omega) (.slice none 0 0))⟩
set_option maxHeartbeats 2000000 in
set_option maxRecDepth 100000 in
theorem sNext_yes (V S C N T D R K G U Q P E : Nat) (z : Int) (w : World) (h : FitD V S C N T D R K G) (hp : FitP Q P) (hE : E ≤ 1099511627776) (hT : Both w) :
    Calls Tryd.prog 16 #[.agg #[.int .i64 (V : Int), .int .i64 (S : Int), .int .i64 (C : Int), .int .i64 (N : Int), .int .i64 (T : Int), .int .i64 (D : Int), .int .i64 (R : Int), .int .i64 (K : Int), .int .i64 (G : Int), .int .u64 z], .agg #[.int .u64 (U : Int), .int .i64 (Q : Int), .int .i64 (P : Int)], .int .i64 (E : Int)] w fun o w' => o = .returned (.tuple #[.int .i64 (endN U P (blkN U P E) : Int), .int .i64 0]) ∧ Below w.heap.size w w' := by
  have b0 := Below.refl w.heap.size w
  replace b0 := b0.alloc b0.size (.cells #[.int .i64 (V : Int), .int .i64 (S : Int), .int .i64 (C : Int), .int .i64 (N : Int), .int .i64 (T : Int), .int .i64 (D : Int), .int .i64 (R : Int), .int .i64 (K : Int), .int .i64 (G : Int), .int .u64 z] 24)
  replace b0 := b0.alloc b0.size (.cells #[.int .u64 (U : Int), .int .i64 (Q : Int), .int .i64 (P : Int)] 26)
  have qc := RowAt.new w 24 #[.int .i64 (V : Int), .int .i64 (S : Int), .int .i64 (C : Int), .int .i64 (N : Int), .int .i64 (T : Int), .int .i64 (D : Int), .int .i64 (R : Int), .int .i64 (K : Int), .int .i64 (G : Int), .int .u64 z]
  replace qc := qc.alloc (.cells #[.int .u64 (U : Int), .int .i64 (Q : Int), .int .i64 (P : Int)] 26)
  have qp := RowAt.new (w.alloc (.cells #[.int .i64 (V : Int), .int .i64 (S : Int), .int .i64 (C : Int), .int .i64 (N : Int), .int .i64 (T : Int), .int .i64 (D : Int), .int .i64 (R : Int), .int .i64 (K : Int), .int .i64 (G : Int), .int .u64 z] 24)) 26 #[.int .u64 (U : Int), .int .i64 (Q : Int), .int .i64 (P : Int)]
  rw [World.size_alloc] at qp
  have hT0 : Both ((w.alloc (.cells #[.int .i64 (V : Int), .int .i64 (S : Int), .int .i64 (C : Int), .int .i64 (N : Int), .int .i64 (T : Int), .int .i64 (D : Int), .int .i64 (R : Int), .int .i64 (K : Int), .int .i64 (G : Int), .int .u64 z] 24)).alloc (.cells #[.int .u64 (U : Int), .int .i64 (Q : Int), .int .i64 (P : Int)] 26)) := ⟨hT.1.below b0 hT.1.lt, hT.2.below b0 hT.2.lt⟩
  have cA := askI_yes V S C N T D R K G U Q P E z ((w.alloc (.cells #[.int .i64 (V : Int), .int .i64 (S : Int), .int .i64 (C : Int), .int .i64 (N : Int), .int .i64 (T : Int), .int .i64 (D : Int), .int .i64 (R : Int), .int .i64 (K : Int), .int .i64 (G : Int), .int .u64 z] 24)).alloc (.cells #[.int .u64 (U : Int), .int .i64 (Q : Int), .int .i64 (P : Int)] 26)) h hp hE hT0
  generalize endN U P (blkN U P E) = en at *
  go_enter Tryd.func16, Tryd.ntmps16
  go_upto_region 1 with (fail)
  generalize ((w.alloc (.cells #[.int .i64 (V : Int), .int .i64 (S : Int), .int .i64 (C : Int), .int .i64 (N : Int), .int .i64 (T : Int), .int .i64 (D : Int), .int .i64 (R : Int), .int .i64 (K : Int), .int .i64 (G : Int), .int .u64 z] 24)).alloc (.cells #[.int .u64 (U : Int), .int .i64 (Q : Int), .int .i64 (P : Int)] 26)) = w0 at *
  clear hT
  have y := qc.cell
  have y0 := y 0
  have y1 := y 1
  have y2 := y 2
  have y3 := y 3
  have y4 := y 4
  have y5 := y 5
  have y6 := y 6
  have y7 := y 7
  have y8 := y 8
  have y9 := y 9
  simp only [List.getElem?_cons_zero, List.getElem?_cons_succ] at y0 y1 y2 y3 y4 y5 y6 y7 y8 y9
  clear y
  have x := qp.cell
  have x0 := x 0
  have x1 := x 1
  have x2 := x 2
  simp only [List.getElem?_cons_zero, List.getElem?_cons_succ] at x0 x1 x2
  clear x
  go_wp2_with fail
  with_reducible refine cA.mono ?_
  rintro o w2 ⟨rfl, b2⟩
  have B2 := b0.trans (b2.mono b0.size)
  go_wp2_with fail
  go_ret2
  exact ⟨rfl, B2⟩
set_option maxHeartbeats 2000000 in
set_option maxRecDepth 100000 in
theorem sNext_no (v s c n t d r k g z u q p e : Int) (w : World) (hT : Both w) (hno : (fitsC v s c n t d r k g && fitsP q p && isTickB e) = false) :
    Calls Tryd.prog 16 #[.agg #[.int .i64 v, .int .i64 s, .int .i64 c, .int .i64 n, .int .i64 t, .int .i64 d, .int .i64 r, .int .i64 k, .int .i64 g, .int .u64 z], .agg #[.int .u64 u, .int .i64 q, .int .i64 p], .int .i64 e] w fun o w' => o = .returned (.tuple #[.int .i64 0, .int .i64 1]) ∧ Below w.heap.size w w' := by
  have b0 := Below.refl w.heap.size w
  replace b0 := b0.alloc b0.size (.cells #[.int .i64 v, .int .i64 s, .int .i64 c, .int .i64 n, .int .i64 t, .int .i64 d, .int .i64 r, .int .i64 k, .int .i64 g, .int .u64 z] 24)
  replace b0 := b0.alloc b0.size (.cells #[.int .u64 u, .int .i64 q, .int .i64 p] 26)
  have qc := RowAt.new w 24 #[.int .i64 v, .int .i64 s, .int .i64 c, .int .i64 n, .int .i64 t, .int .i64 d, .int .i64 r, .int .i64 k, .int .i64 g, .int .u64 z]
  replace qc := qc.alloc (.cells #[.int .u64 u, .int .i64 q, .int .i64 p] 26)
  have qp := RowAt.new (w.alloc (.cells #[.int .i64 v, .int .i64 s, .int .i64 c, .int .i64 n, .int .i64 t, .int .i64 d, .int .i64 r, .int .i64 k, .int .i64 g, .int .u64 z] 24)) 26 #[.int .u64 u, .int .i64 q, .int .i64 p]
  rw [World.size_alloc] at qp
  have hT0 : Both ((w.alloc (.cells #[.int .i64 v, .int .i64 s, .int .i64 c, .int .i64 n, .int .i64 t, .int .i64 d, .int .i64 r, .int .i64 k, .int .i64 g, .int .u64 z] 24)).alloc (.cells #[.int .u64 u, .int .i64 q, .int .i64 p] 26)) := ⟨hT.1.below b0 hT.1.lt, hT.2.below b0 hT.2.lt⟩
  have cA := askI_no v s c n t d r k g z u q p e (.func (.func 33) #[] #[]) ((w.alloc (.cells #[.int .i64 v, .int .i64 s, .int .i64 c, .int .i64 n, .int .i64 t, .int .i64 d, .int .i64 r, .int .i64 k, .int .i64 g, .int .u64 z] 24)).alloc (.cells #[.int .u64 u, .int .i64 q, .int .i64 p] 26)) hT0 hno
  go_enter Tryd.func16, Tryd.ntmps16
  go_upto_region 1 with (fail)
  generalize ((w.alloc (.cells #[.int .i64 v, .int .i64 s, .int .i64 c, .int .i64 n, .int .i64 t, .int .i64 d, .int .i64 r, .int .i64 k, .int .i64 g, .int .u64 z] 24)).alloc (.cells #[.int .u64 u, .int .i64 q, .int .i64 p] 26)) = w0 at *
  clear hT
  have y := qc.cell
  have y0 := y 0
  have y1 := y 1
  have y2 := y 2
  have y3 := y 3
  have y4 := y 4
  have y5 := y 5
  have y6 := y 6
  have y7 := y 7
  have y8 := y 8
  have y9 := y 9
  simp only [List.getElem?_cons_zero, List.getElem?_cons_succ] at y0 y1 y2 y3 y4 y5 y6 y7 y8 y9
  clear y
  have x := qp.cell
  have x0 := x 0
  have x1 := x 1
  have x2 := x 2
  simp only [List.getElem?_cons_zero, List.getElem?_cons_succ] at x0 x1 x2
  clear x
  go_wp2_with fail
  with_reducible refine cA.mono ?_
  rintro o w2 ⟨rfl, b2⟩
  have B2 := b0.trans (b2.mono b0.size)
  go_wp2_with fail
  go_ret2
  exact ⟨rfl, B2⟩
set_option maxHeartbeats 2000000 in
set_option maxRecDepth 100000 in
theorem sRecord_yes (V S C N T D R K G U Q P E x : Nat) (z : Int) (w : World) (h : FitD V S C N T D R K G) (hp : FitP Q P) (hE : E ≤ 1099511627776) (hT : Both w) (hx : x < 18446744073709551616) :
    Calls Tryd.prog 18 #[.agg #[.int .i64 (V : Int), .int .i64 (S : Int), .int .i64 (C : Int), .int .i64 (N : Int), .int .i64 (T : Int), .int .i64 (D : Int), .int .i64 (R : Int), .int .i64 (K : Int), .int .i64 (G : Int), .int .u64 z], .agg #[.int .u64 (U : Int), .int .i64 (Q : Int), .int .i64 (P : Int)], .int .i64 (E : Int), .int .u64 (x : Int)] w fun o w' => o = .returned (.tuple #[.agg #[.int .u64 ((blkN U P E + 1 : Nat) : Int), .int .u64 (wordN N (firstN N K U (blkN U P E)) Q : Int), .int .u64 (plainW x : Nat)], .int .i64 0]) ∧ Below w.heap.size w w' := by
  have b0 := Below.refl w.heap.size w
  replace b0 := b0.alloc b0.size (.cells #[.int .i64 (V : Int), .int .i64 (S : Int), .int .i64 (C : Int), .int .i64 (N : Int), .int .i64 (T : Int), .int .i64 (D : Int), .int .i64 (R : Int), .int .i64 (K : Int), .int .i64 (G : Int), .int .u64 z] 24)
  replace b0 := b0.alloc b0.size (.cells #[.int .u64 (U : Int), .int .i64 (Q : Int), .int .i64 (P : Int)] 26)
  replace b0 := b0.alloc b0.size (.cells #[.int .u64 (x : Int)] 22)
  replace b0 := b0.alloc b0.size (.cells #[.int .u64 0, .int .u64 0, .int .u64 0] 44)
  have qc := RowAt.new w 24 #[.int .i64 (V : Int), .int .i64 (S : Int), .int .i64 (C : Int), .int .i64 (N : Int), .int .i64 (T : Int), .int .i64 (D : Int), .int .i64 (R : Int), .int .i64 (K : Int), .int .i64 (G : Int), .int .u64 z]
  replace qc := qc.alloc (.cells #[.int .u64 (U : Int), .int .i64 (Q : Int), .int .i64 (P : Int)] 26)
  replace qc := qc.alloc (.cells #[.int .u64 (x : Int)] 22)
  replace qc := qc.alloc (.cells #[.int .u64 0, .int .u64 0, .int .u64 0] 44)
  have qp := RowAt.new (w.alloc (.cells #[.int .i64 (V : Int), .int .i64 (S : Int), .int .i64 (C : Int), .int .i64 (N : Int), .int .i64 (T : Int), .int .i64 (D : Int), .int .i64 (R : Int), .int .i64 (K : Int), .int .i64 (G : Int), .int .u64 z] 24)) 26 #[.int .u64 (U : Int), .int .i64 (Q : Int), .int .i64 (P : Int)]
  replace qp := qp.alloc (.cells #[.int .u64 (x : Int)] 22)
  replace qp := qp.alloc (.cells #[.int .u64 0, .int .u64 0, .int .u64 0] 44)
  rw [World.size_alloc] at qp
  have qx := RowAt.new ((w.alloc (.cells #[.int .i64 (V : Int), .int .i64 (S : Int), .int .i64 (C : Int), .int .i64 (N : Int), .int .i64 (T : Int), .int .i64 (D : Int), .int .i64 (R : Int), .int .i64 (K : Int), .int .i64 (G : Int), .int .u64 z] 24)).alloc (.cells #[.int .u64 (U : Int), .int .i64 (Q : Int), .int .i64 (P : Int)] 26)) 22 #[.int .u64 (x : Int)]
  replace qx := qx.alloc (.cells #[.int .u64 0, .int .u64 0, .int .u64 0] 44)
  rw [World.size_alloc, World.size_alloc] at qx
  have q8 := RowAt.new (((w.alloc (.cells #[.int .i64 (V : Int), .int .i64 (S : Int), .int .i64 (C : Int), .int .i64 (N : Int), .int .i64 (T : Int), .int .i64 (D : Int), .int .i64 (R : Int), .int .i64 (K : Int), .int .i64 (G : Int), .int .u64 z] 24)).alloc (.cells #[.int .u64 (U : Int), .int .i64 (Q : Int), .int .i64 (P : Int)] 26)).alloc (.cells #[.int .u64 (x : Int)] 22)) 44 #[.int .u64 0, .int .u64 0, .int .u64 0]
  rw [World.size_alloc, World.size_alloc, World.size_alloc] at q8
  have hT0 : Both ((((w.alloc (.cells #[.int .i64 (V : Int), .int .i64 (S : Int), .int .i64 (C : Int), .int .i64 (N : Int), .int .i64 (T : Int), .int .i64 (D : Int), .int .i64 (R : Int), .int .i64 (K : Int), .int .i64 (G : Int), .int .u64 z] 24)).alloc (.cells #[.int .u64 (U : Int), .int .i64 (Q : Int), .int .i64 (P : Int)] 26)).alloc (.cells #[.int .u64 (x : Int)] 22)).alloc (.cells #[.int .u64 0, .int .u64 0, .int .u64 0] 44)) := ⟨hT.1.below b0 hT.1.lt, hT.2.below b0 hT.2.lt⟩
  have cA := askR_yes V S C N T D R K G U Q P E x (w.heap.size + 1 + 1) z ((((w.alloc (.cells #[.int .i64 (V : Int), .int .i64 (S : Int), .int .i64 (C : Int), .int .i64 (N : Int), .int .i64 (T : Int), .int .i64 (D : Int), .int .i64 (R : Int), .int .i64 (K : Int), .int .i64 (G : Int), .int .u64 z] 24)).alloc (.cells #[.int .u64 (U : Int), .int .i64 (Q : Int), .int .i64 (P : Int)] 26)).alloc (.cells #[.int .u64 (x : Int)] 22)).alloc (.cells #[.int .u64 0, .int .u64 0, .int .u64 0] 44)) h hp hE hT0 hx qx
  generalize wordN N (firstN N K U (blkN U P E)) Q = wd at *
  generalize plainW x = pl at *
  generalize blkN U P E + 1 = B1 at *
  go_enter Tryd.func18, Tryd.ntmps18
  go_upto_region 1 with (fail)
  generalize ((((w.alloc (.cells #[.int .i64 (V : Int), .int .i64 (S : Int), .int .i64 (C : Int), .int .i64 (N : Int), .int .i64 (T : Int), .int .i64 (D : Int), .int .i64 (R : Int), .int .i64 (K : Int), .int .i64 (G : Int), .int .u64 z] 24)).alloc (.cells #[.int .u64 (U : Int), .int .i64 (Q : Int), .int .i64 (P : Int)] 26)).alloc (.cells #[.int .u64 (x : Int)] 22)).alloc (.cells #[.int .u64 0, .int .u64 0, .int .u64 0] 44)) = w0 at *
  clear hT
  have y := qc.cell
  have y0 := y 0
  have y1 := y 1
  have y2 := y 2
  have y3 := y 3
  have y4 := y 4
  have y5 := y 5
  have y6 := y 6
  have y7 := y 7
  have y8 := y 8
  have y9 := y 9
  simp only [List.getElem?_cons_zero, List.getElem?_cons_succ] at y0 y1 y2 y3 y4 y5 y6 y7 y8 y9
  clear y
  have x := qp.cell
  have x0 := x 0
  have x1 := x 1
  have x2 := x 2
  simp only [List.getElem?_cons_zero, List.getElem?_cons_succ] at x0 x1 x2
  clear x
  have hl8 := q8.lt
  go_wp2_with fail
  with_reducible refine cA.mono ?_
  rintro o w2 ⟨rfl, b2⟩
  have B2 := b0.trans (b2.mono b0.size)
  replace q8 := q8.on b2
  have f0 := q8.frozen 0
  have f1 := q8.frozen 1
  have f2 := q8.frozen 2
  have c0_ := q8.cell 0
  have c1_ := q8.cell 1
  have c2_ := q8.cell 2
  simp only [List.getElem?_cons_zero, List.getElem?_cons_succ] at c0_ c1_ c2_
  go_wp2_with fail
  have R3 := ((q8.set 0 (.int .u64 (B1 : Int))).set 1 (.int .u64 (wd : Int))).set 2 (.int .u64 (pl : Nat))
  have d0 := R3.cell 0
  have d1 := R3.cell 1
  have d2 := R3.cell 2
  simp only [List.set_cons_zero, List.set_cons_succ, List.getElem?_cons_zero, List.getElem?_cons_succ] at d0 d1 d2
  refine bodyPost_ret (v := .tuple #[.agg #[.int .u64 (B1 : Int), .int .u64 (wd : Int), .int .u64 (pl : Nat)], .int .i64 0]) (by simp [results, Tryd.results18, go_sem, d0, d1, d2]) rfl ?_
  exact ⟨rfl, (((B2.setCell (p := ⟨w.heap.size + 1 + 1 + 1, 0, none⟩) (by simp; omega) (.int .u64 (B1 : Int))).setCell (p := ⟨w.heap.size + 1 + 1 + 1, 1, none⟩) (by simp; omega) (.int .u64 (wd : Int))).setCell (p := ⟨w.heap.size + 1 + 1 + 1, 2, none⟩) (by simp; omega) (.int .u64 (pl : Nat)))⟩
set_option maxHeartbeats 2000000 in
set_option maxRecDepth 100000 in
theorem sRecord_no (v s c n t d r k g z u q p e x : Int) (w : World) (hT : Both w) (hno : (fitsC v s c n t d r k g && fitsP q p && isTickB e) = false) :
    Calls Tryd.prog 18 #[.agg #[.int .i64 v, .int .i64 s, .int .i64 c, .int .i64 n, .int .i64 t, .int .i64 d, .int .i64 r, .int .i64 k, .int .i64 g, .int .u64 z], .agg #[.int .u64 u, .int .i64 q, .int .i64 p], .int .i64 e, .int .u64 x] w fun o w' => o = .returned (.tuple #[.agg #[.int .u64 0, .int .u64 0, .int .u64 0], .int .i64 1]) ∧ Below w.heap.size w w' := by
  have b0 := Below.refl w.heap.size w
  replace b0 := b0.alloc b0.size (.cells #[.int .i64 v, .int .i64 s, .int .i64 c, .int .i64 n, .int .i64 t, .int .i64 d, .int .i64 r, .int .i64 k, .int .i64 g, .int .u64 z] 24)
  replace b0 := b0.alloc b0.size (.cells #[.int .u64 u, .int .i64 q, .int .i64 p] 26)
  replace b0 := b0.alloc b0.size (.cells #[.int .u64 x] 22)
  replace b0 := b0.alloc b0.size (.cells #[.int .u64 0, .int .u64 0, .int .u64 0] 44)
  have qc := RowAt.new w 24 #[.int .i64 v, .int .i64 s, .int .i64 c, .int .i64 n, .int .i64 t, .int .i64 d, .int .i64 r, .int .i64 k, .int .i64 g, .int .u64 z]
  replace qc := qc.alloc (.cells #[.int .u64 u, .int .i64 q, .int .i64 p] 26)
  replace qc := qc.alloc (.cells #[.int .u64 x] 22)
  replace qc := qc.alloc (.cells #[.int .u64 0, .int .u64 0, .int .u64 0] 44)
  have qp := RowAt.new (w.alloc (.cells #[.int .i64 v, .int .i64 s, .int .i64 c, .int .i64 n, .int .i64 t, .int .i64 d, .int .i64 r, .int .i64 k, .int .i64 g, .int .u64 z] 24)) 26 #[.int .u64 u, .int .i64 q, .int .i64 p]
  replace qp := qp.alloc (.cells #[.int .u64 x] 22)
  replace qp := qp.alloc (.cells #[.int .u64 0, .int .u64 0, .int .u64 0] 44)
  rw [World.size_alloc] at qp
  have qx := RowAt.new ((w.alloc (.cells #[.int .i64 v, .int .i64 s, .int .i64 c, .int .i64 n, .int .i64 t, .int .i64 d, .int .i64 r, .int .i64 k, .int .i64 g, .int .u64 z] 24)).alloc (.cells #[.int .u64 u, .int .i64 q, .int .i64 p] 26)) 22 #[.int .u64 x]
  replace qx := qx.alloc (.cells #[.int .u64 0, .int .u64 0, .int .u64 0] 44)
  rw [World.size_alloc, World.size_alloc] at qx
  have q8 := RowAt.new (((w.alloc (.cells #[.int .i64 v, .int .i64 s, .int .i64 c, .int .i64 n, .int .i64 t, .int .i64 d, .int .i64 r, .int .i64 k, .int .i64 g, .int .u64 z] 24)).alloc (.cells #[.int .u64 u, .int .i64 q, .int .i64 p] 26)).alloc (.cells #[.int .u64 x] 22)) 44 #[.int .u64 0, .int .u64 0, .int .u64 0]
  rw [World.size_alloc, World.size_alloc, World.size_alloc] at q8
  have hT0 : Both ((((w.alloc (.cells #[.int .i64 v, .int .i64 s, .int .i64 c, .int .i64 n, .int .i64 t, .int .i64 d, .int .i64 r, .int .i64 k, .int .i64 g, .int .u64 z] 24)).alloc (.cells #[.int .u64 u, .int .i64 q, .int .i64 p] 26)).alloc (.cells #[.int .u64 x] 22)).alloc (.cells #[.int .u64 0, .int .u64 0, .int .u64 0] 44)) := ⟨hT.1.below b0 hT.1.lt, hT.2.below b0 hT.2.lt⟩
  have cA := askR_no v s c n t d r k g z u q p e (.func (.func 35) #[] #[.pointer (some ⟨w.heap.size + 1 + 1, 0, none⟩)]) ((((w.alloc (.cells #[.int .i64 v, .int .i64 s, .int .i64 c, .int .i64 n, .int .i64 t, .int .i64 d, .int .i64 r, .int .i64 k, .int .i64 g, .int .u64 z] 24)).alloc (.cells #[.int .u64 u, .int .i64 q, .int .i64 p] 26)).alloc (.cells #[.int .u64 x] 22)).alloc (.cells #[.int .u64 0, .int .u64 0, .int .u64 0] 44)) hT0 hno
  go_enter Tryd.func18, Tryd.ntmps18
  go_upto_region 1 with (fail)
  generalize ((((w.alloc (.cells #[.int .i64 v, .int .i64 s, .int .i64 c, .int .i64 n, .int .i64 t, .int .i64 d, .int .i64 r, .int .i64 k, .int .i64 g, .int .u64 z] 24)).alloc (.cells #[.int .u64 u, .int .i64 q, .int .i64 p] 26)).alloc (.cells #[.int .u64 x] 22)).alloc (.cells #[.int .u64 0, .int .u64 0, .int .u64 0] 44)) = w0 at *
  clear hT
  have y := qc.cell
  have y0 := y 0
  have y1 := y 1
  have y2 := y 2
  have y3 := y 3
  have y4 := y 4
  have y5 := y 5
  have y6 := y 6
  have y7 := y 7
  have y8 := y 8
  have y9 := y 9
  simp only [List.getElem?_cons_zero, List.getElem?_cons_succ] at y0 y1 y2 y3 y4 y5 y6 y7 y8 y9
  clear y
  have x := qp.cell
  have x0 := x 0
  have x1 := x 1
  have x2 := x 2
  simp only [List.getElem?_cons_zero, List.getElem?_cons_succ] at x0 x1 x2
  clear x
  have hl8 := q8.lt
  go_wp2_with fail
  with_reducible refine cA.mono ?_
  rintro o w2 ⟨rfl, b2⟩
  have B2 := b0.trans (b2.mono b0.size)
  replace q8 := q8.on b2
  have f0 := q8.frozen 0
  have f1 := q8.frozen 1
  have f2 := q8.frozen 2
  have c0_ := q8.cell 0
  have c1_ := q8.cell 1
  have c2_ := q8.cell 2
  simp only [List.getElem?_cons_zero, List.getElem?_cons_succ] at c0_ c1_ c2_
  go_wp2_with fail
  have R3 := ((q8.set 0 (.int .u64 0)).set 1 (.int .u64 0)).set 2 (.int .u64 0)
  have d0 := R3.cell 0
  have d1 := R3.cell 1
  have d2 := R3.cell 2
  simp only [List.set_cons_zero, List.set_cons_succ, List.getElem?_cons_zero, List.getElem?_cons_succ] at d0 d1 d2
  refine bodyPost_ret (v := .tuple #[.agg #[.int .u64 0, .int .u64 0, .int .u64 0], .int .i64 1]) (by simp [results, Tryd.results18, go_sem, d0, d1, d2]) rfl ?_
  exact ⟨rfl, (((B2.setCell (p := ⟨w.heap.size + 1 + 1 + 1, 0, none⟩) (by simp; omega) (.int .u64 0)).setCell (p := ⟨w.heap.size + 1 + 1 + 1, 1, none⟩) (by simp; omega) (.int .u64 0)).setCell (p := ⟨w.heap.size + 1 + 1 + 1, 2, none⟩) (by simp; omega) (.int .u64 0))⟩

end Go.Proofs.YthlajfoipafaaaaDoor
