/- Package sched: whether a plan fits, a node's shift, the first subnet, all of them; the document's own whether, and its blocks. -/
import Derived.Test.YthlajfoipafaaaaDoorDutA
import Derived.Test.YthlajfoipafaaaaDoorSchP
import Derived.Deep.WholeRow
import Derived.Laws.CopyOwn
namespace Go.Proofs.YthlajfoipafaaaaDoor
open Go.RowKit Go.Lib

def fitsP (q p : Int) : Bool := decide (0 ≤ q) && decide (q ≤ 64) && decide (1 ≤ p) && decide (p ≤ 256)
theorem fitsP_iff (q p : Int) : fitsP q p = true ↔ 0 ≤ q ∧ q ≤ 64 ∧ 1 ≤ p ∧ p ≤ 256 := by simp [fitsP]; omega
theorem scFits_any (u q p : Int) (w : World) : Calls Tryd.prog 11 #[.agg #[.int .u64 u, .int .i64 q, .int .i64 p]] w fun o w' => o = .returned (.bool (fitsP q p)) ∧ Below w.heap.size w w' := by
  have hb := (Below.refl w.heap.size w).alloc (Nat.le_refl _) (.cells #[.int .u64 u, .int .i64 q, .int .i64 p] 26)
  unfold fitsP
  by_cases h1 : 0 ≤ q
  · have g1 : (0 ≤ q) = True := eq_true h1
    by_cases h2 : q ≤ 64
    · have g2 : (q ≤ 64) = True := eq_true h2
      by_cases h3 : 1 ≤ p
      · have g3 : (1 ≤ p) = True := eq_true h3
        obtain ⟨b, hb4⟩ : ∃ b, decide (p ≤ 256) = b := ⟨_, rfl⟩
        go_enter Tryd.func11, Tryd.ntmps11
        go_wp2_with fail
        go_ret
        exact ⟨by simp [h1, h2, h3, hb4], hb⟩
      · have g3 : (1 ≤ p) = False := eq_false h3
        go_enter Tryd.func11, Tryd.ntmps11
        go_wp2_with fail
        go_ret
        exact ⟨by simp, hb⟩
    · have g2 : (q ≤ 64) = False := eq_false h2
      go_enter Tryd.func11, Tryd.ntmps11
      go_wp2_with fail
      go_ret
      exact ⟨by simp, hb⟩
  · have g1 : (0 ≤ q) = False := eq_false h1
    go_enter Tryd.func11, Tryd.ntmps11
    go_wp2_with fail
    go_ret
    exact ⟨by simp, hb⟩
theorem rscFits_any (u q p : Int) (w : World) : Calls Tryd.prog 12 #[.agg #[.int .u64 u, .int .i64 q, .int .i64 p]] w fun o w' => o = .returned (.bool (fitsP q p)) ∧ Below w.heap.size w w' := by
  have hb := (Below.refl w.heap.size w).alloc (Nat.le_refl _) (.cells #[.int .u64 u, .int .i64 q, .int .i64 p] 26)
  unfold fitsP
  by_cases h1 : 0 ≤ q
  · have g1 : (0 ≤ q) = True := eq_true h1
    by_cases h2 : q ≤ 64
    · have g2 : (q ≤ 64) = True := eq_true h2
      by_cases h3 : 1 ≤ p
      · have g3 : (1 ≤ p) = True := eq_true h3
        obtain ⟨b, hb4⟩ : ∃ b, decide (p ≤ 256) = b := ⟨_, rfl⟩
        go_enter Tryd.func12, Tryd.ntmps12
        go_wp2_with fail
        go_ret
        exact ⟨by simp [h1, h2, h3, hb4], hb⟩
      · have g3 : (1 ≤ p) = False := eq_false h3
        go_enter Tryd.func12, Tryd.ntmps12
        go_wp2_with fail
        go_ret
        exact ⟨by simp, hb⟩
    · have g2 : (q ≤ 64) = False := eq_false h2
      go_enter Tryd.func12, Tryd.ntmps12
      go_wp2_with fail
      go_ret
      exact ⟨by simp, hb⟩
  · have g1 : (0 ≤ q) = False := eq_false h1
    go_enter Tryd.func12, Tryd.ntmps12
    go_wp2_with fail
    go_ret
    exact ⟨by simp, hb⟩

theorem shift_any (U P : Nat) (q : Int) (w : World) (h1 : 1 ≤ P) (h2 : P ≤ 256) : Calls Tryd.prog 45 #[.agg #[.int .u64 (U : Int), .int .i64 q, .int .i64 (P : Int)]] w fun o w' => o = .returned (.int .i64 ((U % P : Nat) : Int)) ∧ Below w.heap.size w w' := by
  have e1 : IntKind.u64.wrap (P : Int) = (P : Int) := IntWalk.u64_in _ (by omega)
  have e2 : (U : Int).tmod (P : Int) = ((U % P : Nat) : Int) := tmod_nat U P
  have e3 : ((P : Int) = 0) = False := eq_false (by omega)
  have e4 : (P = 0) = False := eq_false (by omega)
  have hr : U % P < P := Nat.mod_lt _ (by omega)
  generalize U % P = r1 at *
  have e5 : IntKind.u64.wrap (r1 : Int) = (r1 : Int) := IntWalk.u64_in _ (by omega)
  have e6 : IntKind.i64.wrap (r1 : Int) = (r1 : Int) := wrap_small (by omega) (by omega)
  go_enter Tryd.func45, Tryd.ntmps45
  go_wp2_with fail
  go_ret
  exact ⟨rfl, (Below.refl _ _).alloc (Nat.le_refl _) _⟩
/-- A plan that fits. -/
structure FitP (Q P : Nat) : Prop where
  q2 : Q ≤ 64
  p1 : 1 ≤ P
  p2 : P ≤ 256
theorem FitP.fits {Q P : Nat} (h : FitP Q P) : fitsP Q P = true := by
  obtain ⟨_, _, _⟩ := h
  rw [fitsP_iff]; omega
/-- The first subnet. -/
def firstN (N K U B : Nat) : Nat := placeS (roundS N (foldB [U, B])) K (U % N)
theorem firstN_lt (N K U B : Nat) (h : 1 ≤ N) : firstN N K U B < N := by
  unfold firstN
  exact runS_lt stS_lt _ (Nat.mod_lt _ (by omega))
set_option maxHeartbeats 1000000 in
set_option maxRecDepth 100000 in
theorem scfirst_any (V S C N T D R K G U Q P B : Nat) (z : Int) (w : World) (h : FitD V S C N T D R K G) (hB : B ≤ 2199023255552) (hT : Tab w) :
    Calls Tryd.prog 59 #[.agg #[.int .i64 (V : Int), .int .i64 (S : Int), .int .i64 (C : Int), .int .i64 (N : Int), .int .i64 (T : Int), .int .i64 (D : Int), .int .i64 (R : Int), .int .i64 (K : Int), .int .i64 (G : Int), .int .u64 z, .int .u64 (U : Int), .int .i64 (Q : Int), .int .i64 (P : Int), .int .i64 (B : Int)]] w fun o w' => o = .returned (.int .i64 (firstN N K U B : Int)) ∧ Below w.heap.size w w' := by
  obtain ⟨n1, n2, k2⟩ : 1 ≤ N ∧ N ≤ 64 ∧ K ≤ 90 := ⟨h.n1, h.n2, h.k2⟩
  have e0 : IntKind.u64.wrap (B : Int) = (B : Int) := IntWalk.u64_in _ (by omega)
  have e1 : IntKind.u64.wrap (N : Int) = (N : Int) := IntWalk.u64_in _ (by omega)
  have e2 : (U : Int).tmod (N : Int) = ((U % N : Nat) : Int) := tmod_nat U N
  have e3 : ((N : Int) = 0) = False := eq_false (by omega)
  have e4 : (N = 0) = False := eq_false (by omega)
  have hr : U % N < N := Nat.mod_lt _ (by omega)
  have hl := firstN_lt N K U B n1
  have cP := fun W hW => Place_yes N K (foldB [U, B]) (U % N) W hW n1 (by omega) hr k2
  change ∀ W, Tab W → Calls _ _ _ _ fun e w' => e = .returned (.tuple #[.int .i64 (firstN N K U B : Int), .int .i64 0]) ∧ _ at cP
  generalize firstN N K U B = F at *
  generalize U % N = r1 at *
  have e5 : IntKind.u64.wrap (r1 : Int) = (r1 : Int) := IntWalk.u64_in _ (by omega)
  have e6 : IntKind.i64.wrap (r1 : Int) = (r1 : Int) := wrap_small (by omega) (by omega)
  have q := RowAt.new w 59 #[.int .i64 (V : Int), .int .i64 (S : Int), .int .i64 (C : Int), .int .i64 (N : Int), .int .i64 (T : Int), .int .i64 (D : Int), .int .i64 (R : Int), .int .i64 (K : Int), .int .i64 (G : Int), .int .u64 z, .int .u64 (U : Int), .int .i64 (Q : Int), .int .i64 (P : Int), .int .i64 (B : Int)]
  have b0 := (Below.refl w.heap.size w).alloc (Nat.le_refl _) (.cells #[.int .i64 (V : Int), .int .i64 (S : Int), .int .i64 (C : Int), .int .i64 (N : Int), .int .i64 (T : Int), .int .i64 (D : Int), .int .i64 (R : Int), .int .i64 (K : Int), .int .i64 (G : Int), .int .u64 z, .int .u64 (U : Int), .int .i64 (Q : Int), .int .i64 (P : Int), .int .i64 (B : Int)] 59)
  have y0 := q.later7 0 _ rfl
  have y1 := q.later7 1 _ rfl
  have y2 := q.later7 2 _ rfl
  have y3 := q.later7 3 _ rfl
  have y4 := q.later7 4 _ rfl
  have y5 := q.later7 5 _ rfl
  have y6 := q.later7 6 _ rfl
  have y7 := q.later7 7 _ rfl
  have y8 := q.later7 8 _ rfl
  have y9 := q.later7 9 _ rfl
  have y10 := q.later7 10 _ rfl
  have y11 := q.later7 11 _ rfl
  have y12 := q.later7 12 _ rfl
  have y13 := q.later7 13 _ rfl
  have cF0 := fun W (hW : Tab (W.alloc (.cells #[.int .u64 (U : Int), .int .u64 (B : Int)] 22))) (g : Nat) (hg : W.heap.size = g) => Fold_any [U, B] _ _ (words2 W U B 22 g hg) (by simp) hW
  generalize foldB [U, B] = sd at *
  have hT0 : Tab (w.alloc (.cells #[.int .i64 (V : Int), .int .i64 (S : Int), .int .i64 (C : Int), .int .i64 (N : Int), .int .i64 (T : Int), .int .i64 (D : Int), .int .i64 (R : Int), .int .i64 (K : Int), .int .i64 (G : Int), .int .u64 z, .int .u64 (U : Int), .int .i64 (Q : Int), .int .i64 (P : Int), .int .i64 (B : Int)] 59)) := hT.below b0 hT.lt
  go_enter Tryd.func59, Tryd.ntmps59
  go_upto_region 1 with (fail)
  generalize w.alloc (.cells #[.int .i64 (V : Int), .int .i64 (S : Int), .int .i64 (C : Int), .int .i64 (N : Int), .int .i64 (T : Int), .int .i64 (D : Int), .int .i64 (R : Int), .int .i64 (K : Int), .int .i64 (G : Int), .int .u64 z, .int .u64 (U : Int), .int .i64 (Q : Int), .int .i64 (P : Int), .int .i64 (B : Int)] 59) = w1 at *
  refine wp_region_later (by kernel_rfl) (by kernel_rfl) ?_
  repeat (go_big_quiet_step (fail))
  refine wpQuiet_nil ?_
  intro _ hw'
  obtain ⟨p1, rfl⟩ := hw'
  have q2 := q.on p1.h
  have hT2 := hT0.on p1.h
  have B2 := b0.trans (p1.h.mono b0.size)
  clear y0 y1 y2 y3 y4 y5 y6 y7 y8 y9 y10 y11 y12 y13 q hT0 b0
  generalize p1.W = w2 at *
  clear p1
  have y13 := q2.cell 13
  simp only [List.getElem?_cons_zero, List.getElem?_cons_succ] at y13
  have bx := (Below.refl w2.heap.size w2).alloc (Nat.le_refl _) (.cells #[.int .u64 (U : Int), .int .u64 (B : Int)] 22)
  have cF := cF0 w2 (hT2.on bx) _ rfl
  clear cF0
  go_wp2_with fail
  with_reducible refine cF.mono ?_
  rintro o w3 ⟨rfl, b3⟩
  have q3 := (q2.on bx).on b3
  have hT3 := (hT2.on bx).on b3
  have B3 := (B2.trans (bx.mono B2.size)).trans (b3.mono (B2.trans (bx.mono B2.size)).size)
  clear y13 bx b3 q2 hT2 B2 cF
  have y0 := q3.later7 0 _ rfl
  have y1 := q3.later7 1 _ rfl
  have y2 := q3.later7 2 _ rfl
  have y3 := q3.later7 3 _ rfl
  have y4 := q3.later7 4 _ rfl
  have y5 := q3.later7 5 _ rfl
  have y6 := q3.later7 6 _ rfl
  have y7 := q3.later7 7 _ rfl
  have y8 := q3.later7 8 _ rfl
  have y9 := q3.later7 9 _ rfl
  have y10 := q3.later7 10 _ rfl
  have y11 := q3.later7 11 _ rfl
  have y12 := q3.later7 12 _ rfl
  have y13 := q3.later7 13 _ rfl
  have HP : ∀ p : Later w3, Calls Tryd.prog 64 #[.int .i64 (N : Int), .int .i64 (K : Int), .int .u64 (sd : Int), .int .i64 (r1 : Int)] p.W fun e w_ => e = .returned (.tuple #[.int .i64 (F : Int), .int .i64 0]) ∧ ∃ p : Later w3, w_ = p.W := fun p => later_of (cP _ (hT3.on p.h))
  go_upto_region 3 with (fail)
  refine wp_region_later (by kernel_rfl) (by kernel_rfl) ?_
  repeat (go_big_quiet_step (first | (go_at_call 64; exact HP _)))
  refine wpQuiet_nil ?_
  intro _ hw'
  obtain ⟨pq, rfl⟩ := hw'
  go_wp2_with fail
  go_ret
  exact ⟨rfl, B3.trans (pq.h.mono B3.size)⟩
end Go.Proofs.YthlajfoipafaaaaDoor
