/- The document's own answers of layer 10: may, number, bound, Members, Where, Subnet, Selected.
   The document's own layer 10: Where, Selected; one answer of both sides. -/
import Derived.Test.YtjipibpcnheniaaDoorDutI
import Derived.Test.YtjipibpcnheniaaDoorTokD
import Derived.Test.YtjipibpcnheniaaDoorRegU
namespace Go.Proofs.YtjipibpcnheniaaDoor
open Go.RowKit Go.Lib

/-- May anything be told of a slot and an index? -/
def mayD (v s c n t d r k g x i : Int) : Bool := fitsC v s c n t d r k g && isTickB x && decide (0 ≤ i) && decide (i < c)
theorem mayD_no {v s c n t d r k g x i : Int} (h : mayD v s c n t d r k g x i = false) : fitsC v s c n t d r k g = false ∨ isTickB x = false ∨ i < 0 ∨ c ≤ i := by
  unfold mayD at h
  simp only [Bool.and_eq_false_iff, decide_eq_false_iff_not] at h
  rcases h with ((h | h) | h) | h
  · exact .inl h
  · exact .inr (.inl h)
  · exact .inr (.inr (.inl (by omega)))
  · exact .inr (.inr (.inr (by omega)))
set_option maxHeartbeats 1000000 in
theorem rmay10_any (v s c n t d r k g z x i : Int) (w : World) : Calls Tryd.prog 31 #[.agg #[.int .i64 v, .int .i64 s, .int .i64 c, .int .i64 n, .int .i64 t, .int .i64 d, .int .i64 r, .int .i64 k, .int .i64 g, .int .u64 z], .int .i64 x, .int .i64 i] w fun o w' => o = .returned (.bool (mayD v s c n t d r k g x i)) ∧ Below w.heap.size w w' := by
  have cF := fun W => rFits_eq (v := v) (s := s) (c := c) (n := n) (t := t) (d := d) (r := r) (k := k) (g := g) rfl z W
  unfold mayD isTickB
  generalize fitsC v s c n t d r k g = f1 at *
  have q := RowAt.new w 24 #[.int .i64 v, .int .i64 s, .int .i64 c, .int .i64 n, .int .i64 t, .int .i64 d, .int .i64 r, .int .i64 k, .int .i64 g, .int .u64 z]
  have b0 := (Below.refl w.heap.size w).alloc (Nat.le_refl _) (.cells #[.int .i64 v, .int .i64 s, .int .i64 c, .int .i64 n, .int .i64 t, .int .i64 d, .int .i64 r, .int .i64 k, .int .i64 g, .int .u64 z] 24)
  go_enter Tryd.func31, Tryd.ntmps31
  go_upto_region 1 with (fail)
  generalize w.alloc (.cells #[.int .i64 v, .int .i64 s, .int .i64 c, .int .i64 n, .int .i64 t, .int .i64 d, .int .i64 r, .int .i64 k, .int .i64 g, .int .u64 z] 24) = w0 at *
  have y := q.cell
  have y0 := y 0
  have y1 := y 1
  have y2 := y 2
  have y3 := y 3
  have y4 := y 4
  have y5 := y 5
  have y6 := y 6
  have y7 := y 7
  have y8 := y 8
  have y9 := y 9
  simp only [List.getElem?_cons_zero, List.getElem?_cons_succ] at y0 y1 y2 y3 y4 y5 y6 y7 y8 y9
  clear y
  go_wp2_with fail
  with_reducible refine (cF _).mono ?_
  rintro o w1 ⟨rfl, b1⟩
  clear y0 y1 y2 y3 y4 y5 y6 y7 y8 y9 cF
  replace q := q.on b1
  have B1 := b0.trans (b1.mono b0.size)
  have y2 := q.cell 2
  simp only [List.getElem?_cons_zero, List.getElem?_cons_succ] at y2
  clear b0 b1
  cases f1
  · go_wp2_with fail
    go_ret
    exact ⟨by simp, B1⟩
  · by_cases h1 : 0 ≤ x
    · have g1 : (0 ≤ x) = True := eq_true h1
      by_cases h2 : x ≤ 1099511627776
      · have g2 : (x ≤ 1099511627776) = True := eq_true h2
        by_cases h3 : 0 ≤ i
        · have g3 : (0 ≤ i) = True := eq_true h3
          obtain ⟨bb, hbb⟩ : ∃ bb, decide (i < c) = bb := ⟨_, rfl⟩
          go_wp2_with fail
          go_ret
          exact ⟨by simp [h1, h2, h3, hbb], B1⟩
        · have g3 : (0 ≤ i) = False := eq_false h3
          go_wp2_with fail
          go_ret
          exact ⟨by rw [decide_eq_false (show ¬ 0 ≤ i by omega)]; simp, B1⟩
      · have g2 : (x ≤ 1099511627776) = False := eq_false h2
        go_wp2_with fail
        go_ret
        exact ⟨by rw [decide_eq_false (show ¬ x ≤ 1099511627776 by omega)]; simp, B1⟩
    · have g1 : (0 ≤ x) = False := eq_false h1
      go_wp2_with fail
      go_ret
      exact ⟨by rw [decide_eq_false (show ¬ 0 ≤ x by omega)]; simp, B1⟩
set_option maxHeartbeats 1000000 in
theorem rnumber_any (V S C N T D R K G Z x i : Nat) (w : World) (h : FitD V S C N T D R K G) (hi : i < C) : Calls Tryd.prog 32 #[.agg #[.int .i64 (V : Int), .int .i64 (S : Int), .int .i64 (C : Int), .int .i64 (N : Int), .int .i64 (T : Int), .int .i64 (D : Int), .int .i64 (R : Int), .int .i64 (K : Int), .int .i64 (G : Int), .int .u64 (Z : Int)], .int .i64 (x : Int), .int .i64 (i : Int)] w fun o w' => o = .returned (.int .i64 (numD S C x i : Int)) ∧ Below w.heap.size w w' := by
  obtain ⟨s1, s2, c1, c2⟩ : 1 ≤ S ∧ S ≤ 32 ∧ 1 ≤ C ∧ C ≤ 8 := ⟨h.s1, h.s2, h.c1, h.c2⟩
  have e1 : (x : Int).tmod (S : Int) = ((x % S : Nat) : Int) := tmod_nat x S
  have hm : x % S < S := Nat.mod_lt _ (by omega)
  have e2 : ((x % S : Nat) : Int) * (C : Int) = ((x % S * C : Nat) : Int) := (Int.natCast_mul _ _).symm
  have hmc : x % S * C ≤ 32 * 8 := Nat.mul_le_mul (by omega) c2
  unfold numD
  generalize x % S * C = M at *
  generalize x % S = md at *
  have e3 : IntKind.i64.wrap (md : Int) = (md : Int) := wrap_small (by omega) (by omega)
  have e4 : IntKind.i64.wrap (M : Int) = (M : Int) := wrap_small (by omega) (by omega)
  have e5 : (M : Int) + (i : Int) = ((M + i : Nat) : Int) := by omega
  generalize M + i = Mi at *
  have e6 : IntKind.i64.wrap (Mi : Int) = (Mi : Int) := wrap_small (by omega) (by omega)
  have e7 : ((S : Int) = 0) = False := eq_false (by omega)
  have e8 : (S = 0) = False := eq_false (by omega)
  have q := RowAt.new w 24 #[.int .i64 (V : Int), .int .i64 (S : Int), .int .i64 (C : Int), .int .i64 (N : Int), .int .i64 (T : Int), .int .i64 (D : Int), .int .i64 (R : Int), .int .i64 (K : Int), .int .i64 (G : Int), .int .u64 (Z : Int)]
  have b0 := (Below.refl w.heap.size w).alloc (Nat.le_refl _) (.cells #[.int .i64 (V : Int), .int .i64 (S : Int), .int .i64 (C : Int), .int .i64 (N : Int), .int .i64 (T : Int), .int .i64 (D : Int), .int .i64 (R : Int), .int .i64 (K : Int), .int .i64 (G : Int), .int .u64 (Z : Int)] 24)
  have y0 := q.later7 0 _ rfl
  have y1 := q.later7 1 _ rfl
  have y2 := q.later7 2 _ rfl
  have y3 := q.later7 3 _ rfl
  have y4 := q.later7 4 _ rfl
  have y5 := q.later7 5 _ rfl
  have y6 := q.later7 6 _ rfl
  have y7 := q.later7 7 _ rfl
  have y8 := q.later7 8 _ rfl
  have y9 := q.later7 9 _ rfl
  go_enter Tryd.func32, Tryd.ntmps32
  go_upto_region 1 with (fail)
  refine wp_region_later (by kernel_rfl) (by kernel_rfl) ?_
  repeat (go_big_quiet_step (fail))
  refine wpQuiet_nil ?_
  intro _ hw'
  obtain ⟨pq, rfl⟩ := hw'
  go_wp2_with fail
  go_ret
  exact ⟨rfl, b0.trans (pq.h.mono b0.size)⟩
theorem rbound_any (V S C N T D R K G Z k : Nat) (w : World) (h : FitD V S C N T D R K G) (hk : k ≤ 257) : Calls Tryd.prog 34 #[.agg #[.int .i64 (V : Int), .int .i64 (S : Int), .int .i64 (C : Int), .int .i64 (N : Int), .int .i64 (T : Int), .int .i64 (D : Int), .int .i64 (R : Int), .int .i64 (K : Int), .int .i64 (G : Int), .int .u64 (Z : Int)], .int .i64 (k : Int)] w fun o w' => o = .returned (.int .i64 (bndC V (numC S C) k : Int)) ∧ Below w.heap.size w w' := by
  obtain ⟨b1, b2⟩ := numC_bd h.s1 h.s2 h.c1 h.c2
  have hP : V * k ≤ 1024 * 257 := Nat.mul_le_mul h.v2 hk
  have e1 : (V : Int) * (k : Int) = ((V * k : Nat) : Int) := (Int.natCast_mul V k).symm
  have e0 : (S : Int) * (C : Int) = (numC S C : Int) := by unfold numC; exact (Int.natCast_mul S C).symm
  unfold bndC
  generalize numC S C = M at *
  generalize V * k = P at *
  have e9 : IntKind.i64.wrap (M : Int) = (M : Int) := wrap_small (by omega) (by omega)
  have e2 : IntKind.i64.wrap (P : Int) = (P : Int) := wrap_small (by omega) (by omega)
  have e3 : (P : Int).tdiv (M : Int) = ((P / M : Nat) : Int) := tdiv_nat P M
  have e4 : ((M : Int) = 0) = False := eq_false (by omega)
  have e5 : (M = 0) = False := eq_false (by omega)
  have hq9 : P / M ≤ P := Nat.div_le_self _ _
  have e6 : IntKind.i64.wrap ((P / M : Nat) : Int) = ((P / M : Nat) : Int) := wrap_small (Int.natCast_nonneg _) (by omega)
  generalize P / M = Q at *
  have b0 := (Below.refl w.heap.size w).alloc (Nat.le_refl _) (.cells #[.int .i64 (V : Int), .int .i64 (S : Int), .int .i64 (C : Int), .int .i64 (N : Int), .int .i64 (T : Int), .int .i64 (D : Int), .int .i64 (R : Int), .int .i64 (K : Int), .int .i64 (G : Int), .int .u64 (Z : Int)] 24)
  go_enter Tryd.func34, Tryd.ntmps34
  go_wp2_with fail
  go_ret
  exact ⟨rfl, b0⟩
theorem ownsRow_onD {w w' : World} {base : Nat} {e : TypeId} {size n : Nat} {v : Value} {xs : List Value} (h : w.ownsRow base e size v n xs) (hb : Below w.heap.size w w') : w'.ownsRow base e size v n xs := by
  refine ⟨h.1, ?_⟩
  rcases h.2 with h0 | ⟨g, cap, cur, hv, h1, h2, h3⟩
  · exact .inl h0
  · refine .inr ⟨g, cap, cur, hv, h1, (hb.block g ?_).trans h2, h3⟩
    rcases Nat.lt_or_ge g w.heap.size with k | k
    · exact k
    · rw [Array.getElem?_eq_none k] at h2; cases h2
theorem may_yes {V S C N T D R K G x i : Nat} (h : FitD V S C N T D R K G) (hx : x ≤ 1099511627776) (hi : i < C) : mayD V S C N T D R K G x i = true := by
  unfold mayD isTickB
  rw [h.fits]
  simp
  omega
theorem rSubnet_yes (V S C N T D R K G Z x i : Nat) (w : World) (h : FitD V S C N T D R K G) (hx : x ≤ 1099511627776) (hi : i < C) : Calls Tryd.prog 15 #[.agg #[.int .i64 (V : Int), .int .i64 (S : Int), .int .i64 (C : Int), .int .i64 (N : Int), .int .i64 (T : Int), .int .i64 (D : Int), .int .i64 (R : Int), .int .i64 (K : Int), .int .i64 (G : Int), .int .u64 (Z : Int)], .int .i64 (x : Int), .int .i64 (i : Int)] w fun o w' => o = .returned (.tuple #[.int .i64 ((numD S C x i % N : Nat) : Int), .int .i64 0]) ∧ Below w.heap.size w w' := by
  obtain ⟨m1, m2⟩ := numC_bd h.s1 h.s2 h.c1 h.c2
  have n1 := h.n1
  have n2 := h.n2
  have hk := numD_lt (x := x) h.s1 hi
  have cM : ∀ W, Calls Tryd.prog 31 #[.agg #[.int .i64 (V : Int), .int .i64 (S : Int), .int .i64 (C : Int), .int .i64 (N : Int), .int .i64 (T : Int), .int .i64 (D : Int), .int .i64 (R : Int), .int .i64 (K : Int), .int .i64 (G : Int), .int .u64 (Z : Int)], .int .i64 (x : Int), .int .i64 (i : Int)] W fun o w' => o = .returned (.bool true) ∧ Below W.heap.size W w' := fun W => by
    have := rmay10_any V S C N T D R K G Z x i W
    rwa [may_yes h hx hi] at this
  have cN := fun W => rnumber_any V S C N T D R K G Z x i W h hi
  generalize numD S C x i = kk at *
  have e3 : (kk : Int).tmod (N : Int) = ((kk % N : Nat) : Int) := tmod_nat kk N
  have hr9 : kk % N ≤ kk := Nat.mod_le _ _
  generalize kk % N = r1 at *
  have e4 : IntKind.i64.wrap (r1 : Int) = (r1 : Int) := wrap_small (by omega) (by omega)
  have e5 : ((N : Int) = 0) = False := eq_false (by omega)
  have e6 : (N = 0) = False := eq_false (by omega)
  have q := RowAt.new w 24 #[.int .i64 (V : Int), .int .i64 (S : Int), .int .i64 (C : Int), .int .i64 (N : Int), .int .i64 (T : Int), .int .i64 (D : Int), .int .i64 (R : Int), .int .i64 (K : Int), .int .i64 (G : Int), .int .u64 (Z : Int)]
  have b0 := (Below.refl w.heap.size w).alloc (Nat.le_refl _) (.cells #[.int .i64 (V : Int), .int .i64 (S : Int), .int .i64 (C : Int), .int .i64 (N : Int), .int .i64 (T : Int), .int .i64 (D : Int), .int .i64 (R : Int), .int .i64 (K : Int), .int .i64 (G : Int), .int .u64 (Z : Int)] 24)
  go_enter Tryd.func15, Tryd.ntmps15
  go_upto_region 1 with (fail)
  generalize w.alloc (.cells #[.int .i64 (V : Int), .int .i64 (S : Int), .int .i64 (C : Int), .int .i64 (N : Int), .int .i64 (T : Int), .int .i64 (D : Int), .int .i64 (R : Int), .int .i64 (K : Int), .int .i64 (G : Int), .int .u64 (Z : Int)] 24) = w0 at *
  have y := q.cell
  have y0 := y 0
  have y1 := y 1
  have y2 := y 2
  have y3 := y 3
  have y4 := y 4
  have y5 := y 5
  have y6 := y 6
  have y7 := y 7
  have y8 := y 8
  have y9 := y 9
  simp only [List.getElem?_cons_zero, List.getElem?_cons_succ] at y0 y1 y2 y3 y4 y5 y6 y7 y8 y9
  clear y
  go_wp2_with fail
  with_reducible refine (cM _).mono ?_
  rintro o w1 ⟨rfl, b1⟩
  clear y0 y1 y2 y3 y4 y5 y6 y7 y8 y9 cM
  replace q := q.on b1
  have B1 := b0.trans (b1.mono b0.size)
  go_upto_region 4 with (fail)
  have y0 := q.later7 0 _ rfl
  have y1 := q.later7 1 _ rfl
  have y2 := q.later7 2 _ rfl
  have y3 := q.later7 3 _ rfl
  have y4 := q.later7 4 _ rfl
  have y5 := q.later7 5 _ rfl
  have y6 := q.later7 6 _ rfl
  have y7 := q.later7 7 _ rfl
  have y8 := q.later7 8 _ rfl
  have y9 := q.later7 9 _ rfl
  have HN := fun p : Later w1 => later_of (p := p) (cN p.W)
  refine wp_region_later (by kernel_rfl) (by kernel_rfl) ?_
  repeat (go_big_quiet_step (first | (go_at_call 32; with_reducible exact HN _)))
  refine wpQuiet_nil ?_
  intro _ hw'
  obtain ⟨pq, rfl⟩ := hw'
  go_wp2_with fail
  go_ret2
  exact ⟨rfl, B1.trans (pq.h.mono B1.size)⟩
theorem rSubnet_no (v s c n t d r k g z x i : Int) (w : World) (h : mayD v s c n t d r k g x i = false) : Calls Tryd.prog 15 #[.agg #[.int .i64 v, .int .i64 s, .int .i64 c, .int .i64 n, .int .i64 t, .int .i64 d, .int .i64 r, .int .i64 k, .int .i64 g, .int .u64 z], .int .i64 x, .int .i64 i] w fun o w' => o = .returned (.tuple #[.int .i64 0, .int .i64 1]) ∧ Below w.heap.size w w' := by
  have cM := fun W => rmay10_any v s c n t d r k g z x i W
  rw [h] at cM
  have q := RowAt.new w 24 #[.int .i64 v, .int .i64 s, .int .i64 c, .int .i64 n, .int .i64 t, .int .i64 d, .int .i64 r, .int .i64 k, .int .i64 g, .int .u64 z]
  have b0 := (Below.refl w.heap.size w).alloc (Nat.le_refl _) (.cells #[.int .i64 v, .int .i64 s, .int .i64 c, .int .i64 n, .int .i64 t, .int .i64 d, .int .i64 r, .int .i64 k, .int .i64 g, .int .u64 z] 24)
  go_enter Tryd.func15, Tryd.ntmps15
  go_upto_region 1 with (fail)
  generalize w.alloc (.cells #[.int .i64 v, .int .i64 s, .int .i64 c, .int .i64 n, .int .i64 t, .int .i64 d, .int .i64 r, .int .i64 k, .int .i64 g, .int .u64 z] 24) = w0 at *
  have y := q.cell
  have y0 := y 0
  have y1 := y 1
  have y2 := y 2
  have y3 := y 3
  have y4 := y 4
  have y5 := y 5
  have y6 := y 6
  have y7 := y 7
  have y8 := y 8
  have y9 := y 9
  simp only [List.getElem?_cons_zero, List.getElem?_cons_succ] at y0 y1 y2 y3 y4 y5 y6 y7 y8 y9
  clear y
  go_wp2_with fail
  with_reducible refine (cM _).mono ?_
  rintro o w1 ⟨rfl, b1⟩
  go_wp2_with fail
  go_ret2
  exact ⟨rfl, b0.trans (b1.mono b0.size)⟩
theorem rMembers_no (v s c n t d r k g z x i : Int) (w : World) (h : mayD v s c n t d r k g x i = false) : Calls Tryd.prog 13 #[.agg #[.int .i64 v, .int .i64 s, .int .i64 c, .int .i64 n, .int .i64 t, .int .i64 d, .int .i64 r, .int .i64 k, .int .i64 g, .int .u64 z], .int .i64 x, .int .i64 i] w fun o w' => o = .returned (.tuple #[.slice none 0 0, .int .i64 1]) ∧ Below w.heap.size w w' := by
  have cM := fun W => rmay10_any v s c n t d r k g z x i W
  rw [h] at cM
  have q := RowAt.new w 24 #[.int .i64 v, .int .i64 s, .int .i64 c, .int .i64 n, .int .i64 t, .int .i64 d, .int .i64 r, .int .i64 k, .int .i64 g, .int .u64 z]
  have b0 := (Below.refl w.heap.size w).alloc (Nat.le_refl _) (.cells #[.int .i64 v, .int .i64 s, .int .i64 c, .int .i64 n, .int .i64 t, .int .i64 d, .int .i64 r, .int .i64 k, .int .i64 g, .int .u64 z] 24)
  go_enter Tryd.func13, Tryd.ntmps13
  go_upto_region 1 with (fail)
  generalize w.alloc (.cells #[.int .i64 v, .int .i64 s, .int .i64 c, .int .i64 n, .int .i64 t, .int .i64 d, .int .i64 r, .int .i64 k, .int .i64 g, .int .u64 z] 24) = w0 at *
  have y := q.cell
  have y0 := y 0
  have y1 := y 1
  have y2 := y 2
  have y3 := y 3
  have y4 := y 4
  have y5 := y 5
  have y6 := y 6
  have y7 := y 7
  have y8 := y 8
  have y9 := y 9
  simp only [List.getElem?_cons_zero, List.getElem?_cons_succ] at y0 y1 y2 y3 y4 y5 y6 y7 y8 y9
  clear y
  go_wp2_with fail
  with_reducible refine (cM _).mono ?_
  rintro o w1 ⟨rfl, b1⟩
  go_wp2_with fail
  go_ret2
  exact ⟨rfl, b0.trans (b1.mono b0.size)⟩
theorem take_one (l : List Nat) (i : Nat) (h : i < l.length) : ((l.take (i + 1)).map fun n : Nat => (n : Int)).map (Value.int .i64) = ((l.take i).map fun n : Nat => (n : Int)).map (Value.int .i64) ++ [.int .i64 (l[i] : Int)] := by
  rw [List.take_add_one, List.getElem?_eq_getElem h, List.map_append, List.map_append]
  rfl
set_option maxHeartbeats 2000000 in
set_option maxRecDepth 100000 in
theorem rMembers_yes (V S C N T D R K G Z x i : Nat) (w : World) (h : FitD V S C N T D R K G) (hx : x ≤ 1099511627776) (hi : i < C) (l : List Nat) (hl : memL V K (foldB [Z, x / S]) (bndC V (numC S C) (numD S C x i)) (bndC V (numC S C) (numD S C x i + 1)) = l) :
    Calls Tryd.prog 13 #[.agg #[.int .i64 (V : Int), .int .i64 (S : Int), .int .i64 (C : Int), .int .i64 (N : Int), .int .i64 (T : Int), .int .i64 (D : Int), .int .i64 (R : Int), .int .i64 (K : Int), .int .i64 (G : Int), .int .u64 (Z : Int)], .int .i64 (x : Int), .int .i64 (i : Int)] w fun o w' => ∃ A cp, o = .returned (.tuple #[.slice A l.length cp, .int .i64 0]) ∧ Ints w' w'.heap.size (.slice A l.length cp) (l.map fun n : Nat => (n : Int)) ∧ Below w.heap.size w w' := by
  obtain ⟨m1, m2⟩ := numC_bd h.s1 h.s2 h.c1 h.c2
  obtain ⟨v1, v2, k2, s1, s2⟩ : 1 ≤ V ∧ V ≤ 1024 ∧ K ≤ 90 ∧ 1 ≤ S ∧ S ≤ 32 := ⟨h.v1, h.v2, h.k2, h.s1, h.s2⟩
  obtain ⟨i0, hi0, hz0, hz1, hz2⟩ := info_parts info_int
  have cM : ∀ W, Calls Tryd.prog 31 #[.agg #[.int .i64 (V : Int), .int .i64 (S : Int), .int .i64 (C : Int), .int .i64 (N : Int), .int .i64 (T : Int), .int .i64 (D : Int), .int .i64 (R : Int), .int .i64 (K : Int), .int .i64 (G : Int), .int .u64 (Z : Int)], .int .i64 (x : Int), .int .i64 (i : Int)] W fun o w' => o = .returned (.bool true) ∧ Below W.heap.size W w' := fun W => by
    have := rmay10_any V S C N T D R K G Z x i W
    rwa [may_yes h hx hi] at this
  have cN := fun W => rnumber_any V S C N T D R K G Z x i W h hi
  have hkk := numD_lt (x := x) h.s1 hi
  generalize numD S C x i = kk at *
  have cB1 := fun W => rbound_any V S C N T D R K G Z kk W h (by omega)
  have cB2 := fun W => rbound_any V S C N T D R K G Z (kk + 1) W h (by omega)
  have hb1 := bnd_le (V := V) (k := kk + 1) m1 (by omega)
  have hb2 : bndC V (numC S C) kk ≤ bndC V (numC S C) (kk + 1) := bnd_mono
  generalize bndC V (numC S C) (kk + 1) = bb at *
  generalize bndC V (numC S C) kk = ba at *
  have cF0 := fun W (g : Nat) (hg : W.heap.size = g) => rFold_any [Z, x / S] _ _ (words2 W Z (x / S) 22 g hg) (by simp)
  have cP := fun W (j : Nat) (hj : j < V) => rPlace_yes V K (foldB [Z, x / S]) j W v1 (by omega) hj k2
  generalize foldB [Z, x / S] = sd at *
  have e1 : (x : Int).tdiv (S : Int) = ((x / S : Nat) : Int) := tdiv_nat x S
  have hx9 : x / S ≤ x := Nat.div_le_self _ _
  generalize x / S = ep at *
  have e2 : IntKind.i64.wrap (ep : Int) = (ep : Int) := wrap_small (by omega) (by omega)
  have e3 : IntKind.u64.wrap (ep : Int) = (ep : Int) := IntWalk.u64_in _ (by omega)
  have e4 : ((S : Int) = 0) = False := eq_false (by omega)
  have e5 : (S = 0) = False := eq_false (by omega)
  have e6 : (kk : Int) + 1 = ((kk + 1 : Nat) : Int) := by omega
  have e7 : IntKind.i64.wrap ((kk + 1 : Nat) : Int) = ((kk + 1 : Nat) : Int) := wrap_small (by omega) (by omega)
  generalize kk + 1 = k1 at *
  have hll := memL_length V K sd ba bb
  have hget := fun (j : Nat) (hj : j < (memL V K sd ba bb).length) => memL_get (V := V) (K := K) (sd := sd) (a := ba) (b := bb) (i := j) hj
  obtain ⟨mm, hmm⟩ : ∃ mm, bb - ba = mm := ⟨_, rfl⟩
  have HGET := Lib.hid (fun (j : Nat) (hj : j < mm) W => (show Calls Tryd.prog 35 #[.int .i64 V, .int .i64 K, .int .u64 sd, .int .i64 ((ba + j : Nat) : Int)] W fun e w' => e = .returned (.tuple #[.int .i64 (l.getD j 0 : Nat), .int .i64 0]) ∧ Below W.heap.size W w' from by
    have := cP W (ba + j) (by omega)
    rw [← hget j (by omega)] at this
    rw [← hl, List.getD_eq_getElem?_getD, List.getElem?_eq_getElem (by omega)]
    exact this))
  rw [hl, hmm] at hll
  have HLL := Lib.hid hll
  have HMM := Lib.hid hmm
  clear hget hl cP h hll hmm
  have q := RowAt.new w 24 #[.int .i64 (V : Int), .int .i64 (S : Int), .int .i64 (C : Int), .int .i64 (N : Int), .int .i64 (T : Int), .int .i64 (D : Int), .int .i64 (R : Int), .int .i64 (K : Int), .int .i64 (G : Int), .int .u64 (Z : Int)]
  have b0 := (Below.refl w.heap.size w).alloc (Nat.le_refl _) (.cells #[.int .i64 (V : Int), .int .i64 (S : Int), .int .i64 (C : Int), .int .i64 (N : Int), .int .i64 (T : Int), .int .i64 (D : Int), .int .i64 (R : Int), .int .i64 (K : Int), .int .i64 (G : Int), .int .u64 (Z : Int)] 24)
  go_enter Tryd.func13, Tryd.ntmps13
  go_upto_region 1 with (fail)
  generalize w.alloc (.cells #[.int .i64 (V : Int), .int .i64 (S : Int), .int .i64 (C : Int), .int .i64 (N : Int), .int .i64 (T : Int), .int .i64 (D : Int), .int .i64 (R : Int), .int .i64 (K : Int), .int .i64 (G : Int), .int .u64 (Z : Int)] 24) = w0 at *
  have y := q.cell
  have y0 := y 0
  have y1 := y 1
  have y2 := y 2
  have y3 := y 3
  have y4 := y 4
  have y5 := y 5
  have y6 := y 6
  have y7 := y 7
  have y8 := y 8
  have y9 := y 9
  simp only [List.getElem?_cons_zero, List.getElem?_cons_succ] at y0 y1 y2 y3 y4 y5 y6 y7 y8 y9
  clear y
  go_wp2_with fail
  with_reducible refine (cM _).mono ?_
  rintro o w1 ⟨rfl, b1⟩
  clear y0 y1 y2 y3 y4 y5 y6 y7 y8 y9 cM
  replace q := q.on b1
  have B1 := b0.trans (b1.mono b0.size)
  clear b0 b1
  have y := q.cell
  have y0 := y 0
  have y1 := y 1
  have y2 := y 2
  have y3 := y 3
  have y4 := y 4
  have y5 := y 5
  have y6 := y 6
  have y7 := y 7
  have y8 := y 8
  have y9 := y 9
  simp only [List.getElem?_cons_zero, List.getElem?_cons_succ] at y0 y1 y2 y3 y4 y5 y6 y7 y8 y9
  clear y
  go_wp2_with fail
  with_reducible refine (cN _).mono ?_
  rintro o w2 ⟨rfl, b1⟩
  clear y0 y1 y2 y3 y4 y5 y6 y7 y8 y9 cN
  replace q := q.on b1
  replace B1 := B1.trans (b1.mono B1.size)
  clear b1
  go_upto_region 5 with (fail)
  have y0 := q.laterT 0 _ rfl
  have y1 := q.laterT 1 _ rfl
  have y2 := q.laterT 2 _ rfl
  have y3 := q.laterT 3 _ rfl
  have y4 := q.laterT 4 _ rfl
  have y5 := q.laterT 5 _ rfl
  have y6 := q.laterT 6 _ rfl
  have y7 := q.laterT 7 _ rfl
  have y8 := q.laterT 8 _ rfl
  have y9 := q.laterT 9 _ rfl
  refine wp_region_later_tail0 7 3 (by kernel_rfl) (by kernel_rfl) ?_
  simp only [List.take_succ_cons, List.take_zero]
  repeat (go_big_quiet_step (fail))
  refine wpQuiet_nil ?_
  intro w' hw'
  obtain ⟨pq, rfl⟩ := hw'
  have bq := pq.h
  replace q := q.on bq
  replace B1 := B1.trans (bq.mono B1.size)
  generalize pq.W = w4 at *
  clear bq pq y0 y1 y2 y3 y4 y5 y6 y7 y8 y9
  simp only [List.drop_succ_cons, List.drop_zero, List.take_succ_cons, List.take_zero]
  have bx := (Below.refl w4.heap.size w4).alloc (Nat.le_refl _) (.cells #[.int .u64 (Z : Int), .int .u64 (ep : Int)] 22)
  have cF := cF0 w4 _ rfl
  clear cF0
  go_wp2_with fail
  with_reducible refine cF.mono ?_
  rintro o w5 ⟨rfl, b5⟩
  have bN := bx.trans (b5.mono bx.size)
  replace q := q.on bN
  replace B1 := B1.trans (bN.mono B1.size)
  clear bN bx b5 cF
  have y := q.cell
  have y0 := y 0
  have y1 := y 1
  have y2 := y 2
  have y3 := y 3
  have y4 := y 4
  have y5 := y 5
  have y6 := y 6
  have y7 := y 7
  have y8 := y 8
  have y9 := y 9
  simp only [List.getElem?_cons_zero, List.getElem?_cons_succ] at y0 y1 y2 y3 y4 y5 y6 y7 y8 y9
  clear y
  go_wp2_with fail
  with_reducible refine (cB1 _).mono ?_
  rintro o w6 ⟨rfl, b1⟩
  clear y0 y1 y2 y3 y4 y5 y6 y7 y8 y9 cB1
  replace q := q.on b1
  replace B1 := B1.trans (b1.mono B1.size)
  clear b1
  go_wp2_with fail
  go_loopw [11, 12] (fun u jv wr => ∃ j : Nat, j ≤ mm ∧ jv = .int .i64 ((ba + j : Nat) : Int) ∧ wr.ownsRow w6.heap.size 3 1 u j (((l.take j).map fun n : Nat => (n : Int)).map (Value.int .i64)) ∧ Below w6.heap.size w6 wr) (fun _ jv _ => ba + mm - (RowKit.intOf jv).toNat)
  case atStart => exact ⟨0, Nat.zero_le _, rfl, World.ownsRow_nil _ _ _ _, Below.refl _ _⟩
  case round =>
    obtain ⟨j, hj, rfl, hown, hb⟩ := hrel
    replace q := q.on hb
    have Bo := B1.trans (hb.mono B1.size)
    have y := q.cell
    have y0 := y 0
    have y1 := y 1
    have y2 := y 2
    have y3 := y 3
    have y4 := y 4
    have y5 := y 5
    have y6 := y 6
    have y7 := y 7
    have y8 := y 8
    have y9 := y 9
    simp only [List.getElem?_cons_zero, List.getElem?_cons_succ] at y0 y1 y2 y3 y4 y5 y6 y7 y8 y9
    clear y
    go_wp2_with fail
    with_reducible refine (cB2 _).mono ?_
    rintro o w7 ⟨rfl, b7⟩
    clear y0 y1 y2 y3 y4 y5 y6 y7 y8 y9
    replace q := q.on b7
    have hown' := ownsRow_onD hown b7
    have hb7 := hb.trans (b7.mono hb.size)
    have Bo7 := Bo.trans (b7.mono Bo.size)
    clear hown b7 hb Bo
    have hM9 := HMM.out
    by_cases hlt : j < mm
    · have g1 : (((ba + j : Nat) : Int) < (bb : Int)) = True := eq_true (by omega)
      have g2 : (ba + j < bb) = True := eq_true (by omega)
      have cPj := HGET.out j hlt
      have hjl : j < l.length := by have := HLL.out; omega
      have HT1 := Lib.hid (take_one l j hjl)
      rw [show l.getD j 0 = l[j] by rw [List.getD_eq_getElem?_getD, List.getElem?_eq_getElem hjl]; rfl] at cPj
      generalize l[j] = pv at *
      obtain ⟨jo, hjo⟩ : ∃ jo, ba + j = jo := ⟨_, rfl⟩
      obtain ⟨jn, hjn⟩ : ∃ jn, jo + 1 = jn := ⟨_, rfl⟩
      have j1 : (jo : Int) + 1 = (jn : Int) := by omega
      have j2 : IntKind.i64.wrap (jn : Int) = (jn : Int) := wrap_small (by omega) (by omega)
      rw [hjo] at g1 g2 cPj ⊢
      have HJO := Lib.hid hjo
      have HJN := Lib.hid hjn
      clear hjo hjn
      have y := q.cell
      have y0 := y 0
      have y1 := y 1
      have y2 := y 2
      have y3 := y 3
      have y4 := y 4
      have y5 := y 5
      have y6 := y 6
      have y7 := y 7
      have y8 := y 8
      have y9 := y 9
      simp only [List.getElem?_cons_zero, List.getElem?_cons_succ] at y0 y1 y2 y3 y4 y5 y6 y7 y8 y9
      clear y
      go_wp2_with (first | (with_reducible refine (cPj _).mono ?_; rintro o w8 ⟨rfl, b8⟩; have hown8 := ownsRow_onD hown' b8) | (at_builtin; refine wpList_append_own _ rfl _ _ 29 rfl w6.heap.size 3 i0 (.int .i64 0) 1 8 Tryd.underlying29 hi0 hz0 hz1 hz2 rfl (by decide) _ _ _ rfl (hown8.alloc _) ⟨w8.heap.size, 0, none⟩ 1 1 [.int .i64 (pv : Int)] rfl rfl (cell_one_new _ _ _) (by simp [Value.oneCell']) (by have : maxLen = 9223372036854775807 := rfl; omega) (by omega) (by have := hb7.size; have := b8.size; simp; omega) ?_; intro v' w9 hown2 hgrow _))
      have hgrow' : (w8.alloc (.cells #[.int .i64 (pv : Int)] 3)).grownBy w9 u11.ownBlock := hgrow
      have hb8 := hb7.trans (b8.mono hb7.size)
      go_roundw
      case rel => exact ⟨j + 1, by omega, by rw [show ((ba + (j + 1) : Nat) : Int) = (jn : Int) by have := HJO.out; have := HJN.out; omega], by rw [HT1.out]; exact hown2, (hb8.alloc hb8.size _).grown hgrow' (by have := hb8.size; simp; omega) (fun k hk => (hown8.lt k hk).1)⟩
      case measure =>
        have h1 := HJO.out
        have h2 := HJN.out
        show ba + mm - (jn : Int).toNat < ba + mm - ((ba + j : Nat) : Int).toNat
        omega
    · obtain rfl : j = mm := by omega
      have g1 : (((ba + j : Nat) : Int) < (bb : Int)) = False := eq_false (by omega)
      have g2 : (ba + j < bb) = False := eq_false (by omega)
      have hjl : l.length = j := HLL.out
      rw [List.take_of_length_le (by omega)] at hown'
      rw [← hjl] at hown'
      obtain ⟨Au, cu, hu⟩ : ∃ Au cu, u11 = .slice Au l.length cu := by
        have := Elems.own (enc := Value.int .i64) (xs := l.map fun n : Nat => (n : Int)) (by rw [List.length_map]; exact hown')
        obtain ⟨Au, cu, e, _⟩ := this.form
        exact ⟨Au, cu, by rw [e, List.length_map]⟩
      subst hu
      have HI := Lib.hid (Elems.own (enc := Value.int .i64) (xs := l.map fun n : Nat => (n : Int)) (by rw [List.length_map]; exact hown'))
      have HJL := Lib.hid hjl
      clear hjl hown'
      go_wp2_with fail
      go_ret2
      exact ⟨Au, cu, rfl, HI.out, Bo7⟩
end Go.Proofs.YtjipibpcnheniaaDoor

namespace Go.Proofs.YtjipibpcnheniaaDoor
open Go.RowKit Go.Lib

set_option maxHeartbeats 1000000 in
theorem rWhere_no (v s c n t d r k g z e x : Int) (w : World) (h : fitsC v s c n t d r k g = false ∨ isTickB e = false ∨ x < 0 ∨ v ≤ x) : Calls Tryd.prog 17 #[.agg #[.int .i64 v, .int .i64 s, .int .i64 c, .int .i64 n, .int .i64 t, .int .i64 d, .int .i64 r, .int .i64 k, .int .i64 g, .int .u64 z], .int .i64 e, .int .i64 x] w fun o w' => o = .returned (.tuple #[.int .i64 0, .int .i64 0, .int .i64 0, .int .i64 1]) ∧ Below w.heap.size w w' := by
  have cF := fun W => rFits_eq (v := v) (s := s) (c := c) (n := n) (t := t) (d := d) (r := r) (k := k) (g := g) rfl z W
  unfold isTickB at h
  generalize fitsC v s c n t d r k g = f1 at *
  have q := RowAt.new w 24 #[.int .i64 v, .int .i64 s, .int .i64 c, .int .i64 n, .int .i64 t, .int .i64 d, .int .i64 r, .int .i64 k, .int .i64 g, .int .u64 z]
  have b0 := (Below.refl w.heap.size w).alloc (Nat.le_refl _) (.cells #[.int .i64 v, .int .i64 s, .int .i64 c, .int .i64 n, .int .i64 t, .int .i64 d, .int .i64 r, .int .i64 k, .int .i64 g, .int .u64 z] 24)
  go_enter Tryd.func17, Tryd.ntmps17
  go_upto_region 1 with (fail)
  generalize w.alloc (.cells #[.int .i64 v, .int .i64 s, .int .i64 c, .int .i64 n, .int .i64 t, .int .i64 d, .int .i64 r, .int .i64 k, .int .i64 g, .int .u64 z] 24) = w0 at *
  have y := q.cell
  have y0 := y 0
  have y1 := y 1
  have y2 := y 2
  have y3 := y 3
  have y4 := y 4
  have y5 := y 5
  have y6 := y 6
  have y7 := y 7
  have y8 := y 8
  have y9 := y 9
  simp only [List.getElem?_cons_zero, List.getElem?_cons_succ] at y0 y1 y2 y3 y4 y5 y6 y7 y8 y9
  clear y
  go_wp2_with fail
  with_reducible refine (cF _).mono ?_
  rintro o w1 ⟨rfl, b1⟩
  clear y0 y1 y2 y3 y4 y5 y6 y7 y8 y9 cF
  replace q := q.on b1
  have B1 := b0.trans (b1.mono b0.size)
  have y0 := q.cell 0
  simp only [List.getElem?_cons_zero] at y0
  clear b0 b1
  cases f1
  · go_wp2_with fail
    refine bodyPost_ret (v := .tuple #[.int .i64 0, .int .i64 0, .int .i64 0, .int .i64 1]) (by simp [results, Tryd.results17, go_sem]) rfl ?_
    exact ⟨rfl, B1⟩
  · by_cases h1 : e < 0
    · have g1 : (e < 0) = True := eq_true h1
      go_wp2_with fail
      refine bodyPost_ret (v := .tuple #[.int .i64 0, .int .i64 0, .int .i64 0, .int .i64 1]) (by simp [results, Tryd.results17, go_sem]) rfl ?_
      exact ⟨rfl, B1⟩
    · have g1 : (e < 0) = False := eq_false h1
      by_cases h2 : 1099511627776 < e
      · have g2 : (1099511627776 < e) = True := eq_true h2
        go_wp2_with fail
        refine bodyPost_ret (v := .tuple #[.int .i64 0, .int .i64 0, .int .i64 0, .int .i64 1]) (by simp [results, Tryd.results17, go_sem]) rfl ?_
        exact ⟨rfl, B1⟩
      · have g2 : (1099511627776 < e) = False := eq_false h2
        have h4 : x < 0 ∨ v ≤ x := by
          rcases h with h | h | h
          · cases h
          · simp at h; omega
          · exact h
        clear h
        by_cases h3 : x < 0
        · have g3 : (x < 0) = True := eq_true h3
          clear h4
          go_wp2_with fail
          refine bodyPost_ret (v := .tuple #[.int .i64 0, .int .i64 0, .int .i64 0, .int .i64 1]) (by simp [results, Tryd.results17, go_sem]) rfl ?_
          exact ⟨rfl, B1⟩
        · have g3 : (x < 0) = False := eq_false h3
          have g4 : (v ≤ x) = True := eq_true (by omega)
          clear h4
          go_wp2_with fail
          refine bodyPost_ret (v := .tuple #[.int .i64 0, .int .i64 0, .int .i64 0, .int .i64 1]) (by simp [results, Tryd.results17, go_sem]) rfl ?_
          exact ⟨rfl, B1⟩
set_option maxHeartbeats 2000000 in
set_option maxRecDepth 100000 in
theorem rWhere_yes (V S C N T D R K G Z e x : Nat) (w : World) (h : FitD V S C N T D R K G) (he : e ≤ 1099511627776) (hv : x < V) (j kk : Nat) (hj : backS (roundS V (foldB [Z, e])) K x = j) (hk : holdD V (numC S C) j = kk) :
    Calls Tryd.prog 17 #[.agg #[.int .i64 (V : Int), .int .i64 (S : Int), .int .i64 (C : Int), .int .i64 (N : Int), .int .i64 (T : Int), .int .i64 (D : Int), .int .i64 (R : Int), .int .i64 (K : Int), .int .i64 (G : Int), .int .u64 (Z : Int)], .int .i64 (e : Int), .int .i64 (x : Int)] w fun o w' => o = .returned (.tuple #[.int .i64 ((e * S + kk / C : Nat) : Int), .int .i64 ((kk % C : Nat) : Int), .int .i64 ((j - bndC V (numC S C) kk : Nat) : Int), .int .i64 0]) ∧ Below w.heap.size w w' := by
  obtain ⟨m1, m2⟩ := numC_bd h.s1 h.s2 h.c1 h.c2
  obtain ⟨v1, v2, k2, s1, s2, c1', c2'⟩ : 1 ≤ V ∧ V ≤ 1024 ∧ K ≤ 90 ∧ 1 ≤ S ∧ S ≤ 32 ∧ 1 ≤ C ∧ C ≤ 8 := ⟨h.v1, h.v2, h.k2, h.s1, h.s2, h.c1, h.c2⟩
  have hjV : j < V := by rw [← hj]; exact runS_lt stS_lt _ hv
  have cF : ∀ W, Calls Tryd.prog 42 #[.agg #[.int .i64 (V : Int), .int .i64 (S : Int), .int .i64 (C : Int), .int .i64 (N : Int), .int .i64 (T : Int), .int .i64 (D : Int), .int .i64 (R : Int), .int .i64 (K : Int), .int .i64 (G : Int), .int .u64 (Z : Int)]] W fun o w' => o = .returned (.bool true) ∧ Below W.heap.size W w' := fun W => rFits_eq h.fits Z W
  have cF0 := fun W (g : Nat) (hg : W.heap.size = g) => rFold_any [Z, e] _ _ (words2 W Z e 22 g hg) (by simp)
  have cB := fun W => rBack_yes V K (foldB [Z, e]) x W v1 (by omega) hv k2
  rw [hj] at cB
  have hkM : kk < numC S C := by rw [← hk]; exact hold_lt m1 hjV
  have hle : bndC V (numC S C) kk ≤ j := by rw [← hk]; exact hold_le m1
  have hgt : j < bndC V (numC S C) (kk + 1) := by rw [← hk]; exact hold_gt v1 m1
  have HBND := Lib.hid (fun (i : Nat) (hi : i ≤ kk) W => rbound_any V S C N T D R K G Z i W h (by omega))
  have HBN2 := Lib.hid (fun (i : Nat) (hi : i ≤ kk) W => rbound_any V S C N T D R K G Z (i + 1) W h (by omega))
  have HMONO := Lib.hid (fun (i : Nat) (hi : i + 1 ≤ kk) => show bndC V (numC S C) (i + 1) ≤ bndC V (numC S C) kk from Nat.div_le_div_right (Nat.mul_le_mul_left _ hi))
  generalize foldB [Z, e] = sd at *
  clear hj hk h
  have e1 : IntKind.u64.wrap (e : Int) = (e : Int) := IntWalk.u64_in _ (by omega)
  have i1 : ((e : Int) < 0) = False := eq_false (by omega)
  have i2 : (1099511627776 < (e : Int)) = False := eq_false (by omega)
  have i2' : (1099511627776 < e) = False := eq_false (by omega)
  have i3 : ((x : Int) < 0) = False := eq_false (by omega)
  have i4 : ((V : Int) ≤ (x : Int)) = False := eq_false (by omega)
  have i4' : (V ≤ x) = False := eq_false (by omega)
  have q := RowAt.new w 24 #[.int .i64 (V : Int), .int .i64 (S : Int), .int .i64 (C : Int), .int .i64 (N : Int), .int .i64 (T : Int), .int .i64 (D : Int), .int .i64 (R : Int), .int .i64 (K : Int), .int .i64 (G : Int), .int .u64 (Z : Int)]
  have b0 := (Below.refl w.heap.size w).alloc (Nat.le_refl _) (.cells #[.int .i64 (V : Int), .int .i64 (S : Int), .int .i64 (C : Int), .int .i64 (N : Int), .int .i64 (T : Int), .int .i64 (D : Int), .int .i64 (R : Int), .int .i64 (K : Int), .int .i64 (G : Int), .int .u64 (Z : Int)] 24)
  go_enter Tryd.func17, Tryd.ntmps17
  go_upto_region 1 with (fail)
  generalize w.alloc (.cells #[.int .i64 (V : Int), .int .i64 (S : Int), .int .i64 (C : Int), .int .i64 (N : Int), .int .i64 (T : Int), .int .i64 (D : Int), .int .i64 (R : Int), .int .i64 (K : Int), .int .i64 (G : Int), .int .u64 (Z : Int)] 24) = w0 at *
  have y := q.cell
  have y0 := y 0
  have y1 := y 1
  have y2 := y 2
  have y3 := y 3
  have y4 := y 4
  have y5 := y 5
  have y6 := y 6
  have y7 := y 7
  have y8 := y 8
  have y9 := y 9
  simp only [List.getElem?_cons_zero, List.getElem?_cons_succ] at y0 y1 y2 y3 y4 y5 y6 y7 y8 y9
  clear y
  go_wp2_with fail
  with_reducible refine (cF _).mono ?_
  rintro o w1 ⟨rfl, b1⟩
  clear y0 y1 y2 y3 y4 y5 y6 y7 y8 y9 cF
  replace q := q.on b1
  have B1 := b0.trans (b1.mono b0.size)
  clear b0 b1
  have y0 := q.cell 0
  have y9 := q.cell 9
  simp only [List.getElem?_cons_zero, List.getElem?_cons_succ] at y0 y9
  have bx := (Below.refl w1.heap.size w1).alloc (Nat.le_refl _) (.cells #[.int .u64 (Z : Int), .int .u64 (e : Int)] 22)
  have cF := cF0 w1 _ rfl
  clear cF0
  go_wp2_with fail
  with_reducible refine cF.mono ?_
  rintro o w5 ⟨rfl, b5⟩
  have bN := bx.trans (b5.mono bx.size)
  clear y0 y9
  replace q := q.on bN
  replace B1 := B1.trans (bN.mono B1.size)
  clear bN bx b5 cF
  have y := q.cell
  have y0 := y 0
  have y1 := y 1
  have y2 := y 2
  have y3 := y 3
  have y4 := y 4
  have y5 := y 5
  have y6 := y 6
  have y7 := y 7
  have y8 := y 8
  have y9 := y 9
  simp only [List.getElem?_cons_zero, List.getElem?_cons_succ] at y0 y1 y2 y3 y4 y5 y6 y7 y8 y9
  clear y
  go_wp2_with fail
  with_reducible refine (cB _).mono ?_
  rintro o w6 ⟨rfl, b1⟩
  clear y0 y1 y2 y3 y4 y5 y6 y7 y8 y9 cB
  replace q := q.on b1
  replace B1 := B1.trans (b1.mono B1.size)
  clear b1
  go_wp2_with fail
  go_loopw [14] (fun kv wr => ∃ i : Nat, i ≤ kk ∧ kv = .int .i64 (i : Int) ∧ Below w6.heap.size w6 wr) (fun kv _ => kk - (RowKit.intOf kv).toNat)
  case atStart => exact ⟨0, Nat.zero_le _, rfl, Below.refl _ _⟩
  case round =>
    obtain ⟨i, hi, rfl, hb⟩ := hrel
    replace q := q.on hb
    have Bo := B1.trans (hb.mono B1.size)
    have j1 : (i : Int) + 1 = ((i + 1 : Nat) : Int) := by omega
    have j2 : IntKind.i64.wrap ((i + 1 : Nat) : Int) = ((i + 1 : Nat) : Int) := wrap_small (by omega) (by omega)
    have cI := HBN2.out i hi wr
    obtain ⟨bi, hbi⟩ : ∃ bi, bndC V (numC S C) (i + 1) = bi := ⟨_, rfl⟩
    rw [hbi] at cI
    have HBI := Lib.hid hbi
    clear hbi
    obtain ⟨in_, hin⟩ : ∃ in_, i + 1 = in_ := ⟨_, rfl⟩
    rw [hin] at cI j1 j2
    have HIN := Lib.hid hin
    clear hin
    have y := q.cell
    have y0 := y 0
    have y1 := y 1
    have y2 := y 2
    have y3 := y 3
    have y4 := y 4
    have y5 := y 5
    have y6 := y 6
    have y7 := y 7
    have y8 := y 8
    have y9 := y 9
    simp only [List.getElem?_cons_zero, List.getElem?_cons_succ] at y0 y1 y2 y3 y4 y5 y6 y7 y8 y9
    clear y
    go_wp2_with fail
    with_reducible refine cI.mono ?_
    rintro o w7 ⟨rfl, b7⟩
    clear y0 y1 y2 y3 y4 y5 y6 y7 y8 y9 cI
    replace q := q.on b7
    have hb7 := hb.trans (b7.mono hb.size)
    have Bo7 := Bo.trans (b7.mono Bo.size)
    clear b7 hb Bo
    by_cases hlt : i < kk
    · have hm := HMONO.out i hlt
      have g1 : ((bi : Int) ≤ (j : Int)) = True := eq_true (by rw [HBI.out] at hm; omega)
      have g2 : (bi ≤ j) = True := eq_true (by rw [HBI.out] at hm; omega)
      clear hm
      go_wp2_with fail
      go_roundw
      case rel => exact ⟨i + 1, hlt, by rw [← HIN.out], hb7⟩
      case measure =>
        have h1 := HIN.out
        show kk - (in_ : Int).toNat < kk - (i : Int).toNat
        omega
    · obtain rfl : i = kk := by omega
      have hbi := HBI.out
      have g1 : ((bi : Int) ≤ (j : Int)) = False := eq_false (by omega)
      have g2 : (bi ≤ j) = False := eq_false (by omega)
      clear hbi
      go_upto_region 9 with (fail)
      have cK := HBND.out i (Nat.le_refl _)
      have p1 : (i : Int).tdiv (C : Int) = ((i / C : Nat) : Int) := tdiv_nat i C
      have p2 : (i : Int).tmod (C : Int) = ((i % C : Nat) : Int) := tmod_nat i C
      have p3 : ((C : Int) = 0) = False := eq_false (by omega)
      have p4 : (C = 0) = False := eq_false (by omega)
      have p5 : (e : Int) * (S : Int) = ((e * S : Nat) : Int) := (Int.natCast_mul _ _).symm
      have hES : e * S ≤ 1099511627776 * 32 := Nat.mul_le_mul he s2
      have hd9 : i / C ≤ i := Nat.div_le_self _ _
      have hm9 : i % C ≤ i := Nat.mod_le _ _
      have p6 : (j : Int) - (bndC V (numC S C) i : Int) = ((j - bndC V (numC S C) i : Nat) : Int) := by omega
      have p7 : ((e * S : Nat) : Int) + ((i / C : Nat) : Int) = ((e * S + i / C : Nat) : Int) := by omega
      have hle9 := hle
      clear HBND HBN2 HMONO HBI hle hgt
      obtain ⟨bk, hbk⟩ : ∃ bk, bndC V (numC S C) i = bk := ⟨_, rfl⟩
      rw [hbk] at cK p6
      have HBK := Lib.hid hbk
      rw [hbk] at hle9
      clear hbk
      obtain ⟨jb, hjb⟩ : ∃ jb, j - bk = jb := ⟨_, rfl⟩
      obtain ⟨so, hso⟩ : ∃ so, e * S + i / C = so := ⟨_, rfl⟩
      obtain ⟨dc, hdc⟩ : ∃ dc, i / C = dc := ⟨_, rfl⟩
      obtain ⟨mc, hmc⟩ : ∃ mc, i % C = mc := ⟨_, rfl⟩
      obtain ⟨eS, heS⟩ : ∃ eS, e * S = eS := ⟨_, rfl⟩
      rw [hjb] at p6
      rw [hso, hdc, heS] at p7
      rw [hdc] at p1 hd9
      rw [hmc] at p2 hm9
      rw [heS] at p5 hES
      have q1 : IntKind.i64.wrap (jb : Int) = (jb : Int) := wrap_small (by omega) (by omega)
      have q2 : IntKind.i64.wrap (so : Int) = (so : Int) := wrap_small (by omega) (by omega)
      have q3 : IntKind.i64.wrap (dc : Int) = (dc : Int) := wrap_small (by omega) (by omega)
      have q4 : IntKind.i64.wrap (mc : Int) = (mc : Int) := wrap_small (by omega) (by omega)
      have q5 : IntKind.i64.wrap (eS : Int) = (eS : Int) := wrap_small (by omega) (by omega)
      have HR := Lib.hid (And.intro hjb (And.intro hso hmc))
      clear hjb hso hdc hmc heS
      have y0 := q.later7 0 _ rfl
      have y1 := q.later7 1 _ rfl
      have y2 := q.later7 2 _ rfl
      have y3 := q.later7 3 _ rfl
      have y4 := q.later7 4 _ rfl
      have y5 := q.later7 5 _ rfl
      have y6 := q.later7 6 _ rfl
      have y7 := q.later7 7 _ rfl
      have y8 := q.later7 8 _ rfl
      have y9 := q.later7 9 _ rfl
      have HK := fun p : Later w7 => later_of (p := p) (cK p.W)
      refine wp_region_later (by kernel_rfl) (by kernel_rfl) ?_
      repeat (go_big_quiet_step (first | (go_at_call 34; with_reducible exact HK _)))
      refine wpQuiet_nil ?_
      intro _ hw'
      obtain ⟨pq, rfl⟩ := hw'
      go_wp2_with fail
      refine bodyPost_ret (v := .tuple #[.int .i64 (so : Int), .int .i64 (mc : Int), .int .i64 (jb : Int), .int .i64 0]) (by simp [results, Tryd.results17, go_sem]) rfl ?_
      exact ⟨by rw [HBK.out, HR.out.1, HR.out.2.1, HR.out.2.2], Bo7.trans (pq.h.mono Bo7.size)⟩
def selV (er : Int) (sm q : Nat) : Bool := decide (er = 0) && (decide (q = 0) || decide (sm % q = 0))
set_option maxHeartbeats 2000000 in
set_option maxRecDepth 100000 in
theorem rSelected_any (v s c n t d r k g z y : Int) (A : Option Addr) (pc : Nat) (f : Bool) (l : List Pr) (w : World) (hx : Prs w w.heap.size (.slice A l.length pc) l) (h9 : l.length ≤ maxLen) (hl : (encT f l).1.length ≤ 1000) (hy : I64K y) (bb : Bool)
    (hb : bb = if fitsC v s c n t d r k g = true ∧ 1 ≤ y then selD y.toNat g.toNat f l else false) :
    Calls Tryd.prog 23 #[.agg #[.int .i64 v, .int .i64 s, .int .i64 c, .int .i64 n, .int .i64 t, .int .i64 d, .int .i64 r, .int .i64 k, .int .i64 g, .int .u64 z], .int .i64 y, .agg #[.bool f, .slice A l.length pc]] w fun o w' => o = .returned (.bool bb) ∧ Below w.heap.size w w' := by
  have cF := fun W => rFits_eq (v := v) (s := s) (c := c) (n := n) (t := t) (d := d) (r := r) (k := k) (g := g) rfl z W
  have hfg : fitsC v s c n t d r k g = true → 1 ≤ g ∧ g ≤ 16 := fun h => by rw [fitsC_iff] at h; omega
  generalize fitsC v s c n t d r k g = f1 at *
  have q := (RowAt.new w 24 #[.int .i64 v, .int .i64 s, .int .i64 c, .int .i64 n, .int .i64 t, .int .i64 d, .int .i64 r, .int .i64 k, .int .i64 g, .int .u64 z]).alloc (.cells #[.bool f, .slice A l.length pc] 28)
  have qt := RowAt.new (w.alloc (.cells #[.int .i64 v, .int .i64 s, .int .i64 c, .int .i64 n, .int .i64 t, .int .i64 d, .int .i64 r, .int .i64 k, .int .i64 g, .int .u64 z] 24)) 28 #[.bool f, .slice A l.length pc]
  rw [World.size_alloc] at qt
  have b0 := ((Below.refl w.heap.size w).alloc (Nat.le_refl _) (.cells #[.int .i64 v, .int .i64 s, .int .i64 c, .int .i64 n, .int .i64 t, .int .i64 d, .int .i64 r, .int .i64 k, .int .i64 g, .int .u64 z] 24)).alloc (by simp) (.cells #[.bool f, .slice A l.length pc] 28)
  have hx1 := hx.on b0
  have cE := fun W (hX : Prs W W.heap.size (.slice A l.length pc) l) => rEncode_any (.agg #[.bool f, .slice A l.length pc]) f l W ⟨_, rfl, hX⟩ h9
  have hsz : ByteArray.size ⟨(encT f l).1.toArray⟩ ≤ 1000 := hl
  have cS := fun W => rSum_any ⟨(encT f l).1.toArray⟩ W hsz
  obtain ⟨sm, hsm⟩ : ∃ sm, moreH 14695981039346656037 (encT f l).1 = sm := ⟨_, rfl⟩
  have hsm2 : moreH 14695981039346656037 (ByteArray.mk (encT f l).1.toArray).data.toList = sm := hsm
  have hsmL : sm < 18446744073709551616 := by rw [← hsm]; exact moreH_lt (by decide) _
  rw [hsm2] at cS
  have hSel : selD y.toNat g.toNat f l = selV (encT f l).2 sm (y.toNat / g.toNat) := by unfold selD selV; rw [hsm]
  rw [hSel] at hb
  clear hSel hsm hsm2 hsz hl hx
  generalize ByteArray.mk (encT f l).1.toArray = bs at *
  generalize (encT f l).2 = er at *
  go_enter Tryd.func23, Tryd.ntmps23
  go_upto_region 1 with (fail)
  generalize (w.alloc (.cells #[.int .i64 v, .int .i64 s, .int .i64 c, .int .i64 n, .int .i64 t, .int .i64 d, .int .i64 r, .int .i64 k, .int .i64 g, .int .u64 z] 24)).alloc (.cells #[.bool f, .slice A l.length pc] 28) = w0 at *
  have y := q.cell
  have y0 := y 0
  have y1 := y 1
  have y2 := y 2
  have y3 := y 3
  have y4 := y 4
  have y5 := y 5
  have y6 := y 6
  have y7 := y 7
  have y8 := y 8
  have y9 := y 9
  simp only [List.getElem?_cons_zero, List.getElem?_cons_succ] at y0 y1 y2 y3 y4 y5 y6 y7 y8 y9
  clear y
  go_wp2_with fail
  with_reducible refine (cF _).mono ?_
  rintro o w1 ⟨rfl, b1⟩
  clear y0 y1 y2 y3 y4 y5 y6 y7 y8 y9 cF
  replace q := q.on b1
  replace qt := qt.on b1
  replace hx1 := hx1.on b1
  have B1 := b0.trans (b1.mono b0.size)
  clear b0 b1
  obtain ⟨t0, t1⟩ := qt.two
  have cE1 := cE _ hx1
  go_wp2_with fail
  with_reducible refine cE1.mono ?_
  rintro o w2 ⟨rfl, b1⟩
  clear t0 t1 cE cE1
  replace q := q.on b1
  replace B1 := B1.trans (b1.mono B1.size)
  clear b1 qt hx1
  have y8 := q.cell 8
  simp only [List.getElem?_cons_zero, List.getElem?_cons_succ] at y8
  cases f1
  · rw [if_neg (by simp)] at hb
    subst hb
    go_wp2_with fail
    go_ret
    exact ⟨rfl, B1⟩
  · obtain ⟨g1, g2⟩ := hfg rfl
    clear hfg
    by_cases hy1 : y < 1
    · have i1 : (y < 1) = True := eq_true hy1
      rw [if_neg (by omega)] at hb
      subst hb
      go_wp2_with fail
      go_ret
      exact ⟨rfl, B1⟩
    · have i1 : (y < 1) = False := eq_false hy1
      rw [if_pos ⟨rfl, by omega⟩] at hb
      obtain ⟨Y, rfl⟩ := Int.eq_ofNat_of_zero_le (show 0 ≤ y by omega)
      obtain ⟨Gn, rfl⟩ := Int.eq_ofNat_of_zero_le (show 0 ≤ g by omega)
      simp only [Int.toNat_natCast] at hb
      have e3 : (Y : Int).tdiv (Gn : Int) = ((Y / Gn : Nat) : Int) := tdiv_nat Y Gn
      have hq9 : Y / Gn ≤ Y := Nat.div_le_self _ _
      have i2 : (Y < 1) = False := eq_false (by omega)
      have hy2 : Y ≤ 9223372036854775807 := by have := hy.2; omega
      obtain ⟨by_, hby⟩ : ∃ by_, Y / Gn = by_ := ⟨_, rfl⟩
      rw [hby] at hb e3 hq9
      clear hby
      have e4 : IntKind.i64.wrap (by_ : Int) = (by_ : Int) := wrap_small (by omega) (by omega)
      have e5 : ((Gn : Int) = 0) = False := eq_false (by omega)
      have e6 : (Gn = 0) = False := eq_false (by omega)
      have e7 : IntKind.u64.wrap (by_ : Int) = (by_ : Int) := IntWalk.u64_in _ (by omega)
      have HB := Lib.hid hb
      clear hb
      by_cases he : er = 0
      · subst he
        rcases Nat.eq_zero_or_pos by_ with h0 | h0
        · subst h0
          go_wp2_with fail
          go_ret
          exact ⟨by rw [HB.out]; simp [selV], B1⟩
        · have n1 : ((by_ : Int) = 0) = False := eq_false (by omega)
          have n2 : (by_ = 0) = False := eq_false (by omega)
          have n3 : ((by_ : Int) == 0) = false := by rw [beq_eq_false_iff_ne]; omega
          have e8 : (sm : Int).tmod (by_ : Int) = ((sm % by_ : Nat) : Int) := tmod_nat sm by_
          have hm9 : sm % by_ ≤ sm := Nat.mod_le _ _
          obtain ⟨md, hmd⟩ : ∃ md, sm % by_ = md := ⟨_, rfl⟩
          rw [hmd] at e8 hm9
          have HMD := Lib.hid hmd
          clear hmd
          have e9 : IntKind.u64.wrap (md : Int) = (md : Int) := IntWalk.u64_in _ (by omega)
          rcases Nat.eq_zero_or_pos md with hm | hm
          · subst hm
            go_wp2_with (first | (with_reducible refine (cS _).mono ?_; rintro o w5 ⟨rfl, rfl⟩))
            go_ret
            exact ⟨by rw [HB.out]; simp [selV, HMD.out], B1⟩
          · have hm0 : md ≠ 0 := by omega
            have hb0 : by_ ≠ 0 := by omega
            have n4 : ((md : Int) = 0) = False := eq_false (by omega)
            have n5 : (md = 0) = False := eq_false hm0
            have n6 : ((md : Int) == 0) = false := by rw [beq_eq_false_iff_ne]; omega
            go_wp2_with (first | (with_reducible refine (cS _).mono ?_; rintro o w5 ⟨rfl, rfl⟩))
            go_ret
            exact ⟨by rw [HB.out]; simp [selV, HMD.out, hm0, hb0], B1⟩
      · have n1 : (er = 0) = False := eq_false he
        have n3 : (er == 0) = false := by rw [beq_eq_false_iff_ne]; exact he
        have n4 : (er != 0) = true := by rw [bne, n3]; rfl
        go_wp2_with fail
        go_ret
        exact ⟨by rw [HB.out]; simp [selV, he], B1⟩
/-! One answer of both sides. -/
theorem sel_both (v s c n t d r k g z y : Int) (Z : Nat) (hz : z = Z) (f : Bool) (l : List Pr) (h9 : l.length ≤ maxLen) (hl : (encT f l).1.length ≤ 1000) (hy : I64K y) : ∃ bb : Bool,
    (∀ (A : Option Addr) (pc : Nat) W, Both W → Prs W W.heap.size (.slice A l.length pc) l → Calls Tryd.prog 22 #[.agg #[.int .i64 v, .int .i64 s, .int .i64 c, .int .i64 n, .int .i64 t, .int .i64 d, .int .i64 r, .int .i64 k, .int .i64 g, .int .u64 z], .int .i64 y, .agg #[.bool f, .slice A l.length pc]] W fun o w' => o = .returned (.bool bb) ∧ Below W.heap.size W w') ∧
    (∀ (A : Option Addr) (pc : Nat) W, Prs W W.heap.size (.slice A l.length pc) l → Calls Tryd.prog 23 #[.agg #[.int .i64 v, .int .i64 s, .int .i64 c, .int .i64 n, .int .i64 t, .int .i64 d, .int .i64 r, .int .i64 k, .int .i64 g, .int .u64 z], .int .i64 y, .agg #[.bool f, .slice A l.length pc]] W fun o w' => o = .returned (.bool bb) ∧ Below W.heap.size W w') := by
  subst hz
  refine ⟨if fitsC v s c n t d r k g = true ∧ 1 ≤ y then selD y.toNat g.toNat f l else false, fun A pc W hW hX => ?_, fun A pc W hX => rSelected_any v s c n t d r k g Z y A pc f l W hX h9 hl hy _ rfl⟩
  by_cases hm : fitsC v s c n t d r k g = true ∧ 1 ≤ y
  · rw [if_pos hm]
    have hm2 := hm.2
    obtain ⟨V, S, C, N, T, D, R, K, G, rfl, rfl, rfl, rfl, rfl, rfl, rfl, rfl, rfl, hf⟩ := fit_nat hm.1
    obtain ⟨Y, rfl⟩ := Int.eq_ofNat_of_zero_le (show 0 ≤ y by omega)
    exact Selected_yes V S C N T D R K G Z Y A pc f l W hW hf (by omega) (by have := hy.2; omega) hX h9 hl
  · rw [if_neg hm]
    refine Selected_no v s c n t d r k g Z y _ f _ rfl W hW ?_
    by_cases hf : fitsC v s c n t d r k g = true
    · exact .inr (by have : ¬ 1 ≤ y := fun h1 => hm ⟨hf, h1⟩; omega)
    · exact .inl (Bool.eq_false_iff.2 hf)
theorem mem_both (v s c n t d r k g z x i : Int) (Z : Nat) (hz : z = Z) : ∃ (L : List Int) (er : Int), L.length ≤ 1000000 ∧
    (∀ W, Both W → Calls Tryd.prog 12 #[.agg #[.int .i64 v, .int .i64 s, .int .i64 c, .int .i64 n, .int .i64 t, .int .i64 d, .int .i64 r, .int .i64 k, .int .i64 g, .int .u64 z], .int .i64 x, .int .i64 i] W fun o w' => ∃ A cp, o = .returned (.tuple #[.slice A L.length cp, .int .i64 er]) ∧ Ints w' w'.heap.size (.slice A L.length cp) L ∧ Below W.heap.size W w') ∧
    (∀ W, Calls Tryd.prog 13 #[.agg #[.int .i64 v, .int .i64 s, .int .i64 c, .int .i64 n, .int .i64 t, .int .i64 d, .int .i64 r, .int .i64 k, .int .i64 g, .int .u64 z], .int .i64 x, .int .i64 i] W fun o w' => ∃ A cp, o = .returned (.tuple #[.slice A L.length cp, .int .i64 er]) ∧ Ints w' w'.heap.size (.slice A L.length cp) L ∧ Below W.heap.size W w') := by
  subst hz
  by_cases hm : mayD v s c n t d r k g x i = true
  · have hm2 := hm
    unfold mayD isTickB at hm2
    simp only [Bool.and_eq_true, decide_eq_true_eq] at hm2
    obtain ⟨⟨⟨hfi, hx0, hx1⟩, hi0⟩, hi1⟩ := hm2
    obtain ⟨V, S, C, N, T, D, R, K, G, rfl, rfl, rfl, rfl, rfl, rfl, rfl, rfl, rfl, hf⟩ := fit_nat hfi
    obtain ⟨X, rfl⟩ := Int.eq_ofNat_of_zero_le hx0
    obtain ⟨I, rfl⟩ := Int.eq_ofNat_of_zero_le hi0
    obtain ⟨l, hl⟩ : ∃ l, memL V K (foldB [Z, X / S]) (bndC V (numC S C) (numD S C X I)) (bndC V (numC S C) (numD S C X I + 1)) = l := ⟨_, rfl⟩
    have hlen : l.length ≤ 1024 := by
      have h1 := memL_length V K (foldB [Z, X / S]) (bndC V (numC S C) (numD S C X I)) (bndC V (numC S C) (numD S C X I + 1))
      have h2 := bnd_le (V := V) (k := numD S C X I + 1) (numC_bd hf.s1 hf.s2 hf.c1 hf.c2).1 (by have := numD_lt (x := X) hf.s1 (show I < C by omega); omega)
      rw [hl] at h1
      have := hf.v2
      omega
    refine ⟨l.map fun n : Nat => (n : Int), 0, by rw [List.length_map]; omega, fun W hW => ?_, fun W => ?_⟩
    · exact (Members_yes V S C N T D R K G Z X I W hW hf (by omega) (by omega) l hl).mono fun o w' ⟨gg, ho, hr, hB⟩ => ⟨some ⟨gg, 0, none⟩, l.length, by rw [List.length_map]; exact ho, by rw [List.length_map]; exact ints_row hr, hB⟩
    · exact (rMembers_yes V S C N T D R K G Z X I W hf (by omega) (by omega) l hl).mono fun o w' ⟨A, cp, ho, hr, hB⟩ => ⟨A, cp, by rw [List.length_map]; exact ho, by rw [List.length_map]; exact hr, hB⟩
  · have hm' := Bool.eq_false_iff.2 hm
    refine ⟨[], 1, by simp, fun W hW => ?_, fun W => ?_⟩
    · exact (Members_no v s c n t d r k g Z x i W hW (mayD_no hm')).mono fun o w' ⟨ho, hB⟩ => ⟨none, 0, ho, Elems.nil _ _ _, hB⟩
    · exact (rMembers_no v s c n t d r k g Z x i W hm').mono fun o w' ⟨ho, hB⟩ => ⟨none, 0, ho, Elems.nil _ _ _, hB⟩
theorem sub_both (v s c n t d r k g z x i : Int) (Z : Nat) (hz : z = Z) : ∃ a er : Int,
    (∀ W, Both W → Calls Tryd.prog 14 #[.agg #[.int .i64 v, .int .i64 s, .int .i64 c, .int .i64 n, .int .i64 t, .int .i64 d, .int .i64 r, .int .i64 k, .int .i64 g, .int .u64 z], .int .i64 x, .int .i64 i] W fun o w' => o = .returned (.tuple #[.int .i64 a, .int .i64 er]) ∧ Below W.heap.size W w') ∧
    (∀ W, Calls Tryd.prog 15 #[.agg #[.int .i64 v, .int .i64 s, .int .i64 c, .int .i64 n, .int .i64 t, .int .i64 d, .int .i64 r, .int .i64 k, .int .i64 g, .int .u64 z], .int .i64 x, .int .i64 i] W fun o w' => o = .returned (.tuple #[.int .i64 a, .int .i64 er]) ∧ Below W.heap.size W w') := by
  subst hz
  by_cases hm : mayD v s c n t d r k g x i = true
  · have hm2 := hm
    unfold mayD isTickB at hm2
    simp only [Bool.and_eq_true, decide_eq_true_eq] at hm2
    obtain ⟨⟨⟨hfi, hx0, hx1⟩, hi0⟩, hi1⟩ := hm2
    obtain ⟨V, S, C, N, T, D, R, K, G, rfl, rfl, rfl, rfl, rfl, rfl, rfl, rfl, rfl, hf⟩ := fit_nat hfi
    obtain ⟨X, rfl⟩ := Int.eq_ofNat_of_zero_le hx0
    obtain ⟨I, rfl⟩ := Int.eq_ofNat_of_zero_le hi0
    exact ⟨_, 0, fun W hW => Subnet_yes V S C N T D R K G Z X I W hW hf (by omega) (by omega), fun W => rSubnet_yes V S C N T D R K G Z X I W hf (by omega) (by omega)⟩
  · have hm' := Bool.eq_false_iff.2 hm
    exact ⟨0, 1, fun W hW => Subnet_no v s c n t d r k g Z x i W hW (mayD_no hm'), fun W => rSubnet_no v s c n t d r k g Z x i W hm'⟩
theorem where_both (v s c n t d r k g z e x : Int) (Z : Nat) (hz : z = Z) : ∃ a0 a1 a2 er : Int,
    (∀ W, Both W → Calls Tryd.prog 16 #[.agg #[.int .i64 v, .int .i64 s, .int .i64 c, .int .i64 n, .int .i64 t, .int .i64 d, .int .i64 r, .int .i64 k, .int .i64 g, .int .u64 z], .int .i64 e, .int .i64 x] W fun o w' => o = .returned (.tuple #[.int .i64 a0, .int .i64 a1, .int .i64 a2, .int .i64 er]) ∧ Below W.heap.size W w') ∧
    (∀ W, Calls Tryd.prog 17 #[.agg #[.int .i64 v, .int .i64 s, .int .i64 c, .int .i64 n, .int .i64 t, .int .i64 d, .int .i64 r, .int .i64 k, .int .i64 g, .int .u64 z], .int .i64 e, .int .i64 x] W fun o w' => o = .returned (.tuple #[.int .i64 a0, .int .i64 a1, .int .i64 a2, .int .i64 er]) ∧ Below W.heap.size W w') := by
  subst hz
  by_cases hfi : fitsC v s c n t d r k g = true
  · by_cases ht : isTickB e = true
    · obtain ⟨V, S, C, N, T, D, R, K, G, rfl, rfl, rfl, rfl, rfl, rfl, rfl, rfl, rfl, hf⟩ := fit_nat hfi
      have ht2 := ht
      unfold isTickB at ht2
      simp only [Bool.and_eq_true, decide_eq_true_eq] at ht2
      obtain ⟨E, rfl⟩ := Int.eq_ofNat_of_zero_le ht2.1
      by_cases hx : 0 ≤ x ∧ x < (V : Int)
      · obtain ⟨X, rfl⟩ := Int.eq_ofNat_of_zero_le hx.1
        exact ⟨_, _, _, 0, fun W hW => Where_yes V S C N T D R K G Z E X W hW hf (by omega) (by omega) _ _ rfl rfl, fun W => rWhere_yes V S C N T D R K G Z E X W hf (by omega) (by omega) _ _ rfl rfl⟩
      · have hx2 : x < 0 ∨ (V : Int) ≤ x := by omega
        exact ⟨0, 0, 0, 1, fun W hW => Where_not V S C N T D R K G Z E x W hW hf (by omega) hx2, fun W => rWhere_no V S C N T D R K G Z E x W (.inr (.inr hx2))⟩
    · have ht' := Bool.eq_false_iff.2 ht
      exact ⟨0, 0, 0, 1, fun W hW => Where_no v s c n t d r k g e x Z W hW (.inr ht'), fun W => rWhere_no v s c n t d r k g Z e x W (.inr (.inl ht'))⟩
  · have hf' := Bool.eq_false_iff.2 hfi
    exact ⟨0, 0, 0, 1, fun W hW => Where_no v s c n t d r k g e x Z W hW (.inl hf'), fun W => rWhere_no v s c n t d r k g Z e x W (.inl hf')⟩
end Go.Proofs.YtjipibpcnheniaaDoor
