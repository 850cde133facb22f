/- Package duty: a committee's number, its members.
   Package duty: the members of a committee. -/
import Derived.Test.YtjipibpcnheniaaDoorDutA
namespace Go.Proofs.YtjipibpcnheniaaDoor
open Go.RowKit Go.Lib

/-- A committee's number. -/
def numD (S C x i : Nat) : Nat := x % S * C + i
theorem numD_lt {S C x i : Nat} (hS : 1 ≤ S) (hi : i < C) : numD S C x i < numC S C := by
  unfold numD numC
  have h1 : x % S + 1 ≤ S := Nat.mod_lt _ hS
  have h2 : (x % S + 1) * C ≤ S * C := Nat.mul_le_mul_right _ h1
  rw [Nat.succ_mul] at h2
  omega
set_option maxHeartbeats 1000000 in
theorem committee_yes (V S C N T D R K G Z x i : Nat) (w : World) (hT : Both w) (h : FitD V S C N T D R K G) (hx : x ≤ 1099511627776) (hi : i < C) :
    Calls Tryd.prog 27 #[.agg #[.int .i64 (V : Int), .int .i64 (S : Int), .int .i64 (C : Int), .int .i64 (N : Int), .int .i64 (T : Int), .int .i64 (D : Int), .int .i64 (R : Int), .int .i64 (K : Int), .int .i64 (G : Int), .int .u64 (Z : Int)], .int .i64 (x : Int), .int .i64 (i : Int)] w fun e w' => e = .returned (.tuple #[.int .i64 (numD S C x i : Int), .int .i64 0]) ∧ Below w.heap.size w w' := by
  have b0 := (Below.refl w.heap.size w).alloc (Nat.le_refl _) (.cells #[.int .i64 (V : Int), .int .i64 (S : Int), .int .i64 (C : Int), .int .i64 (N : Int), .int .i64 (T : Int), .int .i64 (D : Int), .int .i64 (R : Int), .int .i64 (K : Int), .int .i64 (G : Int), .int .u64 (Z : Int)] 24)
  have q := RowAt.new w 24 #[.int .i64 (V : Int), .int .i64 (S : Int), .int .i64 (C : Int), .int .i64 (N : Int), .int .i64 (T : Int), .int .i64 (D : Int), .int .i64 (R : Int), .int .i64 (K : Int), .int .i64 (G : Int), .int .u64 (Z : Int)]
  have cF := Fits_eq h.fits (Z : Int) _ (hT.2.below b0 hT.2.lt)
  have hxt : isTickB (x : Int) = true := by unfold isTickB; rw [decide_eq_true (by omega), decide_eq_true (by omega)]; rfl
  have cM := fun W => mayBe_any (x : Int) W
  rw [hxt] at cM
  obtain ⟨h1, h2, h3, h4⟩ : 1 ≤ S ∧ S ≤ 32 ∧ 1 ≤ C ∧ C ≤ 8 := ⟨h.s1, h.s2, h.c1, h.c2⟩
  have g1 : ((i : Int) < 0) = False := eq_false (by omega)
  have g2 : ((C : Int) ≤ (i : Int)) = False := eq_false (by omega)
  have g3 : (C ≤ i) = False := eq_false (by omega)
  have e1 : (x : Int).tmod (S : Int) = ((x % S : Nat) : Int) := tmod_nat x S
  have hm : x % S < S := Nat.mod_lt _ h1
  have e4 : ((S : Int) = 0) = False := eq_false (by omega)
  have e5 : (S = 0) = False := eq_false (by omega)
  have e6 : IntKind.i64.wrap ((x % S : Nat) : Int) = ((x % S : Nat) : Int) := wrap_small (Int.natCast_nonneg _) (by omega)
  have e7 : ((x % S : Nat) : Int) * (C : Int) = ((x % S * C : Nat) : Int) := (Int.natCast_mul _ _).symm
  have hP : x % S * C ≤ 31 * 8 := Nat.mul_le_mul (by omega) h4
  unfold numD
  have hs1 : IntKind.i64.wrap (x : Int) = (x : Int) := wrap_small (by omega) (by omega)
  generalize x % S = X at *
  generalize X * C = P at *
  have e8 : IntKind.i64.wrap (P : Int) = (P : Int) := wrap_small (by omega) (by omega)
  have e9 : (P : Int) + (i : Int) = ((P + i : Nat) : Int) := (Int.natCast_add _ _).symm
  obtain ⟨Q, hQ⟩ : ∃ Q, P + i = Q := ⟨_, rfl⟩
  have hQ9 : Q ≤ 1000 := by omega
  rw [hQ] at e9 ⊢
  have e10 : IntKind.i64.wrap (Q : Int) = (Q : Int) := wrap_small (by omega) (by omega)
  clear hQ hxt
  go_enter Tryd.func27, Tryd.ntmps27
  go_wp2_with fail
  with_reducible refine cF.mono ?_
  rintro e w1 ⟨rfl, b1⟩
  have c1 : w1.cell? ⟨w.heap.size, 1, none⟩ = some (.int .i64 (S : Int)) := (q.on b1).cell 1
  have c2 : w1.cell? ⟨w.heap.size, 2, none⟩ = some (.int .i64 (C : Int)) := (q.on b1).cell 2
  go_wp2_with fail
  with_reducible refine (cM _).mono ?_
  rintro e w2 ⟨rfl, rfl⟩
  go_wp2_with fail
  go_quiet (fail)
  go_wp2_with fail
  refine bodyPost_ret (v := .tuple #[.int .i64 (Q : Int), .int .i64 0]) (by simp [results, Tryd.results27, go_sem]) rfl ?_
  have B := b0.trans (b1.mono b0.size)
  exact ⟨rfl, ⟨B.os, B.tape, B.output, B.size, B.block⟩⟩
set_option maxHeartbeats 1000000 in
theorem committee_no (v s c n t d r k g z x i : Int) (w : World) (hT : Both w) (h : fitsC v s c n t d r k g = false ∨ isTickB x = false ∨ i < 0 ∨ c ≤ i) :
    Calls Tryd.prog 27 #[.agg #[.int .i64 v, .int .i64 s, .int .i64 c, .int .i64 n, .int .i64 t, .int .i64 d, .int .i64 r, .int .i64 k, .int .i64 g, .int .u64 z], .int .i64 x, .int .i64 i] w fun e w' => e = .returned (.tuple #[.int .i64 0, .int .i64 1]) ∧ Below w.heap.size w w' := by
  have b0 := (Below.refl w.heap.size w).alloc (Nat.le_refl _) (.cells #[.int .i64 v, .int .i64 s, .int .i64 c, .int .i64 n, .int .i64 t, .int .i64 d, .int .i64 r, .int .i64 k, .int .i64 g, .int .u64 z] 24)
  have q := RowAt.new w 24 #[.int .i64 v, .int .i64 s, .int .i64 c, .int .i64 n, .int .i64 t, .int .i64 d, .int .i64 r, .int .i64 k, .int .i64 g, .int .u64 z]
  obtain ⟨fit, hf⟩ : ∃ fit, fitsC v s c n t d r k g = fit := ⟨_, rfl⟩
  have cF := Fits_eq hf z _ (hT.2.below b0 hT.2.lt)
  obtain ⟨xt, hxt⟩ : ∃ xt, isTickB x = xt := ⟨_, rfl⟩
  have cM := fun W => mayBe_any x W
  rw [hxt] at cM
  rw [hf, hxt] at h
  go_enter Tryd.func27, Tryd.ntmps27
  go_wp2_with fail
  with_reducible refine cF.mono ?_
  rintro e w1 ⟨rfl, b1⟩
  have c2 : w1.cell? ⟨w.heap.size, 2, none⟩ = some (.int .i64 c) := (q.on b1).cell 2
  cases fit
  · go_wp2_with fail
    refine bodyPost_ret (v := .tuple #[.int .i64 0, .int .i64 1]) (by simp [results, Tryd.results27, go_sem]) rfl ?_
    exact ⟨rfl, b0.trans (b1.mono b0.size)⟩
  · go_wp2_with fail
    with_reducible refine (cM _).mono ?_
    rintro e w2 ⟨rfl, rfl⟩
    cases xt
    · go_wp2_with fail
      refine bodyPost_ret (v := .tuple #[.int .i64 0, .int .i64 1]) (by simp [results, Tryd.results27, go_sem]) rfl ?_
      exact ⟨rfl, b0.trans (b1.mono b0.size)⟩
    · by_cases h0 : i < 0
      · have g1 : (i < 0) = True := eq_true h0
        go_wp2_with fail
        refine bodyPost_ret (v := .tuple #[.int .i64 0, .int .i64 1]) (by simp [results, Tryd.results27, go_sem]) rfl ?_
        exact ⟨rfl, b0.trans (b1.mono b0.size)⟩
      · have g1 : (i < 0) = False := eq_false h0
        have g2 : (c ≤ i) = True := eq_true (by rcases h with h | h | h | h <;> first | cases h | (exfalso; omega) | exact h)
        go_wp2_with fail
        refine bodyPost_ret (v := .tuple #[.int .i64 0, .int .i64 1]) (by simp [results, Tryd.results27, go_sem]) rfl ?_
        exact ⟨rfl, b0.trans (b1.mono b0.size)⟩
/-- The members of the committee that begins at a and ends ahead of b. -/
def memL (V K sd a b : Nat) : List Nat := (List.range' a (b - a)).map fun j => placeS (roundS V sd) K j
theorem memL_length (V K sd a b : Nat) : (memL V K sd a b).length = b - a := by simp [memL]
theorem bnd_mono {V M k : Nat} : bndC V M k ≤ bndC V M (k + 1) := Nat.div_le_div_right (Nat.mul_le_mul_left _ (Nat.le_succ _))
theorem bnd_le {V M k : Nat} (hM : 1 ≤ M) (hk : k ≤ M) : bndC V M k ≤ V := by
  unfold bndC
  have : V * k ≤ V * M := Nat.mul_le_mul_left _ hk
  have h2 := Nat.div_le_div_right (c := M) this
  rwa [Nat.mul_div_cancel _ hM] at h2
/-- The first i of them laid, the others zero. -/
def fillM (l : List Nat) (i : Nat) : List Nat := l.take i ++ List.replicate (l.length - i) 0
theorem fillM_zero (l : List Nat) : fillM l 0 = List.replicate l.length 0 := by simp [fillM]
theorem fillM_all (l : List Nat) : fillM l l.length = l := by simp [fillM]
theorem fillM_set {l : List Nat} {i : Nat} (h : i < l.length) : (fillM l i).set i l[i] = fillM l (i + 1) := by
  unfold fillM
  rw [List.set_append_right _ _ (by rw [List.length_take]; omega), List.length_take, Nat.min_eq_left (by omega), Nat.sub_self, show l.length - i = (l.length - (i + 1)) + 1 by omega, List.replicate_succ, List.set_cons_zero, List.take_succ_eq_append_getElem h, List.append_assoc]
  rfl
theorem fillM_length {l : List Nat} {i : Nat} (h : i ≤ l.length) : (fillM l i).length = l.length := by
  unfold fillM
  rw [List.length_append, List.length_take, List.length_replicate]; omega
end Go.Proofs.YtjipibpcnheniaaDoor

namespace Go.Proofs.YtjipibpcnheniaaDoor
open Go.RowKit Go.Lib

theorem both_set {w : World} {G : Nat} (h : Both w) (hG : 1 < G ∧ 0 < G) (i : Nat) (u : Value) : Both (w.setCell ⟨G, i, none⟩ u) := by
  have far : ∀ {p : Addr} {x : Value} (_ : w.cell? p = some x) (_ : G ≠ p.block), (w.setCell ⟨G, i, none⟩ u).cell? p = some x := fun h hne => (World.cell?_setCell_other _ _ _ _ (fun e => hne (by rw [← e]))).trans h
  obtain ⟨⟨t0, t1, t2⟩, hs⟩ := h
  have n1 : G ≠ 1 := by omega
  have n2 : G ≠ 0 := by omega
  exact ⟨⟨far t0 n1, far t1 n1, far t2 n1⟩, fun j hj => far (hs j hj) n2⟩
set_option maxHeartbeats 2000000 in
set_option maxRecDepth 100000 in
theorem members_any (V S C N T D R K G Z e kk : Nat) (w : World) (hT : Both w) (h : FitD V S C N T D R K G) (he : e ≤ 1099511627776) (hk : kk < numC S C) :
    Calls Tryd.prog 30 #[.agg #[.int .i64 (V : Int), .int .i64 (S : Int), .int .i64 (C : Int), .int .i64 (N : Int), .int .i64 (T : Int), .int .i64 (D : Int), .int .i64 (R : Int), .int .i64 (K : Int), .int .i64 (G : Int), .int .u64 (Z : Int), .int .i64 (e : Int)], .int .i64 (kk : Int)] w fun o w' => ∃ gg : Nat, o = .returned (.slice (some ⟨gg, 0, none⟩) (memL V K (foldB [Z, e]) (bndC V (numC S C) kk) (bndC V (numC S C) (kk + 1))).length (memL V K (foldB [Z, e]) (bndC V (numC S C) kk) (bndC V (numC S C) (kk + 1))).length) ∧
      RowAt w' gg 3 (intsV (memL V K (foldB [Z, e]) (bndC V (numC S C) kk) (bndC V (numC S C) (kk + 1)))) ∧ Below w.heap.size w w' := by
  have HGw : 1 < w.heap.size ∧ 0 < w.heap.size := ⟨hT.1.lt, hT.2.lt⟩
  obtain ⟨m1, m2⟩ := numC_bd h.s1 h.s2 h.c1 h.c2
  obtain ⟨v1, v2, k2⟩ : 1 ≤ V ∧ V ≤ 1024 ∧ K ≤ 90 := ⟨h.v1, h.v2, h.k2⟩
  have cF1 := fun W => first_any V S C N T D R K G Z kk (e : Int) W h (by omega)
  have cF2 := fun W => first_any V S C N T D R K G Z (kk + 1) (e : Int) W h (by omega)
  have ek : ((kk + 1 : Nat) : Int) = (kk : Int) + 1 := rfl
  rw [ek] at cF2
  clear ek
  have cS := fun W hW => seed_any V S C N T D R K G Z e W hW he
  have hab : bndC V (numC S C) kk ≤ bndC V (numC S C) (kk + 1) := bnd_mono
  have hbV : bndC V (numC S C) (kk + 1) ≤ V := bnd_le m1 hk
  have hsd : foldB [Z, e] < 18446744073709551616 := foldB_lt _
  generalize foldB [Z, e] = sd at *
  generalize bndC V (numC S C) kk = a at *
  generalize bndC V (numC S C) (kk + 1) = b at *
  obtain ⟨l, hl⟩ : ∃ l, memL V K sd a b = l := ⟨_, rfl⟩
  have hll : l.length = b - a := by rw [← hl, memL_length]
  have hgl : ∀ i (hi : i < l.length), l[i] = placeS (roundS V sd) K (a + i) := fun i hi => by
    simp only [← hl, memL, List.getElem_map, List.getElem_range', Nat.one_mul]
  rw [hl]
  have HGL := Lib.hid hgl
  clear hl hgl
  obtain ⟨nn, hnn⟩ : ∃ nn, l.length = nn := ⟨_, rfl⟩
  rw [hnn] at hll
  have HNN := Lib.hid hnn
  have e1 : IntKind.i64.wrap ((kk : Int) + 1) = (kk : Int) + 1 := wrap_small (by omega) (by omega)
  have e2 : (b : Int) - (a : Int) = (nn : Int) := by omega
  have e3 : IntKind.i64.wrap (nn : Int) = (nn : Int) := wrap_small (by omega) (by omega)
  rw [hnn]
  have hle : a + nn ≤ b := by omega
  clear hnn hll
  obtain ⟨i0, hi, hz0, hz1, hz2⟩ := info_parts info_int
  obtain ⟨ZZ, hZ⟩ : ∃ ZZ, ZZ = madeCells (Value.int .i64 0).cells (nn * i0.size) := ⟨_, rfl⟩
  have hZs : ZZ.toList = List.replicate nn (.int .i64 0) := by rw [hZ, hz1, Nat.mul_one]; exact toList_madeCells_one _ _
  have hmk : ∀ W : World, (Instr.makeSlice 29 (.int .i64 (nn : Int)) (.int .i64 (nn : Int))).run Tryd.prog W = .ok (.slice (some ⟨W.heap.size, 0, none⟩) nn nn) (W.alloc (.cells ZZ 3)) := fun W => by
    have hr := run_make (P := Tryd.prog) W 29 3 i0 (.int .i64 0) Tryd.underlying29 hi hz0 .i64 .i64 (nn : Int) (nn : Int) (by omega) (by omega) (by rw [hz2]; omega) (by omega)
    rw [hZ]
    simpa using hr
  clear hZ hi hz0 hz1 hz2
  have q := RowAt.new w 59 #[.int .i64 (V : Int), .int .i64 (S : Int), .int .i64 (C : Int), .int .i64 (N : Int), .int .i64 (T : Int), .int .i64 (D : Int), .int .i64 (R : Int), .int .i64 (K : Int), .int .i64 (G : Int), .int .u64 (Z : Int), .int .i64 (e : Int)]
  have b0 := (Below.refl w.heap.size w).alloc (Nat.le_refl _) (.cells #[.int .i64 (V : Int), .int .i64 (S : Int), .int .i64 (C : Int), .int .i64 (N : Int), .int .i64 (T : Int), .int .i64 (D : Int), .int .i64 (R : Int), .int .i64 (K : Int), .int .i64 (G : Int), .int .u64 (Z : Int), .int .i64 (e : Int)] 59)
  have hT0 : Both (w.alloc (.cells #[.int .i64 (V : Int), .int .i64 (S : Int), .int .i64 (C : Int), .int .i64 (N : Int), .int .i64 (T : Int), .int .i64 (D : Int), .int .i64 (R : Int), .int .i64 (K : Int), .int .i64 (G : Int), .int .u64 (Z : Int), .int .i64 (e : Int)] 59)) := ⟨hT.1.below b0 hT.1.lt, hT.2.below b0 hT.2.lt⟩
  have y0 := q.later7 0 _ rfl
  have y1 := q.later7 1 _ rfl
  have y2 := q.later7 2 _ rfl
  have y3 := q.later7 3 _ rfl
  have y4 := q.later7 4 _ rfl
  have y5 := q.later7 5 _ rfl
  have y6 := q.later7 6 _ rfl
  have y7 := q.later7 7 _ rfl
  have y8 := q.later7 8 _ rfl
  have y9 := q.later7 9 _ rfl
  have y10 := q.later7 10 _ rfl
  have HS : ∀ p : Later (w.alloc (.cells #[.int .i64 (V : Int), .int .i64 (S : Int), .int .i64 (C : Int), .int .i64 (N : Int), .int .i64 (T : Int), .int .i64 (D : Int), .int .i64 (R : Int), .int .i64 (K : Int), .int .i64 (G : Int), .int .u64 (Z : Int), .int .i64 (e : Int)] 59)), Calls Tryd.prog 39 #[.agg #[.int .i64 (V : Int), .int .i64 (S : Int), .int .i64 (C : Int), .int .i64 (N : Int), .int .i64 (T : Int), .int .i64 (D : Int), .int .i64 (R : Int), .int .i64 (K : Int), .int .i64 (G : Int), .int .u64 (Z : Int), .int .i64 (e : Int)]] p.W fun o w_ => o = .returned (.int .u64 (sd : Int)) ∧ ∃ p : Later (w.alloc (.cells #[.int .i64 (V : Int), .int .i64 (S : Int), .int .i64 (C : Int), .int .i64 (N : Int), .int .i64 (T : Int), .int .i64 (D : Int), .int .i64 (R : Int), .int .i64 (K : Int), .int .i64 (G : Int), .int .u64 (Z : Int), .int .i64 (e : Int)] 59)), w_ = p.W := fun p => later_of (cS _ (hT0.on p.h).1)
  have HF : ∀ p : Later (w.alloc (.cells #[.int .i64 (V : Int), .int .i64 (S : Int), .int .i64 (C : Int), .int .i64 (N : Int), .int .i64 (T : Int), .int .i64 (D : Int), .int .i64 (R : Int), .int .i64 (K : Int), .int .i64 (G : Int), .int .u64 (Z : Int), .int .i64 (e : Int)] 59)), Calls Tryd.prog 41 #[.agg #[.int .i64 (V : Int), .int .i64 (S : Int), .int .i64 (C : Int), .int .i64 (N : Int), .int .i64 (T : Int), .int .i64 (D : Int), .int .i64 (R : Int), .int .i64 (K : Int), .int .i64 (G : Int), .int .u64 (Z : Int), .int .i64 (e : Int)], .int .i64 (kk : Int)] p.W fun o w_ => o = .returned (.int .i64 (a : Int)) ∧ ∃ p : Later (w.alloc (.cells #[.int .i64 (V : Int), .int .i64 (S : Int), .int .i64 (C : Int), .int .i64 (N : Int), .int .i64 (T : Int), .int .i64 (D : Int), .int .i64 (R : Int), .int .i64 (K : Int), .int .i64 (G : Int), .int .u64 (Z : Int), .int .i64 (e : Int)] 59)), w_ = p.W := fun p => later_of (cF1 _)
  go_enter Tryd.func30, Tryd.ntmps30
  go_wp2_with fail
  refine wp_region_later (by kernel_rfl) (by kernel_rfl) ?_
  repeat (go_big_quiet_step (first | (go_at_call 39; exact HS _) | (go_at_call 41; exact HF _)))
  refine wpQuiet_nil ?_
  intro _ hw'
  obtain ⟨pq, rfl⟩ := hw'
  have b1 := pq.h
  generalize pq.W = w1 at b1 ⊢
  clear pq HS HF y0 y1 y2 y3 y4 y5 y6 y7 y8 y9 y10 cF1 cS
  replace q := q.on b1
  replace hT := hT0.on b1
  have B1 := b0.trans (b1.mono b0.size)
  have hgB := q.lt
  clear b0 b1 hT0
  have z0 : w1.cell? ⟨w.heap.size, 0, none⟩ = some (.int .i64 (V : Int)) := q.cell 0
  have z1 : w1.cell? ⟨w.heap.size, 1, none⟩ = some (.int .i64 (S : Int)) := q.cell 1
  have z2 : w1.cell? ⟨w.heap.size, 2, none⟩ = some (.int .i64 (C : Int)) := q.cell 2
  have z3 : w1.cell? ⟨w.heap.size, 3, none⟩ = some (.int .i64 (N : Int)) := q.cell 3
  have z4 : w1.cell? ⟨w.heap.size, 4, none⟩ = some (.int .i64 (T : Int)) := q.cell 4
  have z5 : w1.cell? ⟨w.heap.size, 5, none⟩ = some (.int .i64 (D : Int)) := q.cell 5
  have z6 : w1.cell? ⟨w.heap.size, 6, none⟩ = some (.int .i64 (R : Int)) := q.cell 6
  have z7 : w1.cell? ⟨w.heap.size, 7, none⟩ = some (.int .i64 (K : Int)) := q.cell 7
  have z8 : w1.cell? ⟨w.heap.size, 8, none⟩ = some (.int .i64 (G : Int)) := q.cell 8
  have z9 : w1.cell? ⟨w.heap.size, 9, none⟩ = some (.int .u64 (Z : Int)) := q.cell 9
  have z10 : w1.cell? ⟨w.heap.size, 10, none⟩ = some (.int .i64 (e : Int)) := q.cell 10
  go_wp2_with fail
  with_reducible refine (cF2 _).mono ?_
  rintro o w2 ⟨rfl, b2⟩
  replace q := q.on b2
  replace hT := hT.on b2
  have B2 := B1.trans (b2.mono B1.size)
  clear b2 B1 cF2 z0 z1 z2 z3 z4 z5 z6 z7 z8 z9 z10
  go_wp2_with fail
  obtain ⟨w3, hw3⟩ : ∃ w3, w3 = w2.alloc (.cells ZZ 3) := ⟨_, rfl⟩
  have b3 : Below w2.heap.size w2 w3 := by rw [hw3]; exact (Below.refl _ _).alloc (Nat.le_refl _) _
  have rL : RowAt w3 w2.heap.size 3 (intsV (fillM l 0)) := by
    have := RowAt.new w2 3 ZZ
    rw [hZs, ← HNN.out, ← intsV_zero, ← fillM_zero] at this
    rw [hw3]; exact this
  have hgS : w.heap.size < w2.heap.size := q.lt
  replace q := q.on b3
  replace hT := hT.on b3
  have B3 := B2.trans (b3.mono B2.size)
  rw [← hw3]
  clear hw3 hZs hmk b3
  generalize hgL : w2.heap.size = gL at *
  clear hgL
  have HL := Lib.hid (show gL < w3.heap.size from rL.lt)
  go_loopw [23] (fun iv wr => ∃ i : Nat, i ≤ nn ∧ iv = .int .i64 (i : Int) ∧ RowAt wr gL 3 (intsV (fillM l i)) ∧ RowAt wr w.heap.size 59 [.int .i64 (V : Int), .int .i64 (S : Int), .int .i64 (C : Int), .int .i64 (N : Int), .int .i64 (T : Int), .int .i64 (D : Int), .int .i64 (R : Int), .int .i64 (K : Int), .int .i64 (G : Int), .int .u64 (Z : Int), .int .i64 (e : Int)] ∧ Both wr ∧ Below w.heap.size w wr) (fun iv _ => nn - (intOf iv).toNat)
  case atStart => exact ⟨0, Nat.zero_le _, rfl, rL, q, hT, B3⟩
  case round =>
    obtain ⟨i, hin, rfl, rW, qW, hTW, bW⟩ := hrel
    clear q hT B3 rL B2
    by_cases hlt : i < nn
    · have hli : i < l.length := by rw [HNN.out]; exact hlt
      have g1 : ((i : Int) < (nn : Int)) = True := eq_true (by omega)
      have g2 : (i < nn) = True := eq_true hlt
      obtain ⟨ai, hai⟩ : ∃ ai, a + i = ai := ⟨_, rfl⟩
      have e5 : (a : Int) + (i : Int) = (ai : Int) := by omega
      have e6 : IntKind.i64.wrap (ai : Int) = (ai : Int) := wrap_small (by omega) (by omega)
      have cP := Place_yes V K sd ai wr hTW.1 v1 (by omega) (by omega) k2
      have hpl := HGL.out i hli
      rw [hai] at hpl
      rw [← hpl] at cP
      clear hai
      have HSt := Lib.hid (fillM_set hli)
      have c0 : wr.cell? ⟨w.heap.size, 0, none⟩ = some (.int .i64 (V : Int)) := qW.cell 0
      have c7 : wr.cell? ⟨w.heap.size, 7, none⟩ = some (.int .i64 (K : Int)) := qW.cell 7
      clear hpl
      generalize l[i] = pl at *
      go_wp2_with fail
      with_reducible refine cP.mono ?_
      rintro o w5 ⟨rfl, b5⟩
      replace rW := rW.on b5
      replace qW := qW.on b5
      replace hTW := hTW.on b5
      replace bW := bW.trans (b5.mono bW.size)
      clear b5 c0 c7 cP
      have z1 := rW.frozen i
      have z2 : w5.cell? ⟨gL, i, none⟩ = (intsV (fillM l i))[i]? := rW.cell i
      have hgi : ∃ u, (intsV (fillM l i))[i]? = some u := by
        have : i < (intsV (fillM l i)).length := by simp only [intsV, List.length_map]; rw [fillM_length (by omega)]; exact hli
        exact ⟨_, List.getElem?_eq_getElem this⟩
      obtain ⟨u, hu⟩ := hgi
      rw [hu] at z2
      have R1 := rW.set i (.int .i64 (pl : Int))
      rw [intsV_set, HSt.out] at R1
      have R2 := qW.far (p := ⟨gL, i, none⟩) (by show w.heap.size ≠ gL; omega) (.int .i64 (pl : Int))
      have R3 := (hTW.on (Below.refl _ _) : Both w5)
      have R4 := bW.setCell (p := ⟨gL, i, none⟩) (by show w.heap.size ≤ gL; omega) (.int .i64 (pl : Int))
      have R5 : Both (w5.setCell ⟨gL, i, none⟩ (.int .i64 (pl : Int))) := both_set hTW (by omega) i _
      clear rW bW hTW
      go_wp2_with fail
      go_roundw
      case rel => exact ⟨i + 1, by omega, by go_num, R1, R2, R5, R4⟩
      case measure => simp [intOf]; omega
    · obtain rfl : i = nn := by omega
      have g1 : ((i : Int) < (i : Int)) = False := eq_false (by omega)
      have hfa : fillM l i = l := by have := fillM_all l; rwa [HNN.out] at this
      rw [hfa] at rW
      go_wp2_with fail
      go_ret
      exact ⟨gL, rfl, rW, bW⟩
theorem box10 {w w' : World} {o : Array Value} (hb : Below (w.alloc (.cells o 24)).heap.size (w.alloc (.cells o 24)) w') : ∀ i, w'.cell? ⟨w.heap.size, i, none⟩ = o.toList[i]? := fun i => ((RowAt.new w 24 o).on hb).cell i
set_option maxHeartbeats 2000000 in
set_option maxRecDepth 100000 in
theorem Members_yes (V S C N T D R K G Z x i : Nat) (w : World) (hT : Both w) (h : FitD V S C N T D R K G) (hx : x ≤ 1099511627776) (hi : i < C) (l : List Nat) (hl : memL V K (foldB [Z, x / S]) (bndC V (numC S C) (numD S C x i)) (bndC V (numC S C) (numD S C x i + 1)) = l) :
    Calls Tryd.prog 12 #[.agg #[.int .i64 (V : Int), .int .i64 (S : Int), .int .i64 (C : Int), .int .i64 (N : Int), .int .i64 (T : Int), .int .i64 (D : Int), .int .i64 (R : Int), .int .i64 (K : Int), .int .i64 (G : Int), .int .u64 (Z : Int)], .int .i64 (x : Int), .int .i64 (i : Int)] w fun o w' => ∃ gg : Nat, o = .returned (.tuple #[.slice (some ⟨gg, 0, none⟩) l.length l.length, .int .i64 0]) ∧ RowAt w' gg 3 (intsV l) ∧ Below w.heap.size w w' := by
  subst hl
  have hx9 : x / S ≤ 1099511627776 := Nat.le_trans (Nat.div_le_self _ _) hx
  have b0 := (Below.refl w.heap.size w).alloc (Nat.le_refl _) (.cells #[.int .i64 (V : Int), .int .i64 (S : Int), .int .i64 (C : Int), .int .i64 (N : Int), .int .i64 (T : Int), .int .i64 (D : Int), .int .i64 (R : Int), .int .i64 (K : Int), .int .i64 (G : Int), .int .u64 (Z : Int)] 24)
  have hT0 : Both (w.alloc (.cells #[.int .i64 (V : Int), .int .i64 (S : Int), .int .i64 (C : Int), .int .i64 (N : Int), .int .i64 (T : Int), .int .i64 (D : Int), .int .i64 (R : Int), .int .i64 (K : Int), .int .i64 (G : Int), .int .u64 (Z : Int)] 24)) := ⟨hT.1.below b0 hT.1.lt, hT.2.below b0 hT.2.lt⟩
  have cC := fun W hW => committee_yes V S C N T D R K G Z x i W hW h hx hi
  have cE := fun W hW => EpochOf_any h.fits (Z : Int) W hW (x : Int) (by omega) ((x / S : Nat) : Int) 0 (by unfold epochA; rw [decide_eq_true (by omega)]; rfl)
  have cO := fun W => of_any V S C N T D R K G Z ((x / S : Nat) : Int) W
  have cM := fun W hW => members_any V S C N T D R K G Z (x / S) (numD S C x i) W hW h hx9 (numD_lt h.s1 hi)
  generalize memL V K (foldB [Z, x / S]) (bndC V (numC S C) (numD S C x i)) (bndC V (numC S C) (numD S C x i + 1)) = l at *
  generalize numD S C x i = kk at *
  generalize x / S = e at *
  go_enter Tryd.func12, Tryd.ntmps12
  go_wp2_with fail
  with_reducible refine (cC _ hT0).mono ?_
  rintro o w1 ⟨rfl, b1⟩
  have z0 := box10 b1 0
  have z1 := box10 b1 1
  have z2 := box10 b1 2
  have z3 := box10 b1 3
  have z4 := box10 b1 4
  have z5 := box10 b1 5
  have z6 := box10 b1 6
  have z7 := box10 b1 7
  have z8 := box10 b1 8
  have z9 := box10 b1 9
  simp only [List.getElem?_cons_zero, List.getElem?_cons_succ] at z0 z1 z2 z3 z4 z5 z6 z7 z8 z9
  go_wp2_with fail
  have sp1 : Spans w1 := (hT0.on b1).2
  with_reducible refine (cE _ sp1).mono ?_
  rintro o w2 ⟨rfl, b2⟩
  clear z0 z1 z2 z3 z4 z5 z6 z7 z8 z9
  have b12 := b1.trans (b2.mono b1.size)
  have z0 := box10 b12 0
  have z1 := box10 b12 1
  have z2 := box10 b12 2
  have z3 := box10 b12 3
  have z4 := box10 b12 4
  have z5 := box10 b12 5
  have z6 := box10 b12 6
  have z7 := box10 b12 7
  have z8 := box10 b12 8
  have z9 := box10 b12 9
  simp only [List.getElem?_cons_zero, List.getElem?_cons_succ] at z0 z1 z2 z3 z4 z5 z6 z7 z8 z9
  go_wp2_with fail
  with_reducible refine (cO _).mono ?_
  rintro o w3 ⟨rfl, b3⟩
  have b13 := b12.trans (b3.mono b12.size)
  clear z0 z1 z2 z3 z4 z5 z6 z7 z8 z9
  go_wp2_with fail
  with_reducible refine (cM _ (hT0.on b13)).mono ?_
  rintro o w4 ⟨gg, rfl, rG, b4⟩
  go_wp2_with fail
  refine bodyPost_ret (v := .tuple #[.slice (some ⟨gg, 0, none⟩) l.length l.length, .int .i64 0]) (by simp [results, Tryd.results12, go_sem]) rfl ?_
  have b14 := b13.trans (b4.mono b13.size)
  exact ⟨gg, rfl, rG, b0.trans (b14.mono b0.size)⟩
set_option maxHeartbeats 2000000 in
theorem Members_no (v s c n t d r k g z x i : Int) (w : World) (hT : Both w) (h : fitsC v s c n t d r k g = false ∨ isTickB x = false ∨ i < 0 ∨ c ≤ i) :
    Calls Tryd.prog 12 #[.agg #[.int .i64 v, .int .i64 s, .int .i64 c, .int .i64 n, .int .i64 t, .int .i64 d, .int .i64 r, .int .i64 k, .int .i64 g, .int .u64 z], .int .i64 x, .int .i64 i] w fun o w' => o = .returned (.tuple #[.slice none 0 0, .int .i64 1]) ∧ Below w.heap.size w w' := by
  have b0 := (Below.refl w.heap.size w).alloc (Nat.le_refl _) (.cells #[.int .i64 v, .int .i64 s, .int .i64 c, .int .i64 n, .int .i64 t, .int .i64 d, .int .i64 r, .int .i64 k, .int .i64 g, .int .u64 z] 24)
  have hT0 : Both (w.alloc (.cells #[.int .i64 v, .int .i64 s, .int .i64 c, .int .i64 n, .int .i64 t, .int .i64 d, .int .i64 r, .int .i64 k, .int .i64 g, .int .u64 z] 24)) := ⟨hT.1.below b0 hT.1.lt, hT.2.below b0 hT.2.lt⟩
  have cC := fun W hW => committee_no v s c n t d r k g z x i W hW h
  go_enter Tryd.func12, Tryd.ntmps12
  go_wp2_with fail
  with_reducible refine (cC _ hT0).mono ?_
  rintro o w1 ⟨rfl, b1⟩
  go_wp2_with fail
  refine bodyPost_ret (v := .tuple #[.slice none 0 0, .int .i64 1]) (by simp [results, Tryd.results12, go_sem]) rfl ?_
  exact ⟨rfl, b0.trans (b1.mono b0.size)⟩
end Go.Proofs.YtjipibpcnheniaaDoor
