/- Package duty's small functions: whether a slot may be, an epoch of a chain, how many committees, where one begins, who holds a number, the seed, a committee's number. -/
import Derived.Test.YtjipibpcnheniaaDoorShuF
import Derived.Test.YtjipibpcnheniaaDoorClkD
import Derived.Test.YtjipibpcnheniaaDoorLagL
namespace Go.Proofs.YtjipibpcnheniaaDoor
open Go.RowKit Go.Lib

/-- Both variables lie as they were laid. -/
def Both (w : World) : Prop := Tab w ∧ Spans w
theorem Both.on {w w' : World} (h : Both w) (hb : Below w.heap.size w w') : Both w' := ⟨h.1.on hb, h.2.on hb⟩
/-- A chain that fits. -/
structure FitD (V S C N T D R K G : Nat) : Prop where
  v1 : 1 ≤ V
  v2 : V ≤ 1024
  s1 : 1 ≤ S
  s2 : S ≤ 32
  c1 : 1 ≤ C
  c2 : C ≤ 8
  n1 : 1 ≤ N
  n2 : N ≤ 64
  t1 : 1 ≤ T
  t2 : T ≤ 1000
  d2 : D ≤ T
  r1 : 1 ≤ R
  r2 : R ≤ 64
  k2 : K ≤ 90
  g1 : 1 ≤ G
  g2 : G ≤ 16
theorem FitD.fits {V S C N T D R K G : Nat} (h : FitD V S C N T D R K G) : fitsC V S C N T D R K G = true := by
  obtain ⟨_, _, _, _, _, _, _, _, _, _, _, _, _, _, _, _⟩ := h
  rw [fitsC_iff]; omega
theorem fit_nat {v s c n t d r k g : Int} (h : fitsC v s c n t d r k g = true) : ∃ V S C N T D R K G : Nat, v = V ∧ s = S ∧ c = C ∧ n = N ∧ t = T ∧ d = D ∧ r = R ∧ k = K ∧ g = G ∧ FitD V S C N T D R K G := by
  rw [fitsC_iff] at h
  exact ⟨v.toNat, s.toNat, c.toNat, n.toNat, t.toNat, d.toNat, r.toNat, k.toNat, g.toNat, by omega, by omega, by omega, by omega, by omega, by omega, by omega, by omega, by omega, by omega, by omega, by omega, by omega, by omega, by omega, by omega, by omega, by omega, by omega, by omega, by omega, by omega, by omega, by omega, by omega⟩
/-- How many committees an epoch has. -/
def numC (S C : Nat) : Nat := S * C
theorem numC_bd {S C : Nat} (h1 : 1 ≤ S) (h2 : S ≤ 32) (h3 : 1 ≤ C) (h4 : C ≤ 8) : 1 ≤ numC S C ∧ numC S C ≤ 256 :=
  ⟨Nat.mul_pos h1 h3, Nat.mul_le_mul h2 h4⟩
/-- Where a committee begins. -/
def bndC (V M k : Nat) : Nat := V * k / M
theorem tdiv_nat (a b : Nat) : ((a : Int).tdiv (b : Int)) = ((a / b : Nat) : Int) := by
  rw [Int.tdiv_eq_ediv_of_nonneg (by omega)]; rfl
theorem tmod_nat (a b : Nat) : ((a : Int).tmod (b : Int)) = ((a % b : Nat) : Int) := by
  rw [Int.tmod_eq_emod_of_nonneg (by omega)]; rfl
theorem wrap_small {n : Int} (h0 : 0 ≤ n) (h : n ≤ 9223372036854775807) : IntKind.i64.wrap n = n := IntWalk.i64_in n (by omega)

theorem mayBe_any (n : Int) (w : World) : Calls Tryd.prog 37 #[.int .i64 n] w fun e w' => e = .returned (.bool (isTickB n)) ∧ w = w' := by
  unfold isTickB
  by_cases h : 0 ≤ n
  · have h1 : decide (0 ≤ n) = true := decide_eq_true h
    have h2 : (0 ≤ n) = True := eq_true h
    go_enter Tryd.func37, Tryd.ntmps37
    go_wp2
    go_ret
    exact ⟨by simp [h], rfl⟩
  · have h1 : decide (0 ≤ n) = false := decide_eq_false h
    have h2 : (0 ≤ n) = False := eq_false h
    go_enter Tryd.func37, Tryd.ntmps37
    go_wp2
    go_ret
    exact ⟨by simp, rfl⟩
theorem of_any (v s c n t d r k g z x : Int) (w : World) : Calls Tryd.prog 29 #[.agg #[.int .i64 v, .int .i64 s, .int .i64 c, .int .i64 n, .int .i64 t, .int .i64 d, .int .i64 r, .int .i64 k, .int .i64 g, .int .u64 z], .int .i64 x] w fun e w' => e = .returned (.agg #[.int .i64 v, .int .i64 s, .int .i64 c, .int .i64 n, .int .i64 t, .int .i64 d, .int .i64 r, .int .i64 k, .int .i64 g, .int .u64 z, .int .i64 x]) ∧ Below w.heap.size w w' := by
  go_enter Tryd.func29, Tryd.ntmps29
  go_wp2_with fail
  refine bodyPost_ret (v := .agg #[.int .i64 v, .int .i64 s, .int .i64 c, .int .i64 n, .int .i64 t, .int .i64 d, .int .i64 r, .int .i64 k, .int .i64 g, .int .u64 z, .int .i64 x]) (by simp [results, Tryd.results29, go_sem]) rfl ?_
  exact ⟨rfl, ((Below.refl _ _).alloc (Nat.le_refl _) _).alloc (by simp) _⟩
theorem committees_any (V S C N T D R K G Z : Nat) (x : Int) (w : World) (h : FitD V S C N T D R K G) : Calls Tryd.prog 62 #[.agg #[.int .i64 (V : Int), .int .i64 (S : Int), .int .i64 (C : Int), .int .i64 (N : Int), .int .i64 (T : Int), .int .i64 (D : Int), .int .i64 (R : Int), .int .i64 (K : Int), .int .i64 (G : Int), .int .u64 (Z : Int), .int .i64 x]] w fun e w' => e = .returned (.int .i64 (numC S C : Int)) ∧ Below w.heap.size w w' := by
  obtain ⟨b1, b2⟩ := numC_bd h.s1 h.s2 h.c1 h.c2
  have e1 : (S : Int) * (C : Int) = (numC S C : Int) := by unfold numC; exact (Int.natCast_mul S C).symm
  have e2 : IntKind.i64.wrap (numC S C : Int) = (numC S C : Int) := wrap_small (by omega) (by omega)
  generalize numC S C = M at *
  go_enter Tryd.func62, Tryd.ntmps62
  go_wp2_with fail
  go_ret
  exact ⟨rfl, (Below.refl _ _).alloc (Nat.le_refl _) _⟩
theorem RowAt.later7 {w : World} {g : Nat} {t : TypeId} {l : List Value} (h : RowAt w g t l) (i : Nat) (v : Value) (hv : l[i]? = some v) : ∀ p : Later w, p.W.cell? ⟨g, i, none⟩ = some v := fun p => by
  rw [(h.on p.h).cell]; exact hv
set_option maxHeartbeats 1000000 in
theorem first_any (V S C N T D R K G Z k : Nat) (x : Int) (w : World) (h : FitD V S C N T D R K G) (hk : k ≤ 257) : Calls Tryd.prog 41 #[.agg #[.int .i64 (V : Int), .int .i64 (S : Int), .int .i64 (C : Int), .int .i64 (N : Int), .int .i64 (T : Int), .int .i64 (D : Int), .int .i64 (R : Int), .int .i64 (K : Int), .int .i64 (G : Int), .int .u64 (Z : Int), .int .i64 x], .int .i64 (k : Int)] w fun e w' => e = .returned (.int .i64 (bndC V (numC S C) k : Int)) ∧ Below w.heap.size w w' := by
  obtain ⟨b1, b2⟩ := numC_bd h.s1 h.s2 h.c1 h.c2
  have hP : V * k ≤ 1024 * 257 := Nat.mul_le_mul h.v2 hk
  have e1 : (V : Int) * (k : Int) = ((V * k : Nat) : Int) := (Int.natCast_mul V k).symm
  have cM := fun W => committees_any V S C N T D R K G Z x W h
  unfold bndC
  generalize numC S C = M at *
  generalize V * k = P at *
  have e2 : IntKind.i64.wrap (P : Int) = (P : Int) := wrap_small (by omega) (by omega)
  have e3 : (P : Int).tdiv (M : Int) = ((P / M : Nat) : Int) := tdiv_nat P M
  have e4 : ((M : Int) = 0) = False := eq_false (by omega)
  have e5 : (M = 0) = False := eq_false (by omega)
  have hq9 : P / M ≤ P := Nat.div_le_self _ _
  have e6 : IntKind.i64.wrap ((P / M : Nat) : Int) = ((P / M : Nat) : Int) := wrap_small (Int.natCast_nonneg _) (by omega)
  generalize P / M = Q at *
  have q := RowAt.new w 59 #[.int .i64 (V : Int), .int .i64 (S : Int), .int .i64 (C : Int), .int .i64 (N : Int), .int .i64 (T : Int), .int .i64 (D : Int), .int .i64 (R : Int), .int .i64 (K : Int), .int .i64 (G : Int), .int .u64 (Z : Int), .int .i64 x]
  have b0 := (Below.refl w.heap.size w).alloc (Nat.le_refl _) (.cells #[.int .i64 (V : Int), .int .i64 (S : Int), .int .i64 (C : Int), .int .i64 (N : Int), .int .i64 (T : Int), .int .i64 (D : Int), .int .i64 (R : Int), .int .i64 (K : Int), .int .i64 (G : Int), .int .u64 (Z : Int), .int .i64 x] 59)
  have y0 := q.later7 0 _ rfl
  have y1 := q.later7 1 _ rfl
  have y2 := q.later7 2 _ rfl
  have y3 := q.later7 3 _ rfl
  have y4 := q.later7 4 _ rfl
  have y5 := q.later7 5 _ rfl
  have y6 := q.later7 6 _ rfl
  have y7 := q.later7 7 _ rfl
  have y8 := q.later7 8 _ rfl
  have y9 := q.later7 9 _ rfl
  have y10 := q.later7 10 _ rfl
  have HC : ∀ p : Later (w.alloc (.cells #[.int .i64 (V : Int), .int .i64 (S : Int), .int .i64 (C : Int), .int .i64 (N : Int), .int .i64 (T : Int), .int .i64 (D : Int), .int .i64 (R : Int), .int .i64 (K : Int), .int .i64 (G : Int), .int .u64 (Z : Int), .int .i64 x] 59)), Calls Tryd.prog 62 #[.agg #[.int .i64 (V : Int), .int .i64 (S : Int), .int .i64 (C : Int), .int .i64 (N : Int), .int .i64 (T : Int), .int .i64 (D : Int), .int .i64 (R : Int), .int .i64 (K : Int), .int .i64 (G : Int), .int .u64 (Z : Int), .int .i64 x]] p.W fun e w_ => e = .returned (.int .i64 (M : Int)) ∧ ∃ p : Later (w.alloc (.cells #[.int .i64 (V : Int), .int .i64 (S : Int), .int .i64 (C : Int), .int .i64 (N : Int), .int .i64 (T : Int), .int .i64 (D : Int), .int .i64 (R : Int), .int .i64 (K : Int), .int .i64 (G : Int), .int .u64 (Z : Int), .int .i64 x] 59)), w_ = p.W := fun p => later_of (cM _)
  go_enter Tryd.func41, Tryd.ntmps41
  go_wp2_with fail
  refine wp_region_later (by kernel_rfl) (by kernel_rfl) ?_
  repeat (go_big_quiet_step (first | (go_at_call 62; exact HC _)))
  refine wpQuiet_nil ?_
  intro _ hw'
  obtain ⟨pq, rfl⟩ := hw'
  go_wp2_with fail
  go_ret
  exact ⟨rfl, b0.trans (pq.h.mono b0.size)⟩
set_option maxHeartbeats 1000000 in
theorem holder_any (V S C N T D R K G Z j : Nat) (x : Int) (w : World) (h : FitD V S C N T D R K G) (hj : j < V) : Calls Tryd.prog 40 #[.agg #[.int .i64 (V : Int), .int .i64 (S : Int), .int .i64 (C : Int), .int .i64 (N : Int), .int .i64 (T : Int), .int .i64 (D : Int), .int .i64 (R : Int), .int .i64 (K : Int), .int .i64 (G : Int), .int .u64 (Z : Int), .int .i64 x], .int .i64 (j : Int)] w fun e w' => e = .returned (.int .i64 ((((j + 1) * numC S C - 1) / V : Nat) : Int)) ∧ Below w.heap.size w w' := by
  obtain ⟨b1, b2⟩ := numC_bd h.s1 h.s2 h.c1 h.c2
  obtain ⟨v1, v2⟩ : 1 ≤ V ∧ V ≤ 1024 := ⟨h.v1, h.v2⟩
  have hP : (j + 1) * numC S C ≤ 1024 * 256 := Nat.mul_le_mul (by omega) b2
  have hP1 : 1 ≤ (j + 1) * numC S C := Nat.mul_pos (by omega) b1
  have e0 : IntKind.i64.wrap ((j : Int) + 1) = (j : Int) + 1 := wrap_small (by omega) (by omega)
  have e1 : ((j : Int) + 1) * (numC S C : Int) = (((j + 1) * numC S C : Nat) : Int) := (Int.natCast_mul (j + 1) (numC S C)).symm
  have cM := fun W => committees_any V S C N T D R K G Z x W h
  generalize hX : (j + 1) * numC S C = P at *
  clear hX
  generalize numC S C = M at *
  have e2 : IntKind.i64.wrap (P : Int) = (P : Int) := wrap_small (by omega) (by omega)
  have e7 : (P : Int) - 1 = ((P - 1 : Nat) : Int) := by omega
  obtain ⟨P1, hP1'⟩ : ∃ P1, P - 1 = P1 := ⟨_, rfl⟩
  rw [hP1'] at e7 ⊢
  have e8 : IntKind.i64.wrap (P1 : Int) = (P1 : Int) := wrap_small (by omega) (by omega)
  have e3 : (P1 : Int).tdiv (V : Int) = ((P1 / V : Nat) : Int) := tdiv_nat P1 V
  have e4 : ((V : Int) = 0) = False := eq_false (by omega)
  have e5 : (V = 0) = False := eq_false (by omega)
  have hq9 : P1 / V ≤ P1 := Nat.div_le_self _ _
  have e6 : IntKind.i64.wrap ((P1 / V : Nat) : Int) = ((P1 / V : Nat) : Int) := wrap_small (Int.natCast_nonneg _) (by omega)
  clear hP1'
  generalize P1 / V = Q at *
  have q := RowAt.new w 59 #[.int .i64 (V : Int), .int .i64 (S : Int), .int .i64 (C : Int), .int .i64 (N : Int), .int .i64 (T : Int), .int .i64 (D : Int), .int .i64 (R : Int), .int .i64 (K : Int), .int .i64 (G : Int), .int .u64 (Z : Int), .int .i64 x]
  have b0 := (Below.refl w.heap.size w).alloc (Nat.le_refl _) (.cells #[.int .i64 (V : Int), .int .i64 (S : Int), .int .i64 (C : Int), .int .i64 (N : Int), .int .i64 (T : Int), .int .i64 (D : Int), .int .i64 (R : Int), .int .i64 (K : Int), .int .i64 (G : Int), .int .u64 (Z : Int), .int .i64 x] 59)
  have y0 := q.later7 0 _ rfl
  have y1 := q.later7 1 _ rfl
  have y2 := q.later7 2 _ rfl
  have y3 := q.later7 3 _ rfl
  have y4 := q.later7 4 _ rfl
  have y5 := q.later7 5 _ rfl
  have y6 := q.later7 6 _ rfl
  have y7 := q.later7 7 _ rfl
  have y8 := q.later7 8 _ rfl
  have y9 := q.later7 9 _ rfl
  have y10 := q.later7 10 _ rfl
  have HC : ∀ p : Later (w.alloc (.cells #[.int .i64 (V : Int), .int .i64 (S : Int), .int .i64 (C : Int), .int .i64 (N : Int), .int .i64 (T : Int), .int .i64 (D : Int), .int .i64 (R : Int), .int .i64 (K : Int), .int .i64 (G : Int), .int .u64 (Z : Int), .int .i64 x] 59)), Calls Tryd.prog 62 #[.agg #[.int .i64 (V : Int), .int .i64 (S : Int), .int .i64 (C : Int), .int .i64 (N : Int), .int .i64 (T : Int), .int .i64 (D : Int), .int .i64 (R : Int), .int .i64 (K : Int), .int .i64 (G : Int), .int .u64 (Z : Int), .int .i64 x]] p.W fun e w_ => e = .returned (.int .i64 (M : Int)) ∧ ∃ p : Later (w.alloc (.cells #[.int .i64 (V : Int), .int .i64 (S : Int), .int .i64 (C : Int), .int .i64 (N : Int), .int .i64 (T : Int), .int .i64 (D : Int), .int .i64 (R : Int), .int .i64 (K : Int), .int .i64 (G : Int), .int .u64 (Z : Int), .int .i64 x] 59)), w_ = p.W := fun p => later_of (cM _)
  go_enter Tryd.func40, Tryd.ntmps40
  go_wp2_with fail
  refine wp_region_later (by kernel_rfl) (by kernel_rfl) ?_
  repeat (go_big_quiet_step (first | (go_at_call 62; exact HC _)))
  refine wpQuiet_nil ?_
  intro _ hw'
  obtain ⟨pq, rfl⟩ := hw'
  go_wp2_with fail
  go_ret
  exact ⟨rfl, b0.trans (pq.h.mono b0.size)⟩
set_option maxHeartbeats 1000000 in
theorem seed_any (V S C N T D R K G Z e : Nat) (w : World) (hT : Tab w) (he : e ≤ 1099511627776) : Calls Tryd.prog 39 #[.agg #[.int .i64 (V : Int), .int .i64 (S : Int), .int .i64 (C : Int), .int .i64 (N : Int), .int .i64 (T : Int), .int .i64 (D : Int), .int .i64 (R : Int), .int .i64 (K : Int), .int .i64 (G : Int), .int .u64 (Z : Int), .int .i64 (e : Int)]] w fun o w' => o = .returned (.int .u64 (foldB [Z, e] : Int)) ∧ Below w.heap.size w w' := by
  have e1 : IntKind.u64.wrap (e : Int) = (e : Int) := IntWalk.u64_in _ (by omega)
  have b0 := (Below.refl w.heap.size w).alloc (Nat.le_refl _) (.cells #[.int .i64 (V : Int), .int .i64 (S : Int), .int .i64 (C : Int), .int .i64 (N : Int), .int .i64 (T : Int), .int .i64 (D : Int), .int .i64 (R : Int), .int .i64 (K : Int), .int .i64 (G : Int), .int .u64 (Z : Int), .int .i64 (e : Int)] 59)
  have b1 := b0.alloc (by simp) (.cells #[.int .u64 (Z : Int), .int .u64 (e : Int)] 22)
  have cF := Fold_any [Z, e] _ _ (words2 (w.alloc (.cells #[.int .i64 (V : Int), .int .i64 (S : Int), .int .i64 (C : Int), .int .i64 (N : Int), .int .i64 (T : Int), .int .i64 (D : Int), .int .i64 (R : Int), .int .i64 (K : Int), .int .i64 (G : Int), .int .u64 (Z : Int), .int .i64 (e : Int)] 59)) Z e 22 (w.heap.size + 1) (by simp)) (by simp) (hT.below b1 hT.lt)
  go_enter Tryd.func39, Tryd.ntmps39
  go_wp2_with fail
  with_reducible refine cF.mono ?_
  rintro o w1 ⟨rfl, b2⟩
  go_wp2_with fail
  go_ret
  exact ⟨rfl, b1.trans (b2.mono b1.size)⟩
end Go.Proofs.YtjipibpcnheniaaDoor
