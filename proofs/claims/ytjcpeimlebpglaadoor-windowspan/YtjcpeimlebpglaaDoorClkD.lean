/- The statements' own small functions over chains: pick, Chain, Turned, awake. -/
import Derived.Test.YtjcpeimlebpglaaDoorClkC
import Derived.StillTailTactics
import Derived.IntWalk
namespace Go.Proofs.YtjcpeimlebpglaaDoor
open Go.RowKit

/-- A region that draws, reads and calls what only reads, and ends by a forced tail: in the walk's own spelling of the world. -/
theorem wp_still_tail {P : Program} {id : Nat} {Q : Exit → Act → World → Prop} {a : Act} {w : World} {l : List Oper} (n : Nat) (hm : P.follows .mixedOrders = true) (hB : Region.lexTailB .any l.toArray n = true)
    (h : wpStill P l.toArray w.drew (fun a' => wpList P l.toArray Q (l.drop n) a' w.drew) (l.take n) a) : (Code.region id l.toArray true).wp P Q a w :=
  wp_region_still_tail n hm hB h

/-- pick: which of n things a raw number speaks of. -/
def cpick (c n : Int) : Int := (if c < 0 then -(c + 1) else c) % n
theorem cpick_bd (c n : Int) (hn : 0 < n) : 0 ≤ cpick c n ∧ cpick c n < n := by
  unfold cpick
  exact ⟨Int.emod_nonneg _ (by omega), Int.emod_lt_of_pos _ hn⟩
theorem cpick_any (c n : Int) (w : World) (hc : -9223372036854775808 ≤ c ∧ c ≤ 9223372036854775807) (hn : 0 < n) (hn2 : n ≤ 4398046511104) :
    Calls Tryd.prog 20 #[.int .i64 c, .int .i64 n] w fun e w' => e = .returned (.int .i64 (cpick c n)) ∧ w = w' := by
  by_cases h : c < 0
  · have he : cpick c n = -((c + 1).tmod n) := by
      unfold cpick
      rw [if_pos h, ← Int.neg_tmod, Int.tmod_eq_emod_of_nonneg (by omega)]
    rw [he]
    clear he
    go_enter Tryd.func20, Tryd.ntmps20
    go_wp2
    go_ret
    exact ⟨rfl, rfl⟩
  · have he : cpick c n = c % n := by unfold cpick; rw [if_neg h]
    rw [he]
    clear he
    go_enter Tryd.func20, Tryd.ntmps20
    go_wp2
    go_ret
    exact ⟨rfl, rfl⟩
/-- as go_still wants it -/
theorem cpick_still {c n v : Int} (w : World) (hc : -9223372036854775808 ≤ c ∧ c ≤ 9223372036854775807) (hn : 0 < n) (hn2 : n ≤ 4398046511104) (hv : cpick c n = v) :
    Calls Tryd.prog 20 #[.int .i64 c, .int .i64 n] w fun e w' => e = .returned (.int .i64 v) ∧ w' = w := by
  subst hv; exact (cpick_any c n w hc hn hn2).mono fun _ _ ⟨a, b⟩ => ⟨a, b.symm⟩

abbrev I64K (x : Int) : Prop := -9223372036854775808 ≤ x ∧ x ≤ 9223372036854775807
/-- The numbers of a small chain, of raw ones. -/
structure ChainOf (n0 n1 n2 n3 n4 n5 v s c n t d r k g : Int) : Prop where
  V : cpick n0 60 = v - 1
  S : cpick n1 6 = s - 1
  C : cpick (n1.tdiv 8) 4 = c - 1
  N : cpick n3 9 = n - 1
  T : cpick n2 12 = t - 1
  D : cpick (n2.tdiv 16) (t + 1) = d
  R : cpick n4 8 = r - 1
  K : cpick n5 12 = k
  G : cpick (n5.tdiv 16) 4 = g - 1
theorem chain_of (n0 n1 n2 n3 n4 n5 : Int) : ∃ v s c n t d r k g, ChainOf n0 n1 n2 n3 n4 n5 v s c n t d r k g :=
  ⟨1 + cpick n0 60, 1 + cpick n1 6, 1 + cpick (n1.tdiv 8) 4, 1 + cpick n3 9, 1 + cpick n2 12, _, 1 + cpick n4 8, _, 1 + cpick (n5.tdiv 16) 4,
    by omega, by omega, by omega, by omega, by omega, rfl, by omega, rfl, by omega⟩
structure SmallK (v s c n t d r k g : Int) : Prop where
  V : 1 ≤ v ∧ v ≤ 60
  S : 1 ≤ s ∧ s ≤ 6
  C : 1 ≤ c ∧ c ≤ 4
  N : 1 ≤ n ∧ n ≤ 9
  T : 1 ≤ t ∧ t ≤ 12
  D : 0 ≤ d ∧ d ≤ t
  R : 1 ≤ r ∧ r ≤ 8
  K : 0 ≤ k ∧ k ≤ 11
  G : 1 ≤ g ∧ g ≤ 4
theorem ChainOf.small {n0 n1 n2 n3 n4 n5 v s c n t d r k g : Int} (h : ChainOf n0 n1 n2 n3 n4 n5 v s c n t d r k g) : SmallK v s c n t d r k g := by
  have h0 := cpick_bd n0 60 (by omega)
  have h1 := cpick_bd n1 6 (by omega)
  have h2 := cpick_bd (n1.tdiv 8) 4 (by omega)
  have h3 := cpick_bd n3 9 (by omega)
  have h4 := cpick_bd n2 12 (by omega)
  have e4 := h.T
  have h5 := cpick_bd (n2.tdiv 16) (t + 1) (by omega)
  have h6 := cpick_bd n4 8 (by omega)
  have h7 := cpick_bd n5 12 (by omega)
  have h8 := cpick_bd (n5.tdiv 16) 4 (by omega)
  have := h.V; have := h.S; have := h.C; have := h.N; have := h.D; have := h.R; have := h.K; have := h.G
  exact ⟨by omega, by omega, by omega, by omega, by omega, by omega, by omega, by omega, by omega⟩
theorem SmallK.fits {v s c n t d r k g : Int} (h : SmallK v s c n t d r k g) : fitsC v s c n t d r k g = true := by
  have := h.V; have := h.S; have := h.C; have := h.N; have := h.T; have := h.D; have := h.R; have := h.K; have := h.G
  exact (fitsC_iff v s c n t d r k g).2 (by omega)
theorem tdiv_bd {x : Int} (h : I64K x) (m : Int) (hm : 1 ≤ m) : I64K (x.tdiv m) := by
  have h1 : (x.tdiv m).natAbs ≤ x.natAbs := by rw [Int.natAbs_tdiv]; exact Nat.div_le_self _ _
  rcases Int.le_total 0 x with h0 | h0
  · have := Int.tdiv_nonneg h0 (show 0 ≤ m by omega)
    obtain ⟨a, b⟩ := h
    exact ⟨by omega, by omega⟩
  · obtain ⟨a, b⟩ := h
    have h2 : x.tdiv m ≤ 0 := by
      have h3 := Int.tdiv_nonneg (show 0 ≤ -x by omega) (show 0 ≤ m by omega)
      rw [Int.neg_tdiv] at h3
      omega
    exact ⟨by omega, by omega⟩

set_option maxHeartbeats 1000000 in
set_option maxRecDepth 100000 in
theorem Chain_any {n0 n1 n2 n3 n4 n5 v s c n t d r k g : Int} (h : ChainOf n0 n1 n2 n3 n4 n5 v s c n t d r k g) (z : Int) (w : World) (b0 : I64K n0) (b1 : I64K n1) (b2 : I64K n2) (b3 : I64K n3) (b4 : I64K n4) (b5 : I64K n5) :
    Calls Tryd.prog 9 #[.agg #[.int .i64 n0, .int .i64 n1, .int .i64 n2, .int .i64 n3, .int .i64 n4, .int .i64 n5], .int .u64 z] w fun e w' => e = .returned (.agg #[.int .i64 v, .int .i64 s, .int .i64 c, .int .i64 n, .int .i64 t, .int .i64 d, .int .i64 r, .int .i64 k, .int .i64 g, .int .u64 z]) ∧ Below w.heap.size w w' := by
  obtain ⟨hv, hs, hc, hn, ht, hd, hr, hk, hg⟩ := h.small
  have c0 := fun W => cpick_still W b0 (n := 60) (by omega) (by omega) h.V
  have c1 := fun W => cpick_still W b1 (n := 6) (by omega) (by omega) h.S
  have c2 := fun W => cpick_still W (tdiv_bd b1 8 (by omega)) (n := 4) (by omega) (by omega) h.C
  have c3 := fun W => cpick_still W b3 (n := 9) (by omega) (by omega) h.N
  have c4 := fun W => cpick_still W b2 (n := 12) (by omega) (by omega) h.T
  have c5 := fun W => cpick_still W (tdiv_bd b2 16 (by omega)) (n := t + 1) (by omega) (by omega) h.D
  have c6 := fun W => cpick_still W b4 (n := 8) (by omega) (by omega) h.R
  have c7 := fun W => cpick_still W b5 (n := 12) (by omega) (by omega) h.K
  have c8 := fun W => cpick_still W (tdiv_bd b5 16 (by omega)) (n := 4) (by omega) (by omega) h.G
  clear h
  go_enter Tryd.func9, Tryd.ntmps9
  go_wp2_with ((with_reducible refine (c4 _).mono ?_); rintro e w_ ⟨rfl, rfl⟩)
  have e1 : 1 + (t - 1) = t := by omega
  rw [e1]
  clear e1
  have d1 : IntKind.i64.wrap (n1.tdiv 8) = n1.tdiv 8 := IntWalk.i64_in _ (tdiv_bd b1 8 (by omega))
  have d2 : IntKind.i64.wrap (n2.tdiv 16) = n2.tdiv 16 := IntWalk.i64_in _ (tdiv_bd b2 16 (by omega))
  have d5 : IntKind.i64.wrap (n5.tdiv 16) = n5.tdiv 16 := IntWalk.i64_in _ (tdiv_bd b5 16 (by omega))
  have wr : ∀ x : Int, 1 ≤ x → x ≤ 1000 → IntKind.i64.wrap (1 + (x - 1)) = x := fun x h1 h2 => by
    have e : 1 + (x - 1) = x := by omega
    rw [e]
    exact IntWalk.i64_in _ (by omega)
  have w0 := wr v (by omega) (by omega)
  have w1 := wr s (by omega) (by omega)
  have w2 := wr c (by omega) (by omega)
  have w3 := wr n (by omega) (by omega)
  have w6 := wr r (by omega) (by omega)
  have w8 := wr g (by omega) (by omega)
  have w5 : IntKind.i64.wrap (t + 1) = t + 1 := IntWalk.i64_in _ (by omega)
  clear wr
  refine wp_still_tail 38 (by kernel_rfl) (by kernel_rfl) ?_
  simp only [List.take_succ_cons, List.take_zero, List.drop_succ_cons, List.drop_zero]
  repeat (first | still_step | (refine wpStill_step (fun K hK => ?_); go_simp; first | with_reducible refine ⟨_, c0 _, hK _ ?_⟩ | with_reducible refine ⟨_, c1 _, hK _ ?_⟩ | with_reducible refine ⟨_, c2 _, hK _ ?_⟩ | with_reducible refine ⟨_, c3 _, hK _ ?_⟩ | with_reducible refine ⟨_, c5 _, hK _ ?_⟩ | with_reducible refine ⟨_, c6 _, hK _ ?_⟩ | with_reducible refine ⟨_, c7 _, hK _ ?_⟩ | with_reducible refine ⟨_, c8 _, hK _ ?_⟩))
  refine wpStill_nil ?_
  go_wp2
  exact bodyPost_ret (v := .agg #[.int .i64 v, .int .i64 s, .int .i64 c, .int .i64 n, .int .i64 t, .int .i64 d, .int .i64 r, .int .i64 k, .int .i64 g, .int .u64 z]) (by simp [results, Tryd.results9, go_sem]) rfl ⟨rfl, (((Below.refl _ _).alloc (Nat.le_refl _) _).alloc (by simp) _).drew⟩
end Go.Proofs.YtjcpeimlebpglaaDoor
