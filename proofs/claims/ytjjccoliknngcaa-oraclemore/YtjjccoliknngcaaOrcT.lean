/- awake: chapter 7's examples; the contracts at its literals. -/
import Derived.Test.YtjjccoliknngcaaOrcS
namespace Go.Proofs.Ytjjccoliknngcaa
open Go.RowKit Go.Lib

/-- The example's table, and signature. -/
abbrev awT : List Pr := [(1, 7), (2, 7)]
theorem aw_S : signL 7 [2, 1] = awT := srt_unique (signL_srt _ _) (by decide) ((signL_perm 7 [2, 1]).trans (by decide))
theorem aw_S8 : signL 8 [2, 1] = [(1, 8), (2, 8)] := srt_unique (signL_srt _ _) (by decide) ((signL_perm 8 [2, 1]).trans (by decide))
theorem aw_S1 : signL 7 [1] = [(1, 7)] := srt_unique (signL_srt _ _) (by decide) ((signL_perm 7 [1]).trans (by decide))
theorem aw_L : addL [] [(2, 7), (1, 7), (2, 7)] = awT := addL_eq List.Pairwise.nil ((stc_iff _).1 (by decide)) fun x => by
  constructor
  · intro h
    simp at h ⊢
    rcases h with h | h <;> simp [h]
  · intro h
    simp at h ⊢
    rcases h with h | h | h <;> simp [h]
theorem aw_addO : addO [] [(2, 7), (1, 7), (2, 7)] = (awT, 0) := by unfold addO; rw [if_pos (by decide), aw_L, if_neg (by decide)]
theorem aw_addW : addO [(2, 0), (1, 0)] [] = ([], 1) := by unfold addO; rw [if_neg (by decide)]
theorem aw_signO : signO 7 [2, 1] = (awT, 0) := by unfold signO; rw [if_neg (by decide), aw_S]
theorem aw_checkY : checkO awT [2, 1] 7 false awT = true := by unfold checkO; rw [aw_S]; decide
theorem aw_checkN : checkO awT [2, 1] 8 false awT = false := by unfold checkO; rw [aw_S8]; decide
theorem aw_checkL : checkO awT [1] 7 false awT = false := by unfold checkO; rw [aw_S1]; decide
theorem aw_right : rightO awT = true := by decide
theorem aw_add (v : Value) (w : World) (h : Prs w w.heap.size v [(2, 7), (1, 7), (2, 7)]) :
    Calls Try.prog 12 #[.slice none 0 0, v] w fun e w' => ∃ A c, e = .returned (.tuple #[.slice A 2 c, .int .i64 0]) ∧ Prs w' w'.heap.size (.slice A 2 c) awT ∧ Below w.heap.size w w' := by
  have := oAdd_any (.slice none 0 0) v [] _ w (Prs.nil _ _) h (by decide) (by decide)
  rw [aw_addO] at this
  exact this
theorem aw_addw (v : Value) (w : World) (h : Prs w w.heap.size v [(2, 0), (1, 0)]) :
    Calls Try.prog 12 #[v, .slice none 0 0] w fun e w' => ∃ A c, e = .returned (.tuple #[.slice A 0 c, .int .i64 1]) ∧ Below w.heap.size w w' := by
  have := oAdd_any v (.slice none 0 0) _ [] w h (Prs.nil _ _) (by decide) (by decide)
  rw [aw_addW] at this
  exact this.mono fun e w' ⟨A, c, he, _, hb⟩ => ⟨A, c, he, hb⟩
theorem aw_sign (v : Value) (w : World) (h : Wds w w.heap.size v [2, 1]) :
    Calls Try.prog 25 #[.int .u64 7, v] w fun e w' => ∃ A c, e = .returned (.tuple #[.agg #[.bool false, .slice A 2 c], .int .i64 0]) ∧ Prs w' w'.heap.size (.slice A 2 c) awT ∧ Below w.heap.size w w' := by
  have := oSign_any 7 v _ w h (by decide)
  rw [aw_signO] at this
  exact this
theorem aw_check (A P : Option Addr) (c pc : Nat) (K : Option Addr) (kc n : Nat) (r : Int) (ks : List Nat) (root : Nat) (b : Bool) (hb : checkO awT ks root false awT = b) (hn : ks.length = n) (hr : (root : Int) = r) (hk : ∀ x ∈ ks, x < 18446744073709551616) (h9 : ks.length ≤ 100000) (w : World)
    (hT : Prs w w.heap.size (.slice A 2 c) awT) (hK : Wds w w.heap.size (.slice K n kc) ks) (hP : Prs w w.heap.size (.slice P 2 pc) awT) :
    Calls Try.prog 21 #[.slice A 2 c, .agg #[.slice K n kc, .int .u64 r, .bool false, .slice P 2 pc]] w fun e w' => e = .returned (.bool b) ∧ Below w.heap.size w w' := by
  subst hn hr
  have := oCheck_any (.slice A 2 c) awT K P kc pc ks root false awT w hT hK hP hk (by decide) h9 (by decide)
  rw [hb] at this
  exact this
theorem aw_all (A : Option Addr) (c : Nat) (v : Value) (is : List Itm) (b : Bool) (hb : is.all (Itm.ok awT) = b) (hs : Short is) (hk : ∀ i ∈ is, ∀ x ∈ i.ks, x < 18446744073709551616) (w : World)
    (hT : Prs w w.heap.size (.slice A 2 c) awT) (hv : ItRow w v is) :
    Calls Try.prog 23 #[.slice A 2 c, v] w fun e w' => e = .returned (.bool b) ∧ Below w.heap.size w w' := by
  have := oAll_any (.slice A 2 c) v awT is w hT hv (by decide) hs hk
  rw [hb] at this
  exact this
theorem aw_rightC (A : Option Addr) (c : Nat) (w : World) (hT : Prs w w.heap.size (.slice A 2 c) awT) :
    Calls Try.prog 14 #[.slice A 2 c] w fun e w' => e = .returned (.bool true) ∧ Below w.heap.size w w' := by
  have := oRight_any (.slice A 2 c) awT w hT (by decide)
  rw [aw_right] at this
  exact this
theorem aw_validY (A : Option Addr) (c : Nat) (w : World) (hT : Prs w w.heap.size (.slice A 2 c) awT) :
    Calls Try.prog 16 #[.slice A 2 c, .agg #[.int .u64 1, .int .u64 7]] w fun e w' => e = .returned (.bool true) ∧ Below w.heap.size w w' := by
  have := oValid_any (.slice A 2 c) awT (1, 7) w hT (by decide)
  rw [show (rightO awT && decide ((1, 7) ∈ awT)) = true by decide] at this
  exact this
theorem aw_validN (A : Option Addr) (c : Nat) (w : World) (hT : Prs w w.heap.size (.slice A 2 c) awT) :
    Calls Try.prog 16 #[.slice A 2 c, .agg #[.int .u64 1, .int .u64 6]] w fun e w' => e = .returned (.bool false) ∧ Below w.heap.size w w' := by
  have := oValid_any (.slice A 2 c) awT (1, 6) w hT (by decide)
  rw [show (rightO awT && decide ((1, 6) ∈ awT)) = false by decide] at this
  exact this
theorem aw_pairs (A : Option Addr) (c : Nat) (v : Value) (w : World) (hT : Prs w w.heap.size (.slice A 2 c) awT) (hv : Prs w w.heap.size v awT) :
    Calls Try.prog 18 #[.slice A 2 c, v] w fun e w' => e = .returned (.bool true) ∧ Below w.heap.size w w' := by
  have := orPairs_any (.slice A 2 c) v awT awT w hT hv (by decide) (by decide)
  simpa using this
/-- Two items, one behind the other, as a row. -/
theorem two_items {w : World} {g : Nat} {t : TypeId} {K1 P1 K2 P2 : Option Addr} {k1 p1 k2 p2 : Nat} {i1 i2 : Itm}
    (h : RowAt w g t [.slice K1 i1.ks.length k1, .int .u64 (i1.root : Int), .bool i1.f, .slice P1 i1.l.length p1, .slice K2 i2.ks.length k2, .int .u64 (i2.root : Int), .bool i2.f, .slice P2 i2.l.length p2])
    (a1 : Wds w w.heap.size (.slice K1 i1.ks.length k1) i1.ks) (b1 : Prs w w.heap.size (.slice P1 i1.l.length p1) i1.l) (a2 : Wds w w.heap.size (.slice K2 i2.ks.length k2) i2.ks) (b2 : Prs w w.heap.size (.slice P2 i2.l.length p2) i2.l) :
    ItRow w (.slice (some ⟨g, 0, none⟩) 2 2) [i1, i2] := by
  refine ⟨some ⟨g, 0, none⟩, 2, rfl, Nat.le_refl _, fun _ => ⟨⟨g, 0, none⟩, rfl, h.lt, fun j i hj => ?_⟩⟩
  match j, hj with
  | 0, hj =>
    simp at hj
    subst hj
    exact ⟨K1, P1, k1, p1, h.cell 0, h.cell 1, h.cell 2, h.cell 3, a1, b1⟩
  | 1, hj =>
    simp at hj
    subst hj
    exact ⟨K2, P2, k2, p2, h.cell 4, h.cell 5, h.cell 6, h.cell 7, a2, b2⟩
end Go.Proofs.Ytjjccoliknngcaa
