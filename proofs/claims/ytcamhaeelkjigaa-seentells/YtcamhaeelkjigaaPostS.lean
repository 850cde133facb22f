/- Steps of the rows' proofs: marks, and threes of numbers, that came in, opened. -/
import Derived.Test.YtcamhaeelkjigaaPostB
import Derived.Test.YtcamhaeelkjigaaSenF
import Derived.Lib.SmallJoins
import Derived.Laws.IdiomArrays
import Derived.Deep.SlicePairs
import Derived.OpenShut
namespace Go.Proofs.Ytcamhaeelkjigaa
open Go.ChangeShapes Go.WideShapes Go.ChangeAt Go.RowKit Go.Joins

theorem int_ofS {H : Type} {enc : TypeId × Value → H} {P : Program} {W : World} {t : TypeId} {c : Value} {y : DataW H × List MemPlace} {m : Nat} (ht : P.underlying t = some (.int .i64)) (h : DataW.trod enc P W 0 (fun _ => true) true m t [c] = some y) : ∃ n : Int, c = .int .i64 n ∧ I64M n := by
  obtain ⟨n, e, -, w⟩ := DataW.trod_int ht h
  simp at e
  exact ⟨n, e, bounds_i64 w⟩
/-- What reads at a type as three whole numbers. -/
def ThreeS {H : Type} (enc : TypeId × Value → H) (P : Program) (W : World) (e : TypeId) : Prop :=
  P.cellsOf e = 3 ∧ ∀ (m : Nat) (c0 c1 c2 : Value) (y : DataW H × List MemPlace), DataW.trod enc P W 0 (fun _ => true) true m e [c0, c1, c2] = some y → ∃ z : Mk, c0 = .int .i64 z.1 ∧ c1 = .int .i64 z.2.1 ∧ c2 = .int .i64 z.2.2 ∧ RawM z
theorem three_array {H : Type} {enc : TypeId × Value → H} {P : Program} {W : World} {e i : TypeId} (he : P.underlying e = some (.array 3 i)) (ce : P.cellsOf e = 3) (ci : P.cellsOf i = 1) (ui : P.underlying i = some (.int .i64)) : ThreeS enc P W e := by
  refine ⟨ce, fun m c0 c1 c2 y h => ?_⟩
  obtain ⟨y0, y1, y2, n, -, h0, h1, h2⟩ := trod_array3 he ci h
  obtain ⟨z0, rfl, b0⟩ := int_ofS ui h0
  obtain ⟨z1, rfl, b1⟩ := int_ofS ui h1
  obtain ⟨z2, rfl, b2⟩ := int_ofS ui h2
  exact ⟨(z0, z1, z2), rfl, rfl, rfl, b0, b1, b2⟩
theorem three_struct {H : Type} {enc : TypeId × Value → H} {P : Program} {W : World} {e : TypeId} {f0 f1 f2 : Field} (he : P.underlying e = some (.struct #[f0, f1, f2])) (hone : Go.Deep.oneCellFields P #[f0, f1, f2] = true) (ce : P.cellsOf e = 3)
    (u0 : P.underlying f0.type = some (.int .i64)) (u1 : P.underlying f1.type = some (.int .i64)) (u2 : P.underlying f2.type = some (.int .i64)) : ThreeS enc P W e := by
  refine ⟨ce, fun m c0 c1 c2 y h => ?_⟩
  obtain ⟨y0, y1, y2, n, hx, _, h0, h1, h2⟩ := Go.Deep.trod_struct3 he h
  obtain ⟨o0, k0⟩ := Go.Deep.hone_of hone 0 f0 rfl
  obtain ⟨o1, k1⟩ := Go.Deep.hone_of hone 1 f1 rfl
  obtain ⟨o2, k2⟩ := Go.Deep.hone_of hone 2 f2 rfl
  obtain ⟨z0, rfl, b0⟩ := int_ofS u0 (by simpa [o0, k0] using h0)
  obtain ⟨z1, rfl, b1⟩ := int_ofS u1 (by simpa [o1, k1] using h1)
  obtain ⟨z2, rfl, b2⟩ := int_ofS u2 (by simpa [o2, k2] using h2)
  exact ⟨(z0, z1, z2), rfl, rfl, rfl, b0, b1, b2⟩
theorem marks_of_trod {H : Type} {enc : TypeId × Value → H} {P : Program} {W : World} {t e : TypeId} {A : Option Addr} {len cap : Nat} {d : DataW H} {ps : List MemPlace}
    (hs : P.underlying t = some (.slice e)) (he : ThreeS enc P W e)
    (h : DataW.Trod enc P W 0 (fun _ => true) true t (.slice A len cap) d ps) : ∃ xs : List Mk, Mks W W.heap.size (.slice A len cap) xs ∧ xs.length ≤ maxLen ∧ ∀ x ∈ xs, RawM x := by
  obtain ⟨fuel, hf⟩ := h
  have hf' : DataW.trod enc P W 0 (fun _ => true) true fuel t [.slice A len cap] = some (d, ps) := by simpa [Value.cells] using hf
  obtain ⟨ce, hel⟩ := he
  rcases Go.Deep.open_slice hs hf' with ⟨hcs, _⟩ | ⟨a, len', cap', m, n, D, Pl, hcs, _, hl, hm, hmm, _, hx⟩
  · simp at hcs
    obtain ⟨rfl, rfl, rfl⟩ := hcs
    exact ⟨[], Mks.nil _ _, Nat.zero_le _, fun x hx => absurd hx (by simp)⟩
  · simp at hcs
    obtain ⟨rfl, rfl, rfl⟩ := hcs
    have hlm : len ≤ m := by rw [hmm]; simp; exact hl
    have key : ∀ i, i < len → ∃ z : Mk, (W.cell? (a.add (i * 3)) = some (.int .i64 z.1) ∧ W.cell? (a.add (i * 3 + 1)) = some (.int .i64 z.2.1) ∧ W.cell? (a.add (i * 3 + 2)) = some (.int .i64 z.2.2)) ∧ RawM z := fun i hi => by
      obtain ⟨cs', h1, h2⟩ := hx i (by omega)
      rw [ce] at h1
      obtain ⟨_, hlen, hcell⟩ := World.cells?_some h1
      match cs', hlen with
      | [c0, c1, c2], _ =>
        obtain ⟨z, rfl, rfl, rfl, hz⟩ := hel _ _ _ _ _ h2
        have e0 := hcell 0 (by omega)
        have e1 := hcell 1 (by omega)
        have e2 := hcell 2 (by omega)
        rw [add_add] at e0 e1 e2
        exact ⟨z, ⟨by simpa using e0, by simpa using e1, by simpa using e2⟩, hz⟩
    obtain ⟨Z, hZ⟩ := Go.Deep.choose_lt key
    obtain ⟨l, hlist⟩ : ∃ l : List Mk, l = (List.range len).map Z := ⟨_, rfl⟩
    have hll : l.length = len := by rw [hlist]; simp
    have hget : ∀ j p, l[j]? = some p → j < len ∧ p = Z j := fun j p hj => by
      have hjl : j < len := by
        rcases Nat.lt_or_ge j l.length with k | k
        · omega
        · rw [List.getElem?_eq_none k] at hj; cases hj
      rw [hlist, List.getElem?_map, List.getElem?_range hjl] at hj
      exact ⟨hjl, by simpa using hj.symm⟩
    refine ⟨l, ⟨some a, cap, by rw [hll], ⟨by omega, fun h => by cases h⟩, fun hp => ⟨a, rfl, ?_, fun j p hj => ?_⟩⟩, by omega, fun x hx => ?_⟩
    · have := World.block_lt_of_cell? W _ (hZ 0 (by omega)).1.1
      rwa [add_block] at this
    · obtain ⟨hj1, rfl⟩ := hget j p hj
      exact (hZ j hj1).1
    · obtain ⟨j, hj⟩ := List.mem_iff_getElem?.1 hx
      obtain ⟨hj1, rfl⟩ := hget j x hj
      exact (hZ j hj1).2
theorem okWide_arrayS {P : Program} {w : World} {r : Reach} {b : Nat} {t e : TypeId} {n : Nat} {v : Value} (ht : P.underlying t = some (.array n e)) (h : Value.okWide P w r b t v) : ∃ cs, v = .agg cs ∧ cs.size = P.cellsOf t := by
  simp only [Value.okWide, ht] at h
  obtain ⟨cs, h1, h2, _⟩ := h
  exact ⟨cs, h1, h2⟩
theorem three_of_trod {H : Type} {enc : TypeId × Value → H} {P : Program} {W : World} {t : TypeId} {v : Value} {d : DataW H} {ps : List MemPlace}
    (he : ThreeS enc P W t) (hv : ∃ cs, v = .agg cs ∧ cs.size = P.cellsOf t) (h : DataW.Trod enc P W 0 (fun _ => true) true t v d ps) :
    ∃ a b c : Int, v = .agg #[.int .i64 a, .int .i64 b, .int .i64 c] ∧ RawM (a, b, c) := by
  obtain ⟨ce, hel⟩ := he
  obtain ⟨cs, rfl, hsz⟩ := hv
  obtain ⟨c0, c1, c2, rfl⟩ := array3 (hsz.trans ce)
  obtain ⟨fuel, hf⟩ := h
  obtain ⟨z, rfl, rfl, rfl, hz⟩ := hel fuel c0 c1 c2 _ (by simpa [Value.cells] using hf)
  exact ⟨z.1, z.2.1, z.2.2, rfl, hz⟩
end Go.Proofs.Ytcamhaeelkjigaa
