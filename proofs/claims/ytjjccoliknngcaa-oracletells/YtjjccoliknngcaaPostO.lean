/- Steps of the rows' proofs: words, and pairs, that came in, opened. -/
import Derived.Test.YtjjccoliknngcaaPostB
import Derived.Test.YtjjccoliknngcaaTokW
import Derived.Test.YtjjccoliknngcaaTokE
import Derived.Test.YtjjccoliknngcaaLagL
import Derived.Lib.SmallJoins
import Derived.Deep.SlicePairs
import Derived.OpenShut
namespace Go.Proofs.Ytjjccoliknngcaa
open Go.ChangeShapes Go.WideShapes Go.ChangeAt Go.RowKit Go.Joins

theorem word_of_wf {z : Int} (h : (Lit.int .u64 z).wf = true) : ∃ n : Nat, z = (n : Int) ∧ n < 18446744073709551616 := by
  have hb := bounds_u64 h
  obtain ⟨n, rfl⟩ := Int.eq_ofNat_of_zero_le hb.1
  exact ⟨n, rfl, by omega⟩
theorem words_of_trod {H : Type} {enc : TypeId × Value → H} {P : Program} {W : World} {t e : TypeId} {A : Option Addr} {len cap : Nat} {d : DataW H} {ps : List MemPlace}
    (ht : P.underlying t = some (.slice e)) (he : P.underlying e = some (.int .u64)) (hc : P.cellsOf e = 1)
    (h : DataW.Trod enc P W 0 (fun _ => true) true t (.slice A len cap) d ps) : ∃ xs : List Nat, Wds W W.heap.size (.slice A len cap) xs ∧ (∀ x ∈ xs, x < 18446744073709551616) ∧ xs.length ≤ maxLen := by
  obtain ⟨fuel, hf⟩ := h
  rcases open_ints ht he hc hf with ⟨hcs, _⟩ | ⟨x, l, c, zs, hcs, _, hl, hm, hz, _, hcell, hws⟩
  · simp [Value.cells] at hcs
    obtain ⟨rfl, rfl, rfl⟩ := hcs
    exact ⟨[], Elems.nil _ _ _, fun s hs => absurd hs (by simp), by simp⟩
  · simp [Value.cells] at hcs
    obtain ⟨rfl, rfl, rfl⟩ := hcs
    simp only [if_true] at hz
    have hlen : ((zs.take len).map Int.toNat).length = len := by rw [List.length_map, List.length_take]; omega
    refine ⟨(zs.take len).map Int.toNat, ⟨some x, cap, by rw [hlen], by omega, fun h0 => ⟨x, rfl, ?_, fun j s hs => ?_⟩⟩, fun s hs => ?_, by omega⟩
    · have := World.block_lt_of_cell? W _ (hcell 0 (by omega))
      rw [add_block] at this
      exact this
    · have hj : j < len := by
        rcases Nat.lt_or_ge j ((zs.take len).map Int.toNat).length with k | k
        · omega
        · rw [List.getElem?_eq_none k] at hs; cases hs
      rw [hcell j (by omega)]
      rw [List.getElem?_map, List.getElem?_take_of_lt hj] at hs
      obtain ⟨z, hz2, rfl⟩ := Option.map_eq_some_iff.1 hs
      obtain ⟨n, rfl, hn⟩ := word_of_wf (hws z (List.mem_of_getElem? hz2))
      simp [List.getD, hz2]
    · obtain ⟨z, hz2, rfl⟩ := List.mem_map.1 hs
      obtain ⟨n, rfl, hn⟩ := word_of_wf (hws z (List.mem_of_mem_take hz2))
      simpa using hn
def natOf : Value → Nat
  | .int _ n => n.toNat
  | _ => 0
theorem pairs_cap {H : Type} {enc : TypeId × Value → H} {P : Program} {W : World} {t e : TypeId} {g0 g1 : Field} {c : Value} {y : DataW H × List MemPlace} {m : Nat}
    (hs : P.underlying t = some (.slice e)) (he : P.underlying e = some (.struct #[g0, g1])) (ce : P.cellsOf e = 2)
    (o0 : g0.offset = 0) (o1 : g1.offset = 1) (c0 : P.cellsOf g0.type = 1) (c1 : P.cellsOf g1.type = 1) (u0 : P.underlying g0.type = some (.int .u64)) (u1 : P.underlying g1.type = some (.int .u64))
    (h : DataW.trod enc P W 0 (fun _ => true) true m t [c] = some y) :
    ∃ (l : List Pr) (A : Option Addr) (cap : Nat), c = .slice A l.length cap ∧ Prs W W.heap.size (.slice A l.length cap) l ∧ l.length ≤ cap := by
  rcases Go.Deep.open_slice_pairs hs he ce o0 o1 c0 c1 h with ⟨hcs, _⟩ | ⟨a, len, cap, m', n, V0, V1, D0, D1, P0, P1, hcs, _, hl, hm, hmm, _, hx⟩
  · simp at hcs
    subst hcs
    exact ⟨[], none, 0, rfl, Prs.nil _ _, Nat.le_refl _⟩
  · simp at hcs
    subst hcs
    have hlm : len ≤ m' := by rw [hmm]; simp; exact hl
    have key : ∀ i, i < len → W.cell? (a.add (i * 2)) = some (.int .u64 (natOf (V0 i) : Int)) ∧ W.cell? (a.add (i * 2 + 1)) = some (.int .u64 (natOf (V1 i) : Int)) := fun i hi => by
      obtain ⟨k0, k1, t0, t1⟩ := hx i (by omega)
      obtain ⟨n0, e0, -, w0⟩ := DataW.trod_int u0 t0
      obtain ⟨n1, e1, -, w1⟩ := DataW.trod_int u1 t1
      simp at e0 e1
      have b0 := bounds_u64 w0
      have b1 := bounds_u64 w1
      rw [k0, k1, e0, e1]
      refine ⟨?_, ?_⟩
      · show _ = some (Value.int .u64 ((n0.toNat : Nat) : Int)); rw [Int.toNat_of_nonneg b0.1]
      · show _ = some (Value.int .u64 ((n1.toNat : Nat) : Int)); rw [Int.toNat_of_nonneg b1.1]
    obtain ⟨l, hlist⟩ : ∃ l : List Pr, l = (List.range len).map fun i => (natOf (V0 i), natOf (V1 i)) := ⟨_, rfl⟩
    have hll : l.length = len := by rw [hlist]; simp
    refine ⟨l, some a, cap, by rw [hll], ⟨some a, cap, rfl, ⟨by omega, fun h => by cases h⟩, fun hp => ⟨a, rfl, ?_, fun j p hj => ?_⟩⟩, by omega⟩
    · have := World.block_lt_of_cell? W _ (key 0 (by omega)).1
      rwa [add_block] at this
    · have hjl : j < len := by
        rcases Nat.lt_or_ge j l.length with k | k
        · omega
        · rw [List.getElem?_eq_none k] at hj; cases hj
      have hp2 : p = (natOf (V0 j), natOf (V1 j)) := by
        rw [hlist, List.getElem?_map, List.getElem?_range hjl] at hj
        simpa using hj.symm
      rw [hp2]
      exact key j hjl
theorem word_one {H : Type} {enc : TypeId × Value → H} {P : Program} {W : World} {t : TypeId} {c : Value} {y : DataW H × List MemPlace} {m : Nat} (ht : P.underlying t = some (.int .u64)) (h : DataW.trod enc P W 0 (fun _ => true) true m t [c] = some y) : ∃ n : Nat, c = .int .u64 (n : Int) ∧ n < 18446744073709551616 := by
  obtain ⟨n, e, -, w⟩ := DataW.trod_int ht h
  simp at e
  have := bounds_u64 w
  exact ⟨n.toNat, by rw [e, Int.toNat_of_nonneg this.1], by omega⟩
theorem pairs_of_trod {H : Type} {enc : TypeId × Value → H} {P : Program} {W : World} {t e : TypeId} {g0 g1 : Field} {A : Option Addr} {len cap : Nat} {d : DataW H} {ps : List MemPlace}
    (hs : P.underlying t = some (.slice e)) (he : P.underlying e = some (.struct #[g0, g1])) (ce : P.cellsOf e = 2)
    (o0 : g0.offset = 0) (o1 : g1.offset = 1) (c0 : P.cellsOf g0.type = 1) (c1 : P.cellsOf g1.type = 1) (u0 : P.underlying g0.type = some (.int .u64)) (u1 : P.underlying g1.type = some (.int .u64))
    (h : DataW.Trod enc P W 0 (fun _ => true) true t (.slice A len cap) d ps) : ∃ xs : List Pr, Prs W W.heap.size (.slice A len cap) xs ∧ xs.length ≤ maxLen := by
  obtain ⟨fuel, hf⟩ := h
  have hf' : DataW.trod enc P W 0 (fun _ => true) true fuel t [.slice A len cap] = some (d, ps) := by simpa [Value.cells] using hf
  obtain ⟨l, A', cap', he', hP, _⟩ := pairs_cap hs he ce o0 o1 c0 c1 u0 u1 hf'
  injection he' with h1 h2 h3
  subst h1; subst h2; subst h3
  refine ⟨l, hP, ?_⟩
  rcases Go.Deep.open_slice_pairs hs he ce o0 o1 c0 c1 hf' with ⟨hcs, _⟩ | ⟨a, len, cap, m', n, V0, V1, D0, D1, P0, P1, hcs, _, hl, hm, _⟩
  · simp at hcs
    rw [hcs.2.1]; exact Nat.zero_le _
  · simp at hcs
    omega
theorem pair_of_trod {H : Type} {enc : TypeId × Value → H} {P : Program} {W : World} {r : Reach} {b0 : Nat} {t : TypeId} {f0 f1 : Field} {v : Value} {d : DataW H} {ps : List MemPlace}
    (ht : P.underlying t = some (.struct #[f0, f1])) (hone : Go.Deep.oneCellFields P #[f0, f1] = true) (hC : P.cellsOf t = 2) (u0 : P.underlying f0.type = some (.int .u64)) (u1 : P.underlying f1.type = some (.int .u64))
    (hv : Value.okWide P W r b0 t v) (h : DataW.Trod enc P W 0 (fun _ => true) true t v d ps) :
    ∃ a b : Nat, v = .agg #[.int .u64 (a : Int), .int .u64 (b : Int)] ∧ a < 18446744073709551616 ∧ b < 18446744073709551616 := by
  obtain ⟨v0, v1, y0, y1, m, rfl, -, -, h0, h1⟩ := open_agg2 ht hone hC hv h
  obtain ⟨a, rfl, ha⟩ := word_one u0 h0
  obtain ⟨b, rfl, hb⟩ := word_one u1 h1
  exact ⟨a, b, rfl, ha, hb⟩
end Go.Proofs.Ytjjccoliknngcaa
