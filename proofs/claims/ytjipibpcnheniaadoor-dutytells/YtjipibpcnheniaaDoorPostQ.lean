/- Steps of the rows' proofs: both variables laid; a list of ints, a token and a chain (its seed is no less than 0) that came in. -/
import Derived.Test.YtjipibpcnheniaaDoorPostN
import Derived.Test.YtjipibpcnheniaaDoorTokW
import Derived.Lib.SmallJoins
import Derived.Deep.SlicePairs
import Derived.OpenShut
namespace Go.Proofs.YtjipibpcnheniaaDoor
open Go.ChangeShapes Go.WideShapes Go.ChangeAt Go.RowKit Go.Joins

def natOf : Value → Nat
  | .int _ n => n.toNat
  | _ => 0
theorem token_of_trod {H : Type} {enc : TypeId × Value → H} {P : Program} {W : World} {r : Reach} {b0 : Nat} {t e : TypeId} {f0 f1 g0 g1 : Field} {v : Value} {d : DataW H} {ps : List MemPlace}
    (ht : P.underlying t = some (.struct #[f0, f1])) (hone : Go.Deep.oneCellFields P #[f0, f1] = true) (hC : P.cellsOf t = 2) (h0 : P.underlying f0.type = some .bool) (hs : P.underlying f1.type = some (.slice e)) (he : P.underlying e = some (.struct #[g0, g1])) (ce : P.cellsOf e = 2)
    (o0 : g0.offset = 0) (o1 : g1.offset = 1) (c0 : P.cellsOf g0.type = 1) (c1 : P.cellsOf g1.type = 1) (u0 : P.underlying g0.type = some (.int .u64)) (u1 : P.underlying g1.type = some (.int .u64))
    (hv : Value.okWide P W r b0 t v) (h : DataW.Trod enc P W 0 (fun _ => true) true t v d ps) :
    ∃ (f : Bool) (l : List Pr) (A : Option Addr) (cap : Nat), v = .agg #[.bool f, .slice A l.length cap] ∧ Tk W (.agg #[.bool f, .slice A l.length cap]) f l ∧ l.length ≤ cap ∧ cap ≤ maxLen := by
  obtain ⟨v0, v1, y0, y1, m, rfl, -, -, hy0, hy1⟩ := open_agg2 ht hone hC hv h
  obtain ⟨f, e0, -⟩ := DataW.trod_bool h0 hy0
  simp at e0
  subst e0
  rcases Go.Deep.open_slice_pairs hs he ce o0 o1 c0 c1 hy1 with ⟨hcs, _⟩ | ⟨a, len, cap, m', n, V0, V1, D0, D1, P0, P1, hcs, _, hl, hm, hmm, _, hx⟩
  · simp at hcs
    subst hcs
    exact ⟨f, [], none, 0, rfl, ⟨_, rfl, Prs.nil _ _⟩, Nat.le_refl _, Nat.zero_le _⟩
  · simp at hcs
    subst hcs
    have hlm : len ≤ m' := by rw [hmm]; simp; exact hl
    have key : ∀ i, i < len → W.cell? (a.add (i * 2)) = some (.int .u64 (natOf (V0 i) : Int)) ∧ W.cell? (a.add (i * 2 + 1)) = some (.int .u64 (natOf (V1 i) : Int)) := fun i hi => by
      obtain ⟨k0, k1, t0, t1⟩ := hx i (by omega)
      obtain ⟨n0, e0, -, w0⟩ := DataW.trod_int u0 t0
      obtain ⟨n1, e1, -, w1⟩ := DataW.trod_int u1 t1
      simp at e0 e1
      have b0 := bounds_u64 w0
      have b1 := bounds_u64 w1
      rw [k0, k1, e0, e1]
      refine ⟨?_, ?_⟩
      · show _ = some (Value.int .u64 ((n0.toNat : Nat) : Int)); rw [Int.toNat_of_nonneg b0.1]
      · show _ = some (Value.int .u64 ((n1.toNat : Nat) : Int)); rw [Int.toNat_of_nonneg b1.1]
    obtain ⟨l, hlist⟩ : ∃ l : List Pr, l = (List.range len).map fun i => (natOf (V0 i), natOf (V1 i)) := ⟨_, rfl⟩
    have hll : l.length = len := by rw [hlist]; simp
    refine ⟨f, l, some a, cap, by rw [hll], ⟨_, rfl, some a, cap, rfl, ⟨by omega, fun h => by cases h⟩, fun hp => ⟨a, rfl, ?_, fun j p hj => ?_⟩⟩, by omega, hm⟩
    · have := World.block_lt_of_cell? W _ (key 0 (by omega)).1
      rwa [add_block] at this
    · have hjl : j < len := by
        rcases Nat.lt_or_ge j l.length with k | k
        · omega
        · rw [List.getElem?_eq_none k] at hj; cases hj
      have hp2 : p = (natOf (V0 j), natOf (V1 j)) := by
        rw [hlist, List.getElem?_map, List.getElem?_range hjl] at hj
        simpa using hj.symm
      rw [hp2]
      exact key j hjl
theorem chainz_of_trod {H : Type} {enc : TypeId × Value → H} {P : Program} {W : World} {r : Reach} {b0 : Nat} {t ti tu : TypeId} {fs : Array Field} {v : Value} {d : DataW H} {ps : List MemPlace}
    (ht : P.underlying t = some (.struct fs)) (hone : Go.Deep.oneCellFields P fs = true) (hn : fs.size = 10) (hC : P.cellsOf t = 10) (ui : P.underlying ti = some (.int .i64)) (uu : P.underlying tu = some (.int .u64))
    (hti : ∀ (i : Nat) (f : Field), i < 9 → fs[i]? = some f → f.type = ti) (htu : ∀ f : Field, fs[9]? = some f → f.type = tu) (hv : Value.okWide P W r b0 t v) (h : DataW.Trod enc P W 0 (fun _ => true) true t v d ps) :
    ∃ (n0 n1 n2 n3 n4 n5 n6 n7 n8 : Int) (z : Nat), v = .agg #[.int .i64 n0, .int .i64 n1, .int .i64 n2, .int .i64 n3, .int .i64 n4, .int .i64 n5, .int .i64 n6, .int .i64 n7, .int .i64 n8, .int .u64 (z : Int)] := by
  obtain ⟨cs, rfl, hsz⟩ := okWide_struct ht hv
  obtain ⟨c0, c1, c2, c3, c4, c5, c6, c7, c8, c9, rfl⟩ := array10 (hsz.trans hC)
  obtain ⟨fuel, hf⟩ := h
  obtain ⟨xs, m, -, -, -, hl, hr⟩ := DataW.trod_struct ht hf
  have one : ∀ (j : Nat) (c : Value), j < 9 → (#[c0, c1, c2, c3, c4, c5, c6, c7, c8, c9] : Array Value).toList[j]? = some c → ∃ n : Int, c = .int .i64 n := by
    intro j c hj hc
    have hfi : fs[j]? = some (fs[j]'(by omega)) := Array.getElem?_eq_getElem (by omega)
    obtain ⟨ho, hcl⟩ := Go.Deep.hone_of hone j _ hfi
    have h1 := hr j _ hfi
    have hy : xs[j]? = some (xs[j]'(by omega)) := List.getElem?_eq_getElem (by omega)
    rw [hy, ho, hcl, one_cell (show (Value.agg #[c0, c1, c2, c3, c4, c5, c6, c7, c8, c9]).cells.toList[j]? = some c from hc), hti j _ hj hfi] at h1
    obtain ⟨n, e, -⟩ := DataW.trod_int ui h1
    simp at e
    exact ⟨n, e⟩
  have last : ∃ n : Nat, c9 = .int .u64 (n : Int) := by
    have hfi : fs[9]? = some (fs[9]'(by omega)) := Array.getElem?_eq_getElem (by omega)
    obtain ⟨ho, hcl⟩ := Go.Deep.hone_of hone 9 _ hfi
    have h1 := hr 9 _ hfi
    have hy : xs[9]? = some (xs[9]'(by omega)) := List.getElem?_eq_getElem (by omega)
    rw [hy, ho, hcl, one_cell (show (Value.agg #[c0, c1, c2, c3, c4, c5, c6, c7, c8, c9]).cells.toList[9]? = some c9 from rfl), htu _ hfi] at h1
    obtain ⟨n, e, -, w9⟩ := DataW.trod_int uu h1
    simp at e
    have := bounds_u64 w9
    exact ⟨n.toNat, by rw [e, Int.toNat_of_nonneg this.1]⟩
  obtain ⟨n0, rfl⟩ := one 0 c0 (by omega) rfl
  obtain ⟨n1, rfl⟩ := one 1 c1 (by omega) rfl
  obtain ⟨n2, rfl⟩ := one 2 c2 (by omega) rfl
  obtain ⟨n3, rfl⟩ := one 3 c3 (by omega) rfl
  obtain ⟨n4, rfl⟩ := one 4 c4 (by omega) rfl
  obtain ⟨n5, rfl⟩ := one 5 c5 (by omega) rfl
  obtain ⟨n6, rfl⟩ := one 6 c6 (by omega) rfl
  obtain ⟨n7, rfl⟩ := one 7 c7 (by omega) rfl
  obtain ⟨n8, rfl⟩ := one 8 c8 (by omega) rfl
  obtain ⟨z, rfl⟩ := last
  exact ⟨n0, n1, n2, n3, n4, n5, n6, n7, n8, z, rfl⟩
end Go.Proofs.YtjipibpcnheniaaDoor
