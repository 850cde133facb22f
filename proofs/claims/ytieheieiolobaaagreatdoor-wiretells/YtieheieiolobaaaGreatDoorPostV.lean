/- Steps of the rows' proofs: a vote that came in by value, opened. -/
import Derived.Test.YtieheieiolobaaaGreatDoorPostZ
import Derived.Deep.SlicePairs
namespace Go.Proofs.YtieheieiolobaaaGreatDoor
open Go.ChangeShapes Go.WideShapes Go.ChangeAt Go.RowKit Go.Joins

section
variable {H : Type} {enc : TypeId × Value → H} {P : Program} {w : World} {base : Nat} {spare : Nat → Bool} {held : Bool}
theorem trod_two {t : TypeId} {f0 f1 : Field} {fuel : Nat} {cs : List Value} {x : DataW H × List MemPlace} (ht : P.underlying t = some (.struct #[f0, f1])) (h : DataW.trod enc P w base spare held fuel t cs = some x) :
    ∃ y0 y1 n, DataW.trod enc P w base spare held n f0.type ((cs.drop f0.offset).take (P.cellsOf f0.type)) = some y0 ∧
      DataW.trod enc P w base spare held n f1.type ((cs.drop f1.offset).take (P.cellsOf f1.type)) = some y1 := by
  obtain ⟨xs, n, _, rfl, hl, hlen, hf⟩ := DataW.trod_struct ht h
  match xs, hlen with
  | [y0, y1], _ => exact ⟨y0, y1, n, by simpa using hf 0 f0 rfl, by simpa using hf 1 f1 rfl⟩
theorem trod_three {t : TypeId} {f0 f1 f2 : Field} {fuel : Nat} {cs : List Value} {x : DataW H × List MemPlace} (ht : P.underlying t = some (.struct #[f0, f1, f2])) (h : DataW.trod enc P w base spare held fuel t cs = some x) :
    ∃ y0 y1 y2 n, DataW.trod enc P w base spare held n f0.type ((cs.drop f0.offset).take (P.cellsOf f0.type)) = some y0 ∧
      DataW.trod enc P w base spare held n f1.type ((cs.drop f1.offset).take (P.cellsOf f1.type)) = some y1 ∧ DataW.trod enc P w base spare held n f2.type ((cs.drop f2.offset).take (P.cellsOf f2.type)) = some y2 := by
  obtain ⟨xs, n, _, rfl, hl, hlen, hf⟩ := DataW.trod_struct ht h
  match xs, hlen with
  | [y0, y1, y2], _ => exact ⟨y0, y1, y2, n, by simpa using hf 0 f0 rfl, by simpa using hf 1 f1 rfl, by simpa using hf 2 f2 rfl⟩
end
theorem ints_cap {H : Type} {enc : TypeId × Value → H} {P : Program} {W : World} {t e : TypeId} {c : Value} {y : DataW H × List MemPlace} {m : Nat} (hs : P.underlying t = some (.slice e)) (he : P.underlying e = some (.int .i64)) (hc : P.cellsOf e = 1) (h : DataW.trod enc P W 0 (fun _ => true) true m t [c] = some y) :
    ∃ (xs : List Int) (A : Option Addr) (cap : Nat), c = .slice A xs.length cap ∧ Ints W W.heap.size (.slice A xs.length cap) xs ∧ xs.length ≤ cap := by
  have key : ∀ (A : Option Addr) (len cap : Nat), c = .slice A len cap → len ≤ cap → ∃ (xs : List Int) (A : Option Addr) (cap : Nat), c = .slice A xs.length cap ∧ Ints W W.heap.size (.slice A xs.length cap) xs ∧ xs.length ≤ cap := by
    intro A len cap hc1 hl
    subst hc1
    obtain ⟨xs, hx, -, -⟩ := ints_of_trod (d := y.1) (ps := y.2) hs he hc ⟨m, h⟩
    obtain ⟨A', c', he', -⟩ := hx.form
    simp only [Value.slice.injEq] at he'
    obtain ⟨rfl, hlen, rfl⟩ := he'
    subst hlen
    exact ⟨xs, A, cap, rfl, hx, hl⟩
  rcases open_ints hs he hc h with ⟨hcs, _⟩ | ⟨x, l, c', zs, hcs, _, hl, _⟩
  · simp at hcs
    exact key none 0 0 hcs (Nat.le_refl _)
  · simp at hcs
    exact key (some x) l c' hcs hl
def natOf : Value → Nat
  | .int _ n => n.toNat
  | _ => 0
theorem pairs_cap {H : Type} {enc : TypeId × Value → H} {P : Program} {W : World} {t e : TypeId} {g0 g1 : Field} {c : Value} {y : DataW H × List MemPlace} {m : Nat}
    (hs : P.underlying t = some (.slice e)) (he : P.underlying e = some (.struct #[g0, g1])) (ce : P.cellsOf e = 2)
    (o0 : g0.offset = 0) (o1 : g1.offset = 1) (c0 : P.cellsOf g0.type = 1) (c1 : P.cellsOf g1.type = 1) (u0 : P.underlying g0.type = some (.int .u64)) (u1 : P.underlying g1.type = some (.int .u64))
    (h : DataW.trod enc P W 0 (fun _ => true) true m t [c] = some y) :
    ∃ (l : List Pr) (A : Option Addr) (cap : Nat), c = .slice A l.length cap ∧ Prs W W.heap.size (.slice A l.length cap) l ∧ l.length ≤ cap := by
  rcases Go.Deep.open_slice_pairs hs he ce o0 o1 c0 c1 h with ⟨hcs, _⟩ | ⟨a, len, cap, m', n, V0, V1, D0, D1, P0, P1, hcs, _, hl, hm, hmm, _, hx⟩
  · simp at hcs
    subst hcs
    exact ⟨[], none, 0, rfl, Prs.nil _ _, Nat.le_refl _⟩
  · simp at hcs
    subst hcs
    have hlm : len ≤ m' := by rw [hmm]; simp; exact hl
    have key : ∀ i, i < len → W.cell? (a.add (i * 2)) = some (.int .u64 (natOf (V0 i) : Int)) ∧ W.cell? (a.add (i * 2 + 1)) = some (.int .u64 (natOf (V1 i) : Int)) := fun i hi => by
      obtain ⟨k0, k1, t0, t1⟩ := hx i (by omega)
      obtain ⟨n0, e0, -, w0⟩ := DataW.trod_int u0 t0
      obtain ⟨n1, e1, -, w1⟩ := DataW.trod_int u1 t1
      simp at e0 e1
      have b0 := bounds_u64 w0
      have b1 := bounds_u64 w1
      rw [k0, k1, e0, e1]
      refine ⟨?_, ?_⟩
      · show _ = some (Value.int .u64 ((n0.toNat : Nat) : Int)); rw [Int.toNat_of_nonneg b0.1]
      · show _ = some (Value.int .u64 ((n1.toNat : Nat) : Int)); rw [Int.toNat_of_nonneg b1.1]
    obtain ⟨l, hlist⟩ : ∃ l : List Pr, l = (List.range len).map fun i => (natOf (V0 i), natOf (V1 i)) := ⟨_, rfl⟩
    have hll : l.length = len := by rw [hlist]; simp
    refine ⟨l, some a, cap, by rw [hll], ⟨some a, cap, rfl, ⟨by omega, fun h => by cases h⟩, fun hp => ⟨a, rfl, ?_, fun j p hj => ?_⟩⟩, by omega⟩
    · have := World.block_lt_of_cell? W _ (key 0 (by omega)).1
      rwa [add_block] at this
    · have hjl : j < len := by
        rcases Nat.lt_or_ge j l.length with k | k
        · omega
        · rw [List.getElem?_eq_none k] at hj; cases hj
      have hp2 : p = (natOf (V0 j), natOf (V1 j)) := by
        rw [hlist, List.getElem?_map, List.getElem?_range hjl] at hj
        simpa using hj.symm
      rw [hp2]
      exact key j hjl
theorem vote_of_trod {H : Type} {enc : TypeId × Value → H} {P : Program} {W : World} {r : Reach} {b0 : Nat} {t ei ep : TypeId} {f0 f1 f2 d0 d1 d2 d3 d4 s0 s1 k0 k1 g0 g1 : Field} {v : Value} {d : DataW H} {ps : List MemPlace}
    (ht : P.underlying t = some (.struct #[f0, f1, f2])) (hC : P.cellsOf t = 9) (o0 : f0.offset = 0) (o1 : f1.offset = 5) (o2 : f2.offset = 7) (z0 : P.cellsOf f0.type = 5) (z1 : P.cellsOf f1.type = 2) (z2 : P.cellsOf f2.type = 2)
    (hd : P.underlying f0.type = some (.struct #[d0, d1, d2, d3, d4])) (od : d0.offset = 0 ∧ d1.offset = 1 ∧ d2.offset = 2 ∧ d3.offset = 3 ∧ d4.offset = 4) (zd : P.cellsOf d0.type = 1 ∧ P.cellsOf d1.type = 1 ∧ P.cellsOf d2.type = 1 ∧ P.cellsOf d3.type = 1 ∧ P.cellsOf d4.type = 1)
    (ud : P.underlying d0.type = some (.int .u64) ∧ P.underlying d1.type = some (.int .u64) ∧ P.underlying d2.type = some (.int .u64) ∧ P.underlying d3.type = some (.int .u64) ∧ P.underlying d4.type = some (.int .u64))
    (hb : P.underlying f1.type = some (.struct #[s0, s1])) (ob : s0.offset = 0 ∧ s1.offset = 1) (zb : P.cellsOf s0.type = 1 ∧ P.cellsOf s1.type = 1) (ub : P.underlying s0.type = some (.int .i64)) (us : P.underlying s1.type = some (.slice ei)) (ui : P.underlying ei = some (.int .i64)) (zi : P.cellsOf ei = 1)
    (hk : P.underlying f2.type = some (.struct #[k0, k1])) (ok : k0.offset = 0 ∧ k1.offset = 1) (zk : P.cellsOf k0.type = 1 ∧ P.cellsOf k1.type = 1) (uk : P.underlying k0.type = some .bool) (up : P.underlying k1.type = some (.slice ep)) (ue : P.underlying ep = some (.struct #[g0, g1])) (ce : P.cellsOf ep = 2)
    (og : g0.offset = 0 ∧ g1.offset = 1) (zg : P.cellsOf g0.type = 1 ∧ P.cellsOf g1.type = 1) (ug : P.underlying g0.type = some (.int .u64) ∧ P.underlying g1.type = some (.int .u64))
    (hv : Value.okWide P W r b0 t v) (h : DataW.Trod enc P W 0 (fun _ => true) true t v d ps) :
    ∃ (n0 n1 n2 n3 n4 : Nat) (n : Int) (on : List Int) (l : List Pr) (f : Bool) (A B : Option Addr) (c k : Nat), v = .agg #[.int .u64 (n0 : Int), .int .u64 (n1 : Int), .int .u64 (n2 : Int), .int .u64 (n3 : Int), .int .u64 (n4 : Int), .int .i64 n, .slice A on.length c, .bool f, .slice B l.length k] ∧
      Bt W (.agg #[.int .i64 n, .slice A on.length c]) n on ∧ Tk W (.agg #[.bool f, .slice B l.length k]) f l ∧ on.length ≤ c ∧ l.length ≤ k := by
  obtain ⟨cs, rfl, hsz⟩ := okWide_struct ht hv
  obtain ⟨c0, c1, c2, c3, c4, c5, c6, c7, c8, rfl⟩ := array9 (hsz.trans hC)
  obtain ⟨fuel, hf⟩ := h
  obtain ⟨y0, y1, y2, m, h0, h1, h2⟩ := trod_three ht hf
  have h0' : DataW.trod enc P W 0 (fun _ => true) true m f0.type [c0, c1, c2, c3, c4] = some y0 := by simpa [Value.cells, o0, z0] using h0
  have h1' : DataW.trod enc P W 0 (fun _ => true) true m f1.type [c5, c6] = some y1 := by simpa [Value.cells, o1, z1] using h1
  have h2' : DataW.trod enc P W 0 (fun _ => true) true m f2.type [c7, c8] = some y2 := by simpa [Value.cells, o2, z2] using h2
  obtain ⟨x0, x1, x2, x3, x4, m0, -, -, g0, g1, g2, g3, g4⟩ := trod_five hd h0'
  obtain ⟨n0, rfl, -⟩ := word_one (c := c0) (m := m0) ud.1 (by simpa [od.1, zd.1] using g0)
  obtain ⟨n1, rfl, -⟩ := word_one (c := c1) (m := m0) ud.2.1 (by simpa [od.2.1, zd.2.1] using g1)
  obtain ⟨n2, rfl, -⟩ := word_one (c := c2) (m := m0) ud.2.2.1 (by simpa [od.2.2.1, zd.2.2.1] using g2)
  obtain ⟨n3, rfl, -⟩ := word_one (c := c3) (m := m0) ud.2.2.2.1 (by simpa [od.2.2.2.1, zd.2.2.2.1] using g3)
  obtain ⟨n4, rfl, -⟩ := word_one (c := c4) (m := m0) ud.2.2.2.2 (by simpa [od.2.2.2.2, zd.2.2.2.2] using g4)
  obtain ⟨p0, p1, m1, q0, q1⟩ := trod_two hb h1'
  obtain ⟨n, rfl, -⟩ := int_one (c := c5) (m := m1) ub (by simpa [ob.1, zb.1] using q0)
  obtain ⟨on, A, c, rfl, hI, lc⟩ := ints_cap (c := c6) (m := m1) us ui zi (by simpa [ob.2, zb.2] using q1)
  obtain ⟨t0, t1, m2, r0, r1⟩ := trod_two hk h2'
  have r0' : DataW.trod enc P W 0 (fun _ => true) true m2 k0.type [c7] = some t0 := by simpa [ok.1, zk.1] using r0
  obtain ⟨f, ef, -⟩ := DataW.trod_bool uk r0'
  simp at ef
  subst ef
  obtain ⟨l, B, k, rfl, hP, lk⟩ := pairs_cap (c := c8) (m := m2) up ue ce og.1 og.2 zg.1 zg.2 ug.1 ug.2 (by simpa [ok.2, zk.2] using r1)
  exact ⟨n0, n1, n2, n3, n4, n, on, l, f, A, B, c, k, rfl, ⟨_, rfl, hI⟩, ⟨_, rfl, hP⟩, lc, lk⟩
end Go.Proofs.YtieheieiolobaaaGreatDoor
