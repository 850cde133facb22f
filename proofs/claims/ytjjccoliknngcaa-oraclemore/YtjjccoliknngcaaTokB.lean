/- The document's own answers for layer 5: two. -/
import Derived.Test.YtjjccoliknngcaaTokA
import Derived.OwnWalk
namespace Go.Proofs.Ytjjccoliknngcaa
open Go.RowKit

theorem info_pair : (Try.prog.info? 27).map (fun i => (i.zero, i.size, i.bytes)) = some (some (.agg #[.int .u64 0, .int .u64 0]), 2, 16) := by kernel_rfl
theorem mrg_step_a {a b : List Pr} {i k : Nat} (hi : i < a.length) (hk : k < b.length) (h : aheadB b[k] a[i] = false) : mrg (a.drop i) (b.drop k) = a[i] :: mrg (a.drop (i + 1)) (b.drop k) := by
  rw [List.drop_eq_getElem_cons hi, List.drop_eq_getElem_cons hk, mrg_cons, h]; rfl
theorem mrg_step_b {a b : List Pr} {i k : Nat} (hk : k < b.length) (h : ∀ hi : i < a.length, aheadB b[k] a[i] = true) : mrg (a.drop i) (b.drop k) = b[k] :: mrg (a.drop i) (b.drop (k + 1)) := by
  by_cases hi : i < a.length
  · rw [List.drop_eq_getElem_cons hi, List.drop_eq_getElem_cons hk, mrg_cons, h hi]; rfl
  · rw [List.drop_of_length_le (by omega), nil_mrg, nil_mrg, List.drop_eq_getElem_cons hk]
theorem flat_snoc (l : List Pr) (p : Pr) : (l ++ [p]).flatMap pairCells = l.flatMap pairCells ++ [.int .u64 (p.1 : Int), .int .u64 (p.2 : Int)] := by
  rw [List.flatMap_append]; simp [pairCells]

theorem tOwns_below {W W' : World} {base : Nat} {e : TypeId} {size k : Nat} {v : Value} {xs : List Value} (h : W.ownsRow base e size v k xs) (hb : Below W.heap.size W W') : W'.ownsRow base e size v k xs :=
  h.kept (row := none) ⟨hb.os, hb.tape, hb.output, hb.size, fun k hk _ => hb.block k hk⟩ (by
    rcases h.2 with ⟨rfl, _⟩ | ⟨g, cap, cur, rfl, _⟩
    · exact .inl rfl
    · exact .inr (by simp [Value.ownBlock]))

theorem Prs.cells2 {w : World} {B : Nat} {ad : Addr} {n c : Nat} {l : List Pr} (h : Prs w B (.slice (some ad) n c) l) : ∀ j p, l[j]? = some p → w.cell? (ad.add (j * 2)) = some (.int .u64 (p.1 : Int)) ∧ w.cell? (ad.add (j * 2 + 1)) = some (.int .u64 (p.2 : Int)) := by
  intro j p hj
  obtain ⟨A', c', hv, _, ha⟩ := h
  injection hv with h1 h2 h3
  subst h1
  have hjl : j < l.length := by
    rcases Nat.lt_or_ge j l.length with k | k
    · exact k
    · rw [List.getElem?_eq_none k] at hj; cases hj
  obtain ⟨ad', e, _, hc⟩ := ha (by omega)
  injection e with e
  subst e
  exact hc j p hj
theorem pairs_one (l : List Pr) : ∀ u ∈ l.flatMap pairCells, u.oneCell' = true := by
  intro u hu
  obtain ⟨p, _, hp⟩ := List.mem_flatMap.1 hu
  simp [pairCells] at hp
  rcases hp with rfl | rfl <;> rfl
theorem pairs_from {w : World} {B : Nat} {ad : Addr} {m c : Nat} {l : List Pr} (h : Prs w B (.slice (some ad) m c) l) (n : Nat) : ∀ j u, ((l.drop n).flatMap pairCells)[j]? = some u → w.cell? ((ad.add (n * 2)).add j) = some u := by
  intro j u hj
  have hjl : j < (l.drop n).length * 2 := by
    rw [← flat_pairs_length]
    rcases Nat.lt_or_ge j ((l.drop n).flatMap pairCells).length with k | k
    · exact k
    · rw [List.getElem?_eq_none k] at hj; cases hj
  have hq : j / 2 < (l.drop n).length := by omega
  obtain ⟨g1, g2⟩ := flat_pairs_get (l.drop n) (j / 2) _ (List.getElem?_eq_getElem hq)
  have hl : l[n + j / 2]? = some (l.drop n)[j / 2] := by rw [← List.getElem?_drop]; exact List.getElem?_eq_getElem hq
  obtain ⟨c1, c2⟩ := h.cells2 _ _ hl
  rw [add_add]
  rcases (by omega : j = j / 2 * 2 ∨ j = j / 2 * 2 + 1) with e | e
  · rw [← e] at g1
    rw [g1] at hj
    rw [show n * 2 + j = (n + j / 2) * 2 by omega, c1]
    exact hj
  · rw [← e] at g2
    rw [g2] at hj
    rw [show n * 2 + j = (n + j / 2) * 2 + 1 by omega, c2]
    exact hj
theorem from_own {w : World} {base : Nat} {e : TypeId} {size n : Nat} {v : Value} {xs : List Value} (h : w.ownsRow base e size v n xs) : FromOn base v := by
  intro ad m c hv
  rcases h.2 with ⟨e, _⟩ | ⟨g, cap, cur, e, hb, _⟩
  · rw [e] at hv; cases hv
  · rw [e] at hv; cases hv; exact hb
theorem Prs.setCell {w : World} {B lo : Nat} {v : Value} {l : List Pr} (h : Prs w B v l) (hf : FromOn lo v) {p : Addr} (hp : p.block < lo) (u : Value) : Prs (w.setCell p u) B v l := by
  obtain ⟨A, c, hv, hc, ha⟩ := h
  refine ⟨A, c, hv, hc, fun h0 => ?_⟩
  obtain ⟨ad, e, hb, hcell⟩ := ha h0
  subst e
  have hlo := hf ad _ _ hv
  have hne : ∀ j, p ≠ ad.add j := fun j e => by
    have : p.block = (ad.add j).block := by rw [e]
    rw [add_block] at this
    omega
  refine ⟨ad, rfl, hb, fun j s hs => ?_⟩
  rw [World.cell?_setCell_other _ _ _ _ (hne _), World.cell?_setCell_other _ _ _ _ (hne _)]
  exact hcell j s hs
/- append of an empty slice -/
theorem run_append_empty {P : Program} (w : World) (t ty e : TypeId) (i : TypeInfo) (ht : P.underlying t = some (.slice e)) (hi : P.info? e = some i) (S X : Option Addr) (n c cx : Nat) (hnc : n ≤ c) :
    (Builtin.append_ #[t, t] ty #[.slice S n c, .slice X 0 cx]).run P w = .ok (.slice S n c) w := by
  cases S <;> cases X <;> simp [Builtin.append_, run_underlying ht, sizeOf, typeInfo, hi, Builtin.lenOf, Builtin.firstCells, loadCells, loadCellsFrom, storeCells, hnc]
theorem wpList_append_empty {P : Program} {w : World} {ops : Array Oper} {rest : List Oper} {o : Oper} {a : Act} {Q : Exit → Act → World → Prop} (hgd : o.guard = none) (s x : Operand) (t : TypeId)
    (ho : o.op = .call { callee := .builtin .append, args := #[s, x], argTypes := #[t, t] }) (e : TypeId) (i : TypeInfo) (ht : P.underlying t = some (.slice e)) (hi : P.info? e = some i)
    (S X : Option Addr) (n c cx : Nat) (hnc : n ≤ c) (hs : a.eval s = .slice S n c) (hx : a.eval x = .slice X 0 cx) (h : wpList P ops Q rest (a.put o.dst (.slice S n c)) w) : wpList P ops Q (o :: rest) a w :=
  wpList_plain hgd fun _ hK => by
    unfold Oper.wp execOp
    simp only [ho, resolve, invoke, builtin, Sem.run_bind, Sem.run_pure, Result.andThen_ok, List.map_toArray, List.map_cons, List.map_nil, hs, hx, run_append_empty w t o.type e i ht hi S X n c cx hnc]
    exact hK _ _ h

end Go.Proofs.Ytjjccoliknngcaa
