/- Steps of the rows' proofs that the laws over clock's table share; six numbers, and a chain, that came in by value. -/
import Derived.Test.YtjcpeimlebpglaaDoorRows
import Derived.Test.YtjcpeimlebpglaaDoorClkE
import Derived.WalkKit
import Derived.ProofKit
import Derived.LaidMore
import Derived.Lib.LaidTab
import Derived.OpenShut
import Derived.ShutString
import Derived.ChangeOld
import Derived.Below
import Derived.Stop.Joined
import Derived.Deep.Fields
namespace Go.Proofs.YtjcpeimlebpglaaDoor
open Go.ChangeShapes Go.WideShapes Go.ChangeAt Go.RowKit

theorem own : ownKnob Tryd.prog.godebug = none := by kernel_rfl
theorem laidOut : laidOutB Tryd.prog = true := by kernel_rfl
abbrev laidT : List (String × DataW Unit) := [("mootbell/clock.spans", Rows.laid_mootbell_clock_spans)]
theorem gTable : Tryd.prog.globalNamed "mootbell/clock.spans" = some 0 := by kernel_rfl
theorem tTable : (Tryd.prog.globals[0]?).map (·.type) = some 51 := by kernel_rfl

/-- The heap that the variables' own initialisers leave meets the condition. -/
theorem door_met (os : Os) (args : Array Value) : laidMetH Tryd.prog laidT ((World.doorLaid Tryd.prog 14 os).forCall (fun _ _ => 0) ⟨#[], args, []⟩).memory :=
  laidMetH_of_parts3 (fuel := 8) (laidMet_of_run' 8 (by kernel_rfl) (by kernel_rfl)) (by kernel_rfl) (by kernel_rfl)

section
variable {H : Type} {enc : TypeId × Value → H} {P : Program} {w : World} {base : Nat} {spare : Nat → Bool} {held : Bool}
/-- A struct of numbers of one kind, each of one cell: its cells are what it reads as. -/
theorem ints_of_struct {t : TypeId} {fs : Array Field} {fuel : Nat} {cs : List Value} {k : IntKind} {zs : List Int} {p : List MemPlace} (ht : P.underlying t = some (.struct fs)) (hone : Go.Deep.oneCellFields P fs = true) (hC : P.cellsOf t = fs.size)
    (hu : ∀ (i : Nat) (f : Field), fs[i]? = some f → P.underlying f.type = some (.int k)) (h : DataW.trod enc P w base spare held fuel t cs = some (.agg (zs.map fun z => .lit (.int k z)), p)) : cs = zs.map fun z => Value.int k z := by
  obtain ⟨xs, n, _, hx, hl, hlen, hf⟩ := DataW.trod_struct ht h
  have hxs : xs.map (·.1) = zs.map fun z => (DataW.lit (.int k z) : DataW H) := by
    have := congrArg Prod.fst hx
    simpa using this.symm
  have hzl : zs.length = fs.size := by
    have := congrArg List.length hxs
    simp at this
    omega
  apply List.ext_getElem?
  intro i
  by_cases hi : i < fs.size
  · have hfi : fs[i]? = some fs[i] := Array.getElem?_eq_getElem hi
    obtain ⟨ho, hc⟩ := Go.Deep.hone_of hone i fs[i] hfi
    have hr := hf i fs[i] hfi
    rw [ho, hc] at hr
    have hxi : xs[i]? = some xs[i] := List.getElem?_eq_getElem (by omega)
    rw [hxi] at hr
    obtain ⟨z, hcz, hx2, _⟩ := DataW.trod_int (hu i fs[i] hfi) hr
    have h1 : cs[i]? = some (.int k z) := by
      have := congrArg (·[0]?) hcz
      simpa [List.getElem?_take, List.getElem?_drop] using this
    have h2 : (xs.map (·.1))[i]? = some (DataW.lit (.int k z) : DataW H) := by simp [hxi, hx2]
    rw [hxs] at h2
    simp only [List.getElem?_map, Option.map_eq_some_iff, DataW.lit.injEq, Lit.int.injEq, true_and] at h2
    obtain ⟨z', hz', rfl⟩ := h2
    simp [h1, hz']
  · rw [List.getElem?_eq_none (by omega), List.getElem?_eq_none (by simp; omega)]
end

/-- What the condition gives the walks: the table's cells. -/
theorem spans_of_laid {W : World} (h : laidMetH Tryd.prog laidT W) : Spans W := by
  rw [MakeChecks.laidMetH_plain _ _ _ (by kernel_rfl)] at h
  obtain ⟨ps, ⟨g', t', cs, fuel, p, q, hg', ht', hvar, hd, _, _⟩, _⟩ := h
  obtain rfl := Option.some.inj (gTable.symm.trans hg')
  obtain rfl := Option.some.inj (tTable.symm.trans ht')
  obtain ⟨xs, m, _, hx, hl, hlen, hf⟩ := DataW.trod_array Tryd.underlying51 hd
  have hce : Tryd.prog.cellsOf 50 = 2 := by kernel_rfl
  rw [hce] at hf
  have row : ∀ (i : Nat) (y : DataW Unit × List MemPlace) (lo hi : Int), i < 8 → xs[i]? = some y → DataW.agg [.lit (.int .i64 lo), .lit (.int .i64 hi)] = y.1 → cs.toList[i * 2]? = some (.int .i64 lo) ∧ cs.toList[i * 2 + 1]? = some (.int .i64 hi) := by
    intro i y lo hi hi8 hy he
    have h1 := hf i hi8
    rw [hy] at h1
    obtain ⟨yd, yp⟩ := y
    subst he
    have h2 := ints_of_struct (zs := [lo, hi]) Tryd.underlying50 (by kernel_rfl) (by kernel_rfl) (fun j f hj => by
      match j, hj with
      | 0, hj => simp at hj; subst hj; exact Tryd.underlying3
      | 1, hj => simp at hj; subst hj; exact Tryd.underlying3
      | j + 2, hj => simp at hj) h1
    have a0 := congrArg (·[0]?) h2
    have a1 := congrArg (·[1]?) h2
    simp [List.getElem?_drop] at a0 a1
    rw [Array.getElem?_toList, Array.getElem?_toList]
    exact ⟨a0, a1⟩
  match xs, hlen, row with
  | [y0, y1, y2, y3, y4, y5, y6, y7], _, row =>
    have hx1 := congrArg Prod.fst hx
    simp [Rows.laid_mootbell_clock_spans] at hx1
    obtain ⟨e0, e1, e2, e3, e4, e5, e6, e7⟩ := hx1
    have r0 := row 0 y0 _ _ (by decide) rfl e0
    have r1 := row 1 y1 _ _ (by decide) rfl e1
    have r2 := row 2 y2 _ _ (by decide) rfl e2
    have r3 := row 3 y3 _ _ (by decide) rfl e3
    have r4 := row 4 y4 _ _ (by decide) rfl e4
    have r5 := row 5 y5 _ _ (by decide) rfl e5
    have r6 := row 6 y6 _ _ (by decide) rfl e6
    have r7 := row 7 y7 _ _ (by decide) rfl e7
    intro j hj
    have hc := World.var?_cell gTable hvar j
    rw [hc, ← Array.getElem?_toList]
    match j, hj with
    | 0, _ => exact r0.1
    | 1, _ => exact r0.2
    | 2, _ => exact r1.1
    | 3, _ => exact r1.2
    | 4, _ => exact r2.1
    | 5, _ => exact r2.2
    | 6, _ => exact r3.1
    | 7, _ => exact r3.2
    | 8, _ => exact r4.1
    | 9, _ => exact r4.2
    | 10, _ => exact r5.1
    | 11, _ => exact r5.2
    | 12, _ => exact r6.1
    | 13, _ => exact r6.2
    | 14, _ => exact r7.1
    | 15, _ => exact r7.2
    | j + 16, hj => omega

theorem okWide_array {P : Program} {w : World} {r : Reach} {b : Nat} {t e : TypeId} {n : Nat} {v : Value} (ht : P.underlying t = some (.array n e)) (h : Value.okWide P w r b t v) : ∃ cs, v = .agg cs ∧ cs.size = P.cellsOf t := by
  simp only [Value.okWide, ht] at h
  obtain ⟨cs, h1, h2, _⟩ := h
  exact ⟨cs, h1, h2⟩
theorem array6 {α : Type} {cs : Array α} (h : cs.size = 6) : ∃ c0 c1 c2 c3 c4 c5, cs = #[c0, c1, c2, c3, c4, c5] := by
  obtain ⟨l⟩ := cs
  match l, h with
  | [c0, c1, c2, c3, c4, c5], _ => exact ⟨c0, c1, c2, c3, c4, c5, rfl⟩
theorem array10 {α : Type} {cs : Array α} (h : cs.size = 10) : ∃ c0 c1 c2 c3 c4 c5 c6 c7 c8 c9, cs = #[c0, c1, c2, c3, c4, c5, c6, c7, c8, c9] := by
  obtain ⟨l⟩ := cs
  match l, h with
  | [c0, c1, c2, c3, c4, c5, c6, c7, c8, c9], _ => exact ⟨c0, c1, c2, c3, c4, c5, c6, c7, c8, c9, rfl⟩
theorem int_of {H : Type} {enc : TypeId × Value → H} {P : Program} {W : World} {t : TypeId} {c : Value} {y : DataW H × List MemPlace} {m : Nat} (ht : P.underlying t = some (.int .i64)) (h : DataW.trod enc P W 0 (fun _ => true) true m t [c] = some y) : ∃ n : Int, c = .int .i64 n ∧ I64K n := by
  obtain ⟨n, e, -, w⟩ := DataW.trod_int ht h
  simp at e
  exact ⟨n, e, bounds_i64 w⟩
theorem one_cell {α : Type} {l : List α} {j : Nat} {c : α} (h : l[j]? = some c) : (l.drop j).take 1 = [c] := by
  obtain ⟨hj, rfl⟩ := List.getElem?_eq_some_iff.1 h
  rw [List.drop_eq_getElem_cons hj]; rfl
theorem six_of_trod {H : Type} {enc : TypeId × Value → H} {P : Program} {W : World} {r : Reach} {b0 : Nat} {t i : TypeId} {v : Value} {d : DataW H} {ps : List MemPlace}
    (ht : P.underlying t = some (.array 6 i)) (hC : P.cellsOf t = 6) (ci : P.cellsOf i = 1) (ui : P.underlying i = some (.int .i64)) (hv : Value.okWide P W r b0 t v) (h : DataW.Trod enc P W 0 (fun _ => true) true t v d ps) :
    ∃ n0 n1 n2 n3 n4 n5 : Int, v = .agg #[.int .i64 n0, .int .i64 n1, .int .i64 n2, .int .i64 n3, .int .i64 n4, .int .i64 n5] ∧ I64K n0 ∧ I64K n1 ∧ I64K n2 ∧ I64K n3 ∧ I64K n4 ∧ I64K n5 := by
  obtain ⟨cs, rfl, hsz⟩ := okWide_array ht hv
  obtain ⟨c0, c1, c2, c3, c4, c5, rfl⟩ := array6 (hsz.trans hC)
  obtain ⟨fuel, hf⟩ := h
  obtain ⟨xs, m, -, -, -, hl, hr⟩ := DataW.trod_array ht hf
  have get : ∀ j, j < 6 → ∃ y, xs[j]? = some y := fun j hj => ⟨xs[j], List.getElem?_eq_getElem (by omega)⟩
  rw [ci] at hr
  have one : ∀ (j : Nat) (c : Value), j < 6 → (#[c0, c1, c2, c3, c4, c5] : Array Value).toList[j]? = some c → ∃ n : Int, c = .int .i64 n ∧ I64K n := by
    intro j c hj hc
    obtain ⟨y, hy⟩ := get j hj
    have h1 := hr j hj
    rw [hy] at h1
    rw [Nat.mul_one, one_cell (show (Value.agg #[c0, c1, c2, c3, c4, c5]).cells.toList[j]? = some c from hc)] at h1
    exact int_of ui h1
  obtain ⟨n0, rfl, b0⟩ := one 0 c0 (by omega) rfl
  obtain ⟨n1, rfl, b1⟩ := one 1 c1 (by omega) rfl
  obtain ⟨n2, rfl, b2⟩ := one 2 c2 (by omega) rfl
  obtain ⟨n3, rfl, b3⟩ := one 3 c3 (by omega) rfl
  obtain ⟨n4, rfl, b4⟩ := one 4 c4 (by omega) rfl
  obtain ⟨n5, rfl, b5⟩ := one 5 c5 (by omega) rfl
  exact ⟨n0, n1, n2, n3, n4, n5, rfl, b0, b1, b2, b3, b4, b5⟩
theorem chain_of_trod {H : Type} {enc : TypeId × Value → H} {P : Program} {W : World} {r : Reach} {b0 : Nat} {t ti tu : TypeId} {fs : Array Field} {v : Value} {d : DataW H} {ps : List MemPlace}
    (ht : P.underlying t = some (.struct fs)) (hone : Go.Deep.oneCellFields P fs = true) (hn : fs.size = 10) (hC : P.cellsOf t = 10) (ui : P.underlying ti = some (.int .i64)) (uu : P.underlying tu = some (.int .u64))
    (hti : ∀ (i : Nat) (f : Field), i < 9 → fs[i]? = some f → f.type = ti) (htu : ∀ f : Field, fs[9]? = some f → f.type = tu) (hv : Value.okWide P W r b0 t v) (h : DataW.Trod enc P W 0 (fun _ => true) true t v d ps) :
    ∃ n0 n1 n2 n3 n4 n5 n6 n7 n8 z : Int, v = .agg #[.int .i64 n0, .int .i64 n1, .int .i64 n2, .int .i64 n3, .int .i64 n4, .int .i64 n5, .int .i64 n6, .int .i64 n7, .int .i64 n8, .int .u64 z] := by
  obtain ⟨cs, rfl, hsz⟩ := okWide_struct ht hv
  obtain ⟨c0, c1, c2, c3, c4, c5, c6, c7, c8, c9, rfl⟩ := array10 (hsz.trans hC)
  obtain ⟨fuel, hf⟩ := h
  obtain ⟨xs, m, -, -, -, hl, hr⟩ := DataW.trod_struct ht hf
  have one : ∀ (j : Nat) (c : Value), j < 9 → (#[c0, c1, c2, c3, c4, c5, c6, c7, c8, c9] : Array Value).toList[j]? = some c → ∃ n : Int, c = .int .i64 n := by
    intro j c hj hc
    have hfi : fs[j]? = some (fs[j]'(by omega)) := Array.getElem?_eq_getElem (by omega)
    obtain ⟨ho, hcl⟩ := Go.Deep.hone_of hone j _ hfi
    have h1 := hr j _ hfi
    have hy : xs[j]? = some (xs[j]'(by omega)) := List.getElem?_eq_getElem (by omega)
    rw [hy, ho, hcl, one_cell (show (Value.agg #[c0, c1, c2, c3, c4, c5, c6, c7, c8, c9]).cells.toList[j]? = some c from hc), hti j _ hj hfi] at h1
    obtain ⟨n, e, -⟩ := DataW.trod_int ui h1
    simp at e
    exact ⟨n, e⟩
  have last : ∃ n : Int, c9 = .int .u64 n := by
    have hfi : fs[9]? = some (fs[9]'(by omega)) := Array.getElem?_eq_getElem (by omega)
    obtain ⟨ho, hcl⟩ := Go.Deep.hone_of hone 9 _ hfi
    have h1 := hr 9 _ hfi
    have hy : xs[9]? = some (xs[9]'(by omega)) := List.getElem?_eq_getElem (by omega)
    rw [hy, ho, hcl, one_cell (show (Value.agg #[c0, c1, c2, c3, c4, c5, c6, c7, c8, c9]).cells.toList[9]? = some c9 from rfl), htu _ hfi] at h1
    obtain ⟨n, e, -⟩ := DataW.trod_int uu h1
    simp at e
    exact ⟨n, e⟩
  obtain ⟨n0, rfl⟩ := one 0 c0 (by omega) rfl
  obtain ⟨n1, rfl⟩ := one 1 c1 (by omega) rfl
  obtain ⟨n2, rfl⟩ := one 2 c2 (by omega) rfl
  obtain ⟨n3, rfl⟩ := one 3 c3 (by omega) rfl
  obtain ⟨n4, rfl⟩ := one 4 c4 (by omega) rfl
  obtain ⟨n5, rfl⟩ := one 5 c5 (by omega) rfl
  obtain ⟨n6, rfl⟩ := one 6 c6 (by omega) rfl
  obtain ⟨n7, rfl⟩ := one 7 c7 (by omega) rfl
  obtain ⟨n8, rfl⟩ := one 8 c8 (by omega) rfl
  obtain ⟨z, rfl⟩ := last
  exact ⟨n0, n1, n2, n3, n4, n5, n6, n7, n8, z, rfl⟩
end Go.Proofs.YtjcpeimlebpglaaDoor
