/- Steps of the rows' proofs: both variables laid; a plan that came in by value, opened. -/
import Derived.Test.YthlajfoipafaaaaDoorPostM
import Derived.Lib.SmallJoins
namespace Go.Proofs.YthlajfoipafaaaaDoor
open Go.ChangeShapes Go.WideShapes Go.ChangeAt Go.RowKit Go.Joins

theorem int_one {H : Type} {enc : TypeId × Value → H} {P : Program} {W : World} {t : TypeId} {c : Value} {y : DataW H × List MemPlace} {m : Nat} (ht : P.underlying t = some (.int .i64)) (h : DataW.trod enc P W 0 (fun _ => true) true m t [c] = some y) : ∃ n : Int, c = .int .i64 n ∧ I64K n := by
  obtain ⟨n, e, -, w⟩ := DataW.trod_int ht h
  simp at e
  exact ⟨n, e, bounds_i64 w⟩
theorem word_one {H : Type} {enc : TypeId × Value → H} {P : Program} {W : World} {t : TypeId} {c : Value} {y : DataW H × List MemPlace} {m : Nat} (ht : P.underlying t = some (.int .u64)) (h : DataW.trod enc P W 0 (fun _ => true) true m t [c] = some y) : ∃ n : Nat, c = .int .u64 (n : Int) ∧ n < 18446744073709551616 := by
  obtain ⟨n, e, -, w⟩ := DataW.trod_int ht h
  simp at e
  have := bounds_u64 w
  exact ⟨n.toNat, by rw [e, Int.toNat_of_nonneg this.1], by omega⟩
theorem plan_of_trod {H : Type} {enc : TypeId × Value → H} {P : Program} {W : World} {r : Reach} {b0 : Nat} {t : TypeId} {f0 f1 f2 : Field} {v : Value} {d : DataW H} {ps : List MemPlace}
    (ht : P.underlying t = some (.struct #[f0, f1, f2])) (hone : Go.Deep.oneCellFields P #[f0, f1, f2] = true) (hC : P.cellsOf t = 3) (u0 : P.underlying f0.type = some (.int .u64)) (u1 : P.underlying f1.type = some (.int .i64)) (u2 : P.underlying f2.type = some (.int .i64))
    (hv : Value.okWide P W r b0 t v) (h : DataW.Trod enc P W 0 (fun _ => true) true t v d ps) :
    ∃ (a : Nat) (b c : Int), v = .agg #[.int .u64 (a : Int), .int .i64 b, .int .i64 c] := by
  obtain ⟨v0, v1, v2, y0, y1, y2, m, rfl, -, -, h0, h1, h2⟩ := open_agg3 ht hone hC hv h
  obtain ⟨a, rfl, _⟩ := word_one u0 h0
  obtain ⟨b, rfl, _⟩ := int_one u1 h1
  obtain ⟨c, rfl, _⟩ := int_one u2 h2
  exact ⟨a, b, c, rfl⟩
end Go.Proofs.YthlajfoipafaaaaDoor
