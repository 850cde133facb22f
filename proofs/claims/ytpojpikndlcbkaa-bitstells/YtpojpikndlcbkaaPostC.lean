/- Steps of the rows' proofs: a struct of an int and a list of ints that came in by value, opened. -/
import Derived.Test.YtpojpikndlcbkaaPostB
import Derived.Lib.SmallJoins
namespace Go.Proofs.Ytpojpikndlcbkaa
open Go.ChangeShapes Go.WideShapes Go.ChangeAt Go.RowKit Go.Joins

theorem bits_of_trod {H : Type} {enc : TypeId × Value → H} {P : Program} {W : World} {r : Reach} {b0 : Nat} {t e : TypeId} {f0 f1 : Field} {v : Value} {d : DataW H} {ps : List MemPlace}
    (ht : P.underlying t = some (.struct #[f0, f1])) (hone : Go.Deep.oneCellFields P #[f0, f1] = true) (hC : P.cellsOf t = 2) (h0 : P.underlying f0.type = some (.int .i64)) (he : P.underlying e = some (.int .i64)) (hs : P.underlying f1.type = some (.slice e)) (hc : P.cellsOf e = 1)
    (hv : Value.okWide P W r b0 t v) (h : DataW.Trod enc P W 0 (fun _ => true) true t v d ps) :
    ∃ (n : Int) (xs : List Int) (A : Option Addr) (cap : Nat), v = .agg #[.int .i64 n, .slice A xs.length cap] ∧ Ints W W.heap.size (.slice A xs.length cap) xs ∧ xs.length ≤ cap ∧ cap ≤ maxLen := by
  obtain ⟨c0, c1, y0, y1, m, rfl, -, -, hy0, hy1⟩ := open_agg2 ht hone hC hv h
  obtain ⟨a, e0, -, -⟩ := DataW.trod_int h0 hy0
  simp at e0
  subst e0
  have key : ∀ (A : Option Addr) (len cap : Nat), c1 = .slice A len cap → len ≤ cap → cap ≤ maxLen → ∃ (n : Int) (xs : List Int) (A : Option Addr) (cap : Nat), Value.agg #[.int .i64 a, c1] = .agg #[.int .i64 n, .slice A xs.length cap] ∧ Ints W W.heap.size (.slice A xs.length cap) xs ∧ xs.length ≤ cap ∧ cap ≤ maxLen := by
    intro A len cap hc1 hl hm
    subst hc1
    obtain ⟨xs, hx, -, -⟩ := ints_of_trod (d := y1.1) (ps := y1.2) hs he hc ⟨m, hy1⟩
    obtain ⟨A', c', he', -⟩ := hx.form
    simp only [Value.slice.injEq] at he'
    obtain ⟨rfl, hlen, rfl⟩ := he'
    subst hlen
    exact ⟨a, xs, A, cap, rfl, hx, hl, hm⟩
  rcases open_ints hs he hc hy1 with ⟨hcs, _⟩ | ⟨x, l, c, zs, hcs, _, hl, hm, _⟩
  · simp at hcs
    exact key none 0 0 hcs (Nat.le_refl _) (Nat.zero_le _)
  · simp at hcs
    exact key (some x) l c hcs hl hm
end Go.Proofs.Ytpojpikndlcbkaa
