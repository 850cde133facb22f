/- The statements' own small functions over chains: Turned, awake; a world behind some calls, in which a chain lies. -/
import Derived.Test.YtjcpeimlebpglaaDoorClkD
namespace Go.Proofs.YtjcpeimlebpglaaDoor
open Go.RowKit

/-- Of a chain in which one number is turned nothing is known but that it is one. -/
def SomeChain (z : Int) (w : World) (e : Ending) (w' : World) : Prop := ∃ v s c n t d r k g : Int, e = .returned (.agg #[.int .i64 v, .int .i64 s, .int .i64 c, .int .i64 n, .int .i64 t, .int .i64 d, .int .i64 r, .int .i64 k, .int .i64 g, .int .u64 z]) ∧ Below w.heap.size w w'
/-- The bounds' table lies in W, all that lay in w, and a chain at block G. -/
def AtC (w W : World) (G : Nat) (L : List Value) : Prop := Spans W ∧ Below w.heap.size w W ∧ RowAt W G 24 L
theorem AtC.step {w W W' : World} {G : Nat} {L : List Value} (h : AtC w W G L) (hb : Below W.heap.size W W') : AtC w W' G L :=
  ⟨h.1.on hb, h.2.1.trans (hb.mono h.2.1.size), h.2.2.below hb h.2.2.lt⟩
theorem AtC.drew {w W : World} {G : Nat} {L : List Value} (h : AtC w W G L) : AtC w W.drew G L := h.step (Below.refl _ _).drew
theorem atc_of {f : Nat} {args : Array Value} {w W : World} {r : Value} {G : Nat} {L : List Value} (h : AtC w W G L) (c : Calls Tryd.prog f args W fun e w' => e = .returned r ∧ Below W.heap.size W w') : Calls Tryd.prog f args W fun e w' => e = .returned r ∧ AtC w w' G L :=
  c.mono fun _ _ ⟨he, hb⟩ => ⟨he, h.step hb⟩
theorem AtC.cells {w W : World} {G : Nat} {c0 c1 c2 c3 c4 c5 c6 c7 c8 c9 : Value} (h : AtC w W G [c0, c1, c2, c3, c4, c5, c6, c7, c8, c9]) :
    W.cell? ⟨G, 0, none⟩ = some c0 ∧ W.cell? ⟨G, 1, none⟩ = some c1 ∧ W.cell? ⟨G, 2, none⟩ = some c2 ∧ W.cell? ⟨G, 3, none⟩ = some c3 ∧ W.cell? ⟨G, 4, none⟩ = some c4 ∧
    W.cell? ⟨G, 5, none⟩ = some c5 ∧ W.cell? ⟨G, 6, none⟩ = some c6 ∧ W.cell? ⟨G, 7, none⟩ = some c7 ∧ W.cell? ⟨G, 8, none⟩ = some c8 ∧ W.cell? ⟨G, 9, none⟩ = some c9 :=
  ⟨by rw [h.2.2.cell]; rfl, by rw [h.2.2.cell]; rfl, by rw [h.2.2.cell]; rfl, by rw [h.2.2.cell]; rfl, by rw [h.2.2.cell]; rfl, by rw [h.2.2.cell]; rfl, by rw [h.2.2.cell]; rfl, by rw [h.2.2.cell]; rfl, by rw [h.2.2.cell]; rfl, by rw [h.2.2.cell]; rfl⟩
theorem AtC.new {w W : World} {o : Array Value} (hT : Spans W) (hb : Below w.heap.size w W) : AtC w (W.alloc (.cells o 24)) W.heap.size o.toList :=
  ⟨hT.on ((Below.refl _ _).alloc (Nat.le_refl _) _), hb.alloc hb.size _, RowAt.new W 24 o⟩

abbrev exL : List Value := [.int .i64 1, .int .i64 4, .int .i64 1, .int .i64 1, .int .i64 10, .int .i64 0, .int .i64 1, .int .i64 0, .int .i64 1, .int .u64 0]
end Go.Proofs.YtjcpeimlebpglaaDoor
