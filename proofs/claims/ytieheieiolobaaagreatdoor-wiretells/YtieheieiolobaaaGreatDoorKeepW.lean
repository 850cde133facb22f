/- A world behind some calls: all that lay in w lies as it lay, and some new blocks are known whole. No program. -/
import Derived.Test.YtieheieiolobaaaGreatDoorOctW
namespace Go.Proofs.YtieheieiolobaaaGreatDoor
open Go.RowKit

/-- All that lay in w lies in W as it lay; and these blocks are known whole. -/
def Held (w W : World) (rows : List (Nat × TypeId × List Value)) : Prop := Below w.heap.size w W ∧ ∀ r ∈ rows, RowAt W r.1 r.2.1 r.2.2
theorem Held.refl (w : World) : Held w w [] := ⟨Below.refl _ _, fun _ h => by cases h⟩
theorem Held.bel {w W : World} {rows : List (Nat × TypeId × List Value)} (h : Held w W rows) : Below w.heap.size w W := h.1
theorem Held.step {w W W' : World} {rows : List (Nat × TypeId × List Value)} (h : Held w W rows) (hb : Below W.heap.size W W') : Held w W' rows :=
  ⟨h.1.trans (hb.mono h.1.size), fun r hr => (h.2 r hr).below hb (h.2 r hr).lt⟩
theorem Held.drew {w W : World} {rows : List (Nat × TypeId × List Value)} (h : Held w W rows) : Held w W.drew rows := h.step (Below.refl _ _).drew
theorem Held.alloc {w W : World} {rows : List (Nat × TypeId × List Value)} (h : Held w W rows) (cs : Array Value) (t : TypeId) : Held w (W.alloc (.cells cs t)) ((W.heap.size, t, cs.toList) :: rows) :=
  have h' := h.step ((Below.refl _ _).alloc (Nat.le_refl _) (.cells cs t))
  ⟨h'.1, fun r hr => by rcases List.mem_cons.1 hr with rfl | hr; exact RowAt.new W t cs; exact h'.2 r hr⟩
theorem Held.first {w W : World} {g : Nat} {t : TypeId} {l : List Value} {rows : List (Nat × TypeId × List Value)} (h : Held w W ((g, t, l) :: rows)) : RowAt W g t l := h.2 _ (List.mem_cons_self)
theorem Held.second {w W : World} {r : Nat × TypeId × List Value} {g : Nat} {t : TypeId} {l : List Value} {rows : List (Nat × TypeId × List Value)} (h : Held w W (r :: (g, t, l) :: rows)) : RowAt W g t l := h.2 _ (List.mem_cons_of_mem _ (List.mem_cons_self))
theorem Held.third {w W : World} {r s : Nat × TypeId × List Value} {g : Nat} {t : TypeId} {l : List Value} {rows : List (Nat × TypeId × List Value)} (h : Held w W (r :: s :: (g, t, l) :: rows)) : RowAt W g t l := h.2 _ (List.mem_cons_of_mem _ (List.mem_cons_of_mem _ (List.mem_cons_self)))
theorem Held.tail {w W : World} {r : Nat × TypeId × List Value} {rows : List (Nat × TypeId × List Value)} (h : Held w W (r :: rows)) : Held w W rows := ⟨h.1, fun q hq => h.2 q (List.mem_cons_of_mem _ hq)⟩
theorem held_of {P : Program} {f : Nat} {args : Array Value} {w W : World} {r : Value} {rows : List (Nat × TypeId × List Value)} (h : Held w W rows) (c : Calls P f args W fun e w' => e = .returned r ∧ Below W.heap.size W w') : Calls P f args W fun e w' => e = .returned r ∧ Held w w' rows :=
  c.mono fun _ _ ⟨he, hb⟩ => ⟨he, h.step hb⟩
theorem held_same {P : Program} {f : Nat} {args : Array Value} {w W : World} {r : Value} {rows : List (Nat × TypeId × List Value)} (h : Held w W rows) (c : Calls P f args W fun e w' => e = .returned r ∧ W = w') : Calls P f args W fun e w' => e = .returned r ∧ Held w w' rows :=
  c.mono fun _ _ ⟨he, hb⟩ => ⟨he, hb ▸ h⟩
end Go.Proofs.YtieheieiolobaaaGreatDoor
