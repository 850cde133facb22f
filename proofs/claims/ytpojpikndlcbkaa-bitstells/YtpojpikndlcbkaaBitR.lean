/- A region that draws its order, whose callees only lay new blocks. -/
import Derived.Test.YtpojpikndlcbkaaBitU
namespace Go.Proofs.Ytpojpikndlcbkaa
open Go.RowKit Go.Shelf

/-- A world later than w: all that lay lies as it lay. -/
structure Later (w : World) where
  W : World
  h : Below w.heap.size w W

instance (w : World) : Inhabited (Later w) := ⟨⟨w, Below.refl _ _⟩⟩

theorem wp_region_later {P : Program} {id : Nat} {Q : Exit → Act → World → Prop} {a : Act} {w : World} {l : List Oper} (hm : P.follows .mixedOrders = true) (hB : Region.lexB .any l.toArray = true)
    (h : wpQuiet P l.toArray (fun w' => ∃ p : Later w, w' = p.W) (fun a' => ∀ w', (∃ p : Later w, w' = p.W) → Q .normal a' w') l a) : (Code.region id l.toArray true).wp P Q a w :=
  wp_region_quiet (C := fun w' => ∃ p : Later w, w' = p.W) hm hB ⟨⟨w.drew, (Below.refl _ w).drew⟩, rfl⟩ (by simpa using h)
theorem later_of {P : Program} {f : FuncId} {args : Array Value} {w : World} {p : Later w} {v : Value}
    (h : Calls P f args p.W fun e w' => e = .returned v ∧ Below p.W.heap.size p.W w') : Calls P f args p.W fun e w'' => e = .returned v ∧ ∃ p : Later w, w'' = p.W :=
  h.mono fun _ w' ⟨he, hb⟩ => ⟨he, ⟨w', p.h.trans (hb.mono p.h.size)⟩, rfl⟩
theorem later_same {P : Program} {f : FuncId} {args : Array Value} {w : World} {p : Later w} {v : Value}
    (h : Calls P f args p.W fun e w' => e = .returned v ∧ p.W = w') : Calls P f args p.W fun e w'' => e = .returned v ∧ ∃ p : Later w, w'' = p.W :=
  h.mono fun _ w' ⟨he, hb⟩ => ⟨he, p, hb.symm⟩
theorem RowAt.later {w : World} {g : Nat} {t : TypeId} {l : List Value} (h : RowAt w g t l) (i : Nat) (x : Value) (hi : l[i]? = some x) : ∀ p : Later w, p.W.cell? ⟨g, i, none⟩ = some x := fun p => ((h.on p.h).cell i).trans hi
theorem bit_mod (b : UInt8) (r : Nat) : ((b.toNat : Int) / 2 ^ r).tmod 2 = if b.toNat.testBit r then 1 else 0 := by
  have e : ((b.toNat : Int) / 2 ^ r) = ((b.toNat / 2 ^ r : Nat) : Int) := by rw [Int.natCast_ediv, Int.natCast_pow]; rfl
  rw [e, Nat.testBit_eq_decide_div_mod_eq]
  generalize b.toNat / 2 ^ r = y
  rw [Int.tmod_eq_emod_of_nonneg (Int.natCast_nonneg y)]
  by_cases h : y % 2 = 1
  · simp [h]; omega
  · simp [h]; omega
theorem onsTo_len_step (l : List UInt8) (k : Nat) : ((onsTo l (k + 1)).length : Int) = (onsTo l k).length + (if bitAt l k then 1 else 0) := by
  cases h : bitAt l k
  · rw [onsTo_succ_off h]; simp
  · rw [onsTo_succ_on h]; simp
end Go.Proofs.Ytpojpikndlcbkaa
