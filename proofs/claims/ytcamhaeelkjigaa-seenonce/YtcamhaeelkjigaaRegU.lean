/- A region that draws its order and ends in operations that wait each for the one ahead: one walk of the head, in whatever later world; the tail in each such world. No program. -/
import Derived.Test.YtcamhaeelkjigaaRegT
import Derived.Test.YtcamhaeelkjigaaOctW
namespace Go.Proofs.Ytcamhaeelkjigaa
open Go Go.RowKit

/-- A head of n operations, and a tail of g. -/
def lexTail0 (md : Region.Mode) (ops : Array Oper) (n g : Nat) : Bool :=
  Region.noSelect ops && decide (0 < g) && decide (ops.size = n + g) && Region.sinkB md ops n && chainTo md ops n (n + g) && Region.lexHead md ops g n 0 (Array.replicate ops.size false)

theorem wp_region_quiet_tail0 {P : Program} {C : World → Prop} {id : Nat} {Q : Exit → Act → World → Prop} {a : Act} {w : World} {l : List Oper} (n g : Nat) (hm : P.follows .mixedOrders = true) (hB : lexTail0 .any l.toArray n g = true) (hC : C w.drew)
    (h : wpQuiet P l.toArray C (fun a' => ∀ w', C w' → wpList P l.toArray Q ((l.drop n).take g) a' w') (l.take n) a) : (Code.region id l.toArray true).wp P Q a w := by
  simp only [lexTail0, Bool.and_eq_true, decide_eq_true_eq] at hB
  obtain ⟨⟨⟨⟨⟨hsel, hg⟩, hsz⟩, hs⟩, hc⟩, hlex⟩ := hB
  have hsz' : l.length = n + g := by simpa using hsz
  have htl : (l.take n).length = n := by simp; omega
  have hdl : ((l.drop n).take g).length = g := by simp; omega
  have inv0 : HeadTo .any l.toArray n (n + g) (Array.replicate l.toArray.size false) := by
    refine ⟨by simp, fun j oj hj hl e he hb => ?_, fun t _ ht => ?_, fun t ht ht' => ?_⟩
    · rw [getD_replicate_false] at hl; cases hl
    · exact getD_in (by simp; omega) (getD_replicate_false _ _)
    · simp at ht'; omega
  have H := headQ_lex (C := C) (P := P) (md := .any) (g := g) hsel hs hc (by omega) (l.take n) 0 _ _ (fun j hj => by
    have hj' : j < n := by rw [htl] at hj; exact hj
    simp [hj']) (by simpa using htl) inv0 (by rw [htl]; exact hlex) h
  refine wp_region_any hm ?_
  have := any_of_head (Q' := Q) (g := g) (fun listed a' w' hw' hL => by
    have := any_of_run (md := .any) (Q' := Q) ((l.drop n).take g) n listed a' w' (fun j hj => by rw [hdl] at hj; simp [List.getElem?_drop, hj]) (by rw [hdl]; exact hL.1) (hL.2 w' hw')
    rwa [hdl] at this) _ _ _ w.drew hC H
  rw [htl] at this
  have hsz2 : l.toArray.size = n + g := by simpa using hsz'
  rw [hsz2] at this ⊢
  exact this
theorem wp_region_later_tail0 {P : Program} {id : Nat} {Q : Exit → Act → World → Prop} {a : Act} {w : World} {l : List Oper} (n g : Nat) (hm : P.follows .mixedOrders = true) (hB : lexTail0 .any l.toArray n g = true)
    (h : wpQuiet P l.toArray (fun w' => ∃ p : LaterT w, w' = p.W) (fun a' => ∀ w', (∃ p : LaterT w, w' = p.W) → wpList P l.toArray Q ((l.drop n).take g) a' w') (l.take n) a) : (Code.region id l.toArray true).wp P Q a w :=
  wp_region_quiet_tail0 (C := fun w' => ∃ p : LaterT w, w' = p.W) n g hm hB ⟨⟨w.drew, (Below.refl _ w).drew⟩, rfl⟩ h
theorem RowAt.laterT {w : World} {g : Nat} {t : TypeId} {l : List Value} (h : RowAt w g t l) (i : Nat) (v : Value) (hv : l[i]? = some v) : ∀ p : LaterT w, p.W.cell? ⟨g, i, none⟩ = some v := fun p => by
  rw [(h.below p.h h.lt).cell]; exact hv
end Go.Proofs.Ytcamhaeelkjigaa
