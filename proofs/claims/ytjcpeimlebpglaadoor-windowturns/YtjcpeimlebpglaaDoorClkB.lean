/- Package clock's contracts, and the document's: slots, epochs, their beginnings. -/
import Derived.Test.YtjcpeimlebpglaaDoorClkA
namespace Go.Proofs.YtjcpeimlebpglaaDoor
open Go.RowKit

theorem Fits_eq {v s c n t d r k g : Int} {fit : Bool} (hf : fitsC v s c n t d r k g = fit) (z : Int) (w : World) (hT : Spans w) :
    Calls Tryd.prog 25 #[.agg #[.int .i64 v, .int .i64 s, .int .i64 c, .int .i64 n, .int .i64 t, .int .i64 d, .int .i64 r, .int .i64 k, .int .i64 g, .int .u64 z]] w fun e w' => e = .returned (.bool fit) ∧ Below w.heap.size w w' := by
  rw [← hf]; exact Fits_any v s c n t d r k g z w hT
set_option maxHeartbeats 2000000 in
set_option maxRecDepth 100000 in
theorem rFits_eq {v s c n t d r k g : Int} {fit : Bool} (hf : fitsC v s c n t d r k g = fit) (z : Int) (w : World) :
    Calls Tryd.prog 24 #[.agg #[.int .i64 v, .int .i64 s, .int .i64 c, .int .i64 n, .int .i64 t, .int .i64 d, .int .i64 r, .int .i64 k, .int .i64 g, .int .u64 z]] w fun e w' => e = .returned (.bool fit) ∧ Below w.heap.size w w' := by
  subst hf
  have hbw : ∀ o, Below w.heap.size w (w.alloc o) := fun o => (Below.refl _ _).alloc (Nat.le_refl _) o
  by_cases hg : g ≤ 16
  all_goals
    go_enter Tryd.func24, Tryd.ntmps24
    go_wp2
    all_goals
      go_ret
      first
        | exact ⟨by rw [fitsC_no (by omega)]; rfl, hbw _⟩
        | exact ⟨by rw [(fitsC_iff v s c n t d r k g).2 (by omega)]; rfl, hbw _⟩
end Go.Proofs.YtjcpeimlebpglaaDoor
