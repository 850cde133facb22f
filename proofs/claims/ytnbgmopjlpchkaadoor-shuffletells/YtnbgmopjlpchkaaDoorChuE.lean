/- What the laws of package churn call first. -/
import Derived.Test.YtnbgmopjlpchkaaDoorChuD
namespace Go.Proofs.YtnbgmopjlpchkaaDoor
open Go.RowKit

theorem aw_s0 (W : World) (h : Tab W) : Calls Tryd.prog 41 #[.string ⟨#[]⟩] W fun e w' => e = .returned (.int .u64 14695981039346656037) ∧ Below W.heap.size W w' := Sum_any ⟨#[]⟩ W (by decide) h
theorem aw_sa (W : World) (h : Tab W) : Calls Tryd.prog 41 #[.string ⟨#[97]⟩] W fun e w' => e = .returned (.int .u64 12638187200555641996) ∧ Below W.heap.size W w' := by
  have := Sum_any ⟨#[97]⟩ W (by decide) h
  rwa [show moreH 14695981039346656037 (⟨#[97]⟩ : ByteArray).data.toList = 12638187200555641996 by decide] at this
theorem aw_f0 (W : World) (h : Tab W) : Calls Tryd.prog 39 #[.slice none 0 0] W fun e w' => e = .returned (.int .u64 14695981039346656037) ∧ Below W.heap.size W w' :=
  Fold_any [] (.slice none 0 0) W (Elems.nil _ _ _) (by decide) h
theorem aw_d0 (v : Value) (W : World) : Calls Tryd.prog 34 #[.int .i64 0, v] W fun e w' => e = .returned (.int .i64 0) ∧ W = w' := Draw_no 0 v W (by decide)
theorem aw_m0 (W : World) (h : Tab W) : Calls Tryd.prog 42 #[.int .u64 7, .string ⟨#[]⟩] W fun e w' => e = .returned (.int .u64 7) ∧ Below W.heap.size W w' := More_any 7 ⟨#[]⟩ W (by decide) (by decide) h

end Go.Proofs.YtnbgmopjlpchkaaDoor
