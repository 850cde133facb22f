/- bits.Unvector. -/
import Derived.Test.YthlajfoipafaaaaDoorBitE
namespace Go.Proofs.YthlajfoipafaaaaDoor
open Go.RowKit Go.Shelf
attribute [local go_sem] Oper.semAt_some

theorem unvec_cases (l : List UInt8) (m : Nat) (hm : m ≤ 2048) (hl : l.length = (m + 7) / 8) : ((∀ y ∈ onsOf l, y < (m : Int)) → unvecOf l m = ((m : Int), onsOf l, 0)) ∧ ((∃ y ∈ onsOf l, (m : Int) ≤ y) → unvecOf l m = (0, [], 2)) := by
  have hf : ¬ fitsB m = false := by rw [(fitsB_iff _).2 ⟨by omega, by omega⟩]; simp
  have h2 : ¬ (l.length : Int) ≠ ((m : Int) + 7) / 8 := by omega
  constructor
  · intro h
    unfold unvecOf
    rw [if_neg hf, if_neg h2, if_neg]
    simp only [List.any_eq_true, decide_eq_true_eq, not_exists, not_and]
    intro x hx hx2
    have := h x hx
    omega
  · rintro ⟨y, hy, hy2⟩
    unfold unvecOf
    rw [if_neg hf, if_neg h2, if_pos]
    exact List.any_eq_true.2 ⟨y, hy, by simpa using hy2⟩

end Go.Proofs.YthlajfoipafaaaaDoor
