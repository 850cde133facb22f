/- slices.Index, slices.Contains at ints; bits.Has. -/
import Derived.Test.YthlajfoipafaaaaDoorBitB
namespace Go.Proofs.YthlajfoipafaaaaDoor
open Go.RowKit

/-- The first place at which x stands, or -1. -/
def idxOf (x : Int) : List Int → Int
  | [] => -1
  | y :: l => if x = y then 0 else (let r := idxOf x l; if r = -1 then -1 else r + 1)

set_option maxHeartbeats 400000 in
theorem Index_any (v : Value) (on : List Int) (x : Int) (w : World) (hv : Ints w w.heap.size v on) (h9 : on.length ≤ maxLen) :
    Calls Tryd.prog 53 #[v, .int .i64 x] w fun e w' => ∃ r : Int, e = .returned (.int .i64 r) ∧ (0 ≤ r ↔ x ∈ on) ∧ -1 ≤ r ∧ w = w' := by
  obtain ⟨A, c, rfl, hc⟩ := hv.form
  have h9' : on.length ≤ 9223372036854775807 := h9
  go_enter Tryd.func53, Tryd.ntmps53
  go_wp2_with fail
  go_loop [8] (fun i => ∃ k : Nat, k ≤ on.length ∧ i = .int .i64 k ∧ ∀ y ∈ on.take k, x ≠ y) (fun i => on.length - (intOf i).toNat)
  case atStart => exact ⟨0, Nat.zero_le _, rfl, by simp⟩
  case round =>
    obtain ⟨k, hk, rfl, he⟩ := hrel
    have HE := Lib.hid he
    clear he
    by_cases hlt : k < on.length
    · obtain ⟨ad, rfl, hb, hcell⟩ := hv.at_ hlt
      have HT := Lib.hid (show on.take (k + 1) = on.take k ++ [on[k]] from List.take_succ_eq_append_getElem hlt)
      have HM := Lib.hid (List.getElem_mem hlt)
      generalize hy : on[k] = y at *
      clear hy
      by_cases c1 : x = y
      · subst c1
        go_wp2_with fail
        go_ret
        refine ⟨k, rfl, ?_, by omega, rfl⟩
        have := HM.out
        simp [this]
      · have c2 : (x == y) = false := by simpa using c1
        go_wp2_with fail
        go_round
        case rel =>
          refine ⟨k + 1, by omega, by go_num, ?_⟩
          rw [HT.out]
          intro z hz
          simp only [List.mem_append, List.mem_singleton] at hz
          rcases hz with hz | rfl
          · exact HE.out z hz
          · exact c1
        case measure => simp [intOf]; omega
    · have hke : k = on.length := by omega
      go_wp2_with fail
      go_ret
      refine ⟨-1, rfl, ?_, by omega, rfl⟩
      have h1 := HE.out
      rw [List.take_of_length_le (by omega)] at h1
      constructor
      · intro h; omega
      · intro h; exact absurd rfl (h1 x h)

theorem Contains_any (v : Value) (on : List Int) (x : Int) (w : World) (hv : Ints w w.heap.size v on) (h9 : on.length ≤ maxLen) :
    Calls Tryd.prog 39 #[v, .int .i64 x] w fun e w' => e = .returned (.bool (decide (x ∈ on))) ∧ w = w' := by
  obtain ⟨A, c, rfl, hc⟩ := hv.form
  go_enter Tryd.func39, Tryd.ntmps39
  go_wp2_with fail
  with_reducible refine (Index_any _ _ _ _ hv h9).mono ?_
  rintro e w1 ⟨r, rfl, hr, hr1, rfl⟩
  have HR := Lib.hid hr
  clear hr
  go_wp2_with fail
  go_ret
  refine ⟨?_, rfl⟩
  show Ending.returned (Value.bool (decide (0 ≤ r))) = _
  congr 2
  exact decide_eq_decide.2 HR.out

def hasOf (n : Int) (on : List Int) (i : Int) : Bool := rightB n on && decide (i ∈ on)
set_option maxHeartbeats 400000 in
theorem Has_any (x : Value) (n : Int) (on : List Int) (i : Int) (w : World) (hx : Bt w x n on) (h9 : on.length ≤ maxLen) :
    Calls Tryd.prog 22 #[x, .int .i64 i] w fun e w' => e = .returned (.bool (hasOf n on i)) ∧ Below w.heap.size w w' := by
  obtain ⟨A, c, rfl, hc, hv⟩ := hx.form
  have hx1 := hx.alloc (.cells #[.int .i64 n, .slice A on.length c] 37)
  unfold hasOf
  have HR := Right_any _ _ _ _ hx1 h9
  cases hr : rightB n on
  · rw [hr] at HR
    go_enter Tryd.func22, Tryd.ntmps22
    go_wp2_with fail
    with_reducible refine HR.mono ?_
    rintro e w1 ⟨rfl, hb1⟩
    have hw1 : Below w.heap.size w w1 := ((Below.refl _ w).alloc (Nat.le_refl _) _).trans (hb1.mono (by simp))
    clear HR hr
    go_wp2_with fail
    go_ret
    exact ⟨rfl, hw1⟩
  · rw [hr] at HR
    go_enter Tryd.func22, Tryd.ntmps22
    go_wp2_with fail
    with_reducible refine HR.mono ?_
    rintro e w1 ⟨rfl, hb1⟩
    have hw1 : Below w.heap.size w w1 := ((Below.refl _ w).alloc (Nat.le_refl _) _).trans (hb1.mono (by simp))
    have hrow := (RowAt.new w 37 #[.int .i64 n, .slice A on.length c]).below hb1 (by simp)
    have hc1 := hrow.cell 1
    simp only [List.getElem?_cons_zero, List.getElem?_cons_succ] at hc1
    clear HR hr hrow
    go_wp2_with fail
    with_reducible refine (Contains_any _ _ _ _ (hv.on hw1) h9).mono ?_
    rintro e w2 ⟨rfl, rfl⟩
    go_wp2_with fail
    go_ret
    exact ⟨rfl, hw1⟩
end Go.Proofs.YthlajfoipafaaaaDoor
