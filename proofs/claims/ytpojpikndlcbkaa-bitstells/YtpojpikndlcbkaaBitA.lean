/- The small functions of package bits: fitsLen, vectorBytes, Right, mark. -/
import Derived.Test.YtpojpikndlcbkaaProg
import Derived.Test.YtpojpikndlcbkaaBitW
import Derived.Test.YtpojpikndlcbkaaBitP
import Derived.Test.YtpojpikndlcbkaaOctP
import Derived.WalkLawsBesides
import Derived.Laws.IdiomStrings
namespace Go.Proofs.Ytpojpikndlcbkaa
open Go.RowKit

theorem fitsLen_any (n : Int) (w : World) :
    Calls Try.prog 30 #[.int .i64 n] w fun e w' => e = .returned (.bool (fitsB n)) ∧ w = w' := by
  by_cases h : 0 ≤ n
  · go_enter Try.func30, Try.ntmps30
    go_wp2
    go_ret
    exact ⟨by simp [fitsB, h], rfl⟩
  · go_enter Try.func30, Try.ntmps30
    go_wp2
    go_ret
    exact ⟨by simp [fitsB]; omega, rfl⟩

theorem vectorBytes_any (n : Nat) (w : World) (h : n ≤ 2048) :
    Calls Try.prog 29 #[.int .i64 n] w fun e w' => e = .returned (.int .i64 (((n + 7) / 8 : Nat) : Int)) ∧ w = w' := by
  go_enter Try.func29, Try.ntmps29
  go_wp2
  go_ret
  refine ⟨?_, rfl⟩
  show Ending.returned (Value.int .i64 (((n : Int) + 8 - 1) / 8)) = _
  congr 2
  omega

theorem risesFrom_take_step (n : Int) (on : List Int) (k : Nat) (hk : k < on.length) (last : Int) : risesFrom n last (on.drop k) = (decide (last < on[k]) && decide (on[k] < n) && risesFrom n on[k] (on.drop (k + 1))) := by
  rw [List.drop_eq_getElem_cons hk]; rfl

set_option maxHeartbeats 400000 in
theorem Right_any (x : Value) (n : Int) (on : List Int) (w : World) (hx : Bt w x n on) (h9 : on.length ≤ maxLen) :
    Calls Try.prog 10 #[x] w fun e w' => e = .returned (.bool (rightB n on)) ∧ Below w.heap.size w w' := by
  obtain ⟨A, c, rfl, hc, hv⟩ := hx.form
  have hb0 : Below w.heap.size w (w.alloc (.cells #[.int .i64 n, .slice A on.length c] 24)) := (Below.refl _ w).alloc (Nat.le_refl _) _
  have hv1 := hv.below hb0 (Nat.le_refl _)
  have h9' : on.length ≤ 9223372036854775807 := h9
  by_cases hf : fitsB n = true
  · go_enter Try.func10, Try.ntmps10
    go_wp2_with fail
    with_reducible refine (fitsLen_any _ _).mono ?_
    rintro e w1 ⟨rfl, rfl⟩
    rw [hf]
    go_wp2_with fail
    go_loop [3, 13] (fun l i => ∃ (k : Nat) (last : Int), k ≤ on.length ∧ i = .int .i64 k ∧ l = .int .i64 last ∧ rightB n on = risesFrom n last (on.drop k)) (fun _ i => on.length - (intOf i).toNat)
    case atStart => exact ⟨0, -1, Nat.zero_le _, rfl, rfl, by simp [rightB, hf]⟩
    case round =>
      obtain ⟨k, last, hk, rfl, rfl, he⟩ := hrel
      have HE := Lib.hid he
      clear he
      by_cases hlt : k < on.length
      · obtain ⟨ad, rfl, hb, hcell⟩ := hv1.at_ hlt
        have HS := Lib.hid (risesFrom_take_step n on k hlt last)
        generalize hy : on[k] = y at *
        clear hy
        by_cases c1 : last < y
        · by_cases c2 : y < n
          · go_wp2_with fail
            go_round
            case rel => exact ⟨k + 1, y, by omega, by go_num, rfl, by rw [HE.out, HS.out]; simp [c1, c2]⟩
            case measure => simp [intOf]; omega
          · go_wp2_with fail
            go_ret
            exact ⟨by rw [HE.out, HS.out]; simp; intros; omega, hb0⟩
        · go_wp2_with fail
          go_ret
          exact ⟨by rw [HE.out, HS.out]; simp; intros; omega, hb0⟩
      · go_wp2_with fail
        go_ret
        exact ⟨by rw [HE.out, List.drop_of_length_le (by omega)]; rfl, hb0⟩
  · have hr : rightB n on = false := by simp [rightB, hf]
    have hf' : fitsB n = false := by simpa using hf
    rw [hr]
    clear hr hf
    go_enter Try.func10, Try.ntmps10
    go_wp2_with fail
    with_reducible refine (fitsLen_any _ _).mono ?_
    rintro e w1 ⟨rfl, rfl⟩
    rw [hf']
    go_wp2_with fail
    go_ret
    exact ⟨rfl, hb0⟩
end Go.Proofs.Ytpojpikndlcbkaa
