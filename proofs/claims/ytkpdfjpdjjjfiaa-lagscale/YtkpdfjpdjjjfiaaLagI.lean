/- mootbelllaw03.pick. -/
import Derived.Test.YtkpdfjpdjjjfiaaLagF
import Derived.Test.YtkpdfjpdjjjfiaaLagH
namespace Go.Proofs.Ytkpdfjpdjjjfiaa
open Go.RowKit

theorem pick_calls (c n : Int) (hc : -9223372036854775808 ≤ c ∧ c ≤ 9223372036854775807) (hn : 0 < n) (hn2 : n ≤ 9223372036854775807) :
    ∃ P : Nat, (P : Int) < n ∧ ∀ w, Calls Try.prog 17 #[.int .i64 c, .int .i64 n] w fun e w' => e = .returned (.int .i64 (P : Int)) ∧ w = w' := by
  by_cases h : c < 0
  · have he : 0 ≤ -((c + 1).tmod n) ∧ -((c + 1).tmod n) < n := by
      rw [← Int.neg_tmod, Int.tmod_eq_emod_of_nonneg (by omega)]
      exact ⟨Int.emod_nonneg _ (by omega), Int.emod_lt_of_pos _ hn⟩
    obtain ⟨P, hP⟩ := Int.eq_ofNat_of_zero_le he.1
    refine ⟨P, by omega, fun w => ?_⟩
    rw [← hP]
    clear he hP
    go_enter Try.func17, Try.ntmps17
    go_wp2
    go_ret
    exact ⟨rfl, rfl⟩
  · obtain ⟨P, hP⟩ := Int.eq_ofNat_of_zero_le (Int.emod_nonneg c (show n ≠ 0 by omega))
    have hlt := Int.emod_lt_of_pos c hn
    refine ⟨P, by omega, fun w => ?_⟩
    rw [← hP]
    clear hP hlt
    go_enter Try.func17, Try.ntmps17
    go_wp2
    go_ret
    exact ⟨rfl, rfl⟩
end Go.Proofs.Ytkpdfjpdjjjfiaa
