/- The walk of LagNear. -/
import Derived.Test.YtkpdfjpdjjjfiaaLagI
import Derived.Test.YtkpdfjpdjjjfiaaLagL
import Derived.Test.YtkpdfjpdjjjfiaaLagX
import Derived.OpenShut
namespace Go.Proofs.Ytkpdfjpdjjjfiaa
open Go.RowKit Ieee

theorem shl_one {S : Nat} (hS : S < 62) : 2 ^ S ≤ 2305843009213693952 ∧ wrap64 (2 ^ S) = ((2 ^ S : Nat) : Int) ∧ IntKind.i64.wrap (2 ^ S) = ((2 ^ S : Nat) : Int) ∧ wrap64 (1 * 2 ^ S) = ((2 ^ S : Nat) : Int) ∧ IntKind.i64.wrap (1 * 2 ^ S) = ((2 ^ S : Nat) : Int) := by
  have h1 : 2 ^ S ≤ 2305843009213693952 := Nat.le_trans (Nat.pow_le_pow_right (by omega) (show S ≤ 61 by omega)) (by decide)
  have hc : ((2 : Int) ^ S) = ((2 ^ S : Nat) : Int) := by rw [Int.natCast_pow]; rfl
  rw [Int.one_mul, hc]
  generalize 2 ^ S = V at *
  exact ⟨h1, by unfold wrap64; omega, wrap_i64_nat (by omega), by unfold wrap64; omega, wrap_i64_nat (by omega)⟩

set_option maxHeartbeats 2000000 in
theorem lnear_walk (k d : Int) (sg : Bool) (w : World) (hk : -9223372036854775808 ≤ k ∧ k ≤ 9223372036854775807) (hd : -9223372036854775808 ≤ d ∧ d ≤ 9223372036854775807) :
    Calls Try.prog 4 #[.int .i64 k, .int .i64 d, .bool sg] w fun e w' => e = .returned (.bool true) ∧ Below w.heap.size w w' := by
  obtain ⟨S, hS, pS⟩ := pick_calls k 62 hk (by omega) (by omega)
  obtain ⟨E, hE, pD⟩ := pick_calls d 4097 hd (by omega) (by omega)
  obtain ⟨hV, w1, w2, w3, w4⟩ := shl_one (S := S) (by omega)
  generalize 2 ^ S = V at *
  cases sg
  · have oN := fun W => Of_any ((V : Int) + (E : Int) - 2048) W
    have rN := fun W => rOf_any ((V : Int) + (E : Int) - 2048) W (by omega)
    have pl := fun W => Plain_any (ofW ((V : Int) + (E : Int) - 2048)) W (ofW_lt _)
    rw [ofW_plain] at pl
    generalize ofW ((V : Int) + (E : Int) - 2048) = O at *
    go_enter Try.func4, Try.ntmps4
    go_wp2_with fail
    with_reducible refine (awake_any _).mono ?_
    rintro e w1 ⟨rfl, hB1⟩
    go_wp2_with fail
    refine wp_region_later (by kernel_rfl) (by kernel_rfl) ?_
    repeat (go_big_quiet_step (first
      | with_reducible exact later_same (pS _)
      | with_reducible exact later_same (pD _)))
    refine wpQuiet_nil ?_
    intro _ hw'
    obtain ⟨pq, rfl⟩ := hw'
    go_wp2_with (first
      | (with_reducible refine (oN _).mono ?_; rintro e w2 ⟨rfl, rfl⟩)
      | (with_reducible refine (rN _).mono ?_; rintro e w2 ⟨rfl, rfl⟩)
      | (with_reducible refine (pl _).mono ?_; rintro e w2 ⟨rfl, rfl⟩))
    go_ret
    exact ⟨rfl, hB1.trans (pq.h.mono hB1.size)⟩
  · have oN := fun W => Of_any (-((V : Int) + (E : Int) - 2048)) W
    have rN := fun W => rOf_any (-((V : Int) + (E : Int) - 2048)) W (by omega)
    have pl := fun W => Plain_any (ofW (-((V : Int) + (E : Int) - 2048))) W (ofW_lt _)
    rw [ofW_plain] at pl
    generalize ofW (-((V : Int) + (E : Int) - 2048)) = O at *
    go_enter Try.func4, Try.ntmps4
    go_wp2_with fail
    with_reducible refine (awake_any _).mono ?_
    rintro e w1 ⟨rfl, hB1⟩
    go_wp2_with fail
    refine wp_region_later (by kernel_rfl) (by kernel_rfl) ?_
    repeat (go_big_quiet_step (first
      | with_reducible exact later_same (pS _)
      | with_reducible exact later_same (pD _)))
    refine wpQuiet_nil ?_
    intro _ hw'
    obtain ⟨pq, rfl⟩ := hw'
    go_wp2_with (first
      | (with_reducible refine (oN _).mono ?_; rintro e w2 ⟨rfl, rfl⟩)
      | (with_reducible refine (rN _).mono ?_; rintro e w2 ⟨rfl, rfl⟩)
      | (with_reducible refine (pl _).mono ?_; rintro e w2 ⟨rfl, rfl⟩))
    go_ret
    exact ⟨rfl, hB1.trans (pq.h.mono hB1.size)⟩

theorem lnear_calls (a : Int) (hfa : (Lit.int .i64 a).wf = true) (b : Int) (hfb : (Lit.int .i64 b).wf = true) (c : Bool) (w : World) :
    Calls Try.prog 4 #[.int .i64 a, .int .i64 b, .bool c] w fun e w' => e = .returned (.bool true) ∧ Below w.heap.size w w' :=
  lnear_walk a b c w (i64_of_wf hfa) (i64_of_wf hfb)
end Go.Proofs.Ytkpdfjpdjjjfiaa
