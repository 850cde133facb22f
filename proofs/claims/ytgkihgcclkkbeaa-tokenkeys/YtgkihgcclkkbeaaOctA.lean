/- The small functions of package octets: demand, fitsWord, number, and the door of attempt. -/
import Derived.Test.YtgkihgcclkkbeaaProg
import Derived.WalkKit
import Derived.WalkSpells
import Derived.WalkLawsBesides
import Derived.Defers
import Derived.Recover
import Derived.Lib.Hide
namespace Go.Proofs.Ytgkihgcclkkbeaa
open Go.RowKit

theorem demand_yes (x : Int) (w : World) :
    Calls Try.prog 73 #[.bool true, .int .i64 x] w fun e w' => e = .returned (.tuple #[]) ∧ w = w' := by
  go_enter Try.func73, Try.ntmps73
  go_wp2
  go_end0
  exact ⟨rfl, rfl⟩

theorem demand_no (x : Int) (w : World) :
    Calls Try.prog 73 #[.bool false, .int .i64 x] w fun e w' => e = .panicked [{ v := .iface 30 (.int .i64 x), recovered := false }] ∧ w = w' := by
  go_enter Try.func73, Try.ntmps73
  go_wp2
  exact ⟨rfl, rfl, rfl⟩

def fits (n : Int) : Bool := decide (1 ≤ n) && decide (n ≤ 8)
theorem fits_iff (n : Int) : fits n = true ↔ 1 ≤ n ∧ n ≤ 8 := by simp [fits]
theorem fitsWord_any (n : Int) (w : World) :
    Calls Try.prog 44 #[.int .i64 n] w fun e w' => e = .returned (.bool (fits n)) ∧ w = w' := by
  by_cases h : 1 ≤ n
  · go_enter Try.func44, Try.ntmps44
    go_wp2
    go_ret
    exact ⟨by simp [fits, h], rfl⟩
  · go_enter Try.func44, Try.ntmps44
    go_wp2
    go_ret
    exact ⟨by simp [fits]; omega, rfl⟩

theorem assert_errno (y : Int) (w : World) : (Instr.typeAssert (.iface 30 (.int .i64 y)) 20 30 false).run Try.prog w = .ok (.int .i64 y) w := by
  simp [Instr.typeAssert, run_underlying Try.underlying30, go_sem, Result.andThen]

/-- The deferred function of attempt, where the frame below panics with an error's number. -/
theorem catch_panicking (p : Addr) (x y : Int) (older : List PanicEntry) (w : World) (hc : w.cell? p = some (.int .i64 x)) (hz : w.frozen? p = false) :
    CallsD Try.prog 72 #[.pointer (some p)] (.panicking ({ v := .iface 30 (.int .i64 y), recovered := false } :: older)) w fun e u' w' =>
      e = .returned (.tuple #[]) ∧ u' = .panicking ({ v := .iface 30 (.int .i64 y), recovered := true } :: older) ∧ w' = w.setCell p (.int .i64 y) := by
  have hta := assert_errno y
  refine callsD_of_wpS Try.func72 rfl fun c₀ cs hu => ?_
  apply wpS_seq
  apply wpS_region
  simp [wpOpsS, go_sem, recoverD, hu, Try.ntmps72, Exit.thenS]
  refine wpS_of_wp ?_
  simp only [Array.replicate]
  go_wp2
  simp [bodyPostS, results, Try.results72]

theorem catch_idle (p : Addr) (w : World) :
    CallsD Try.prog 72 #[.pointer (some p)] .returning w fun e u' w' => e = .returned (.tuple #[]) ∧ u' = .returning ∧ w' = w := by
  refine callsD_of_wpS Try.func72 rfl fun c₀ cs hu => ?_
  apply wpS_seq
  apply wpS_region
  simp [wpOpsS, go_sem, recoverD, hu, Try.ntmps72, Exit.thenS]
  refine wpS_of_wp ?_
  simp only [Array.replicate]
  go_wp2
  cases c₀
  simp_all [bodyPostS, results, Try.results72]

theorem attempt_ok (K : Nat) (caps : Array Value) (w : World) (R : World → Prop)
    (hent : ∀ (args : Array Value) (w : World), (callFunc K args).run Try.prog w = .ok (.enter K args) w)
    (hK : Calls Try.prog K caps (w.alloc (.cells #[.int .i64 0] 30)) fun e w' => e = .returned (.tuple #[]) ∧ R w' ∧
       w'.cell? ⟨w.heap.size, 0, none⟩ = some (.int .i64 0) ∧ w'.frozen? ⟨w.heap.size, 0, none⟩ = false) :
    Calls Try.prog 64 #[.func (.func K) #[] caps] w fun e w' => e = .returned (.int .i64 0) ∧ ∃ w1, R w1 ∧ w' = w1.setCell ⟨w.heap.size, 0, none⟩ (.int .i64 0) := by
  have hmf : ∀ (fn : Fn) (first cap : Array Value) (w : World), (Instr.makeFunc fn first cap).run Try.prog w = .ok (.func fn first cap) w := fun _ _ _ _ => rfl
  have HK := Lib.hid hK
  clear hK
  go_enter_defers Try.func64, Try.ntmps64
  go_wp2_with fail
  refine HK.out.mono ?_
  rintro e w1 ⟨rfl, hR, hc, hf⟩
  have HR := Lib.hid hR
  clear hR HK
  go_wp2
  refine leaves_cons (f := 72) (args := #[.pointer (some ⟨w.heap.size, 0, none⟩)]) (by simp) (by simp [go_sem]) ?_
  refine (catch_idle ⟨w.heap.size, 0, none⟩ _).mono ?_
  rintro e u' w'' ⟨rfl, rfl, rfl⟩
  simp only [Leaves, settle, results, Try.results64]
  refine ⟨_, ?_, rfl, w1, HR.out, rfl⟩
  simp [go_sem, hc]

theorem attempt_no (K : Nat) (caps : Array Value) (y : Int) (w : World) (R : World → Prop)
    (hent : ∀ (args : Array Value) (w : World), (callFunc K args).run Try.prog w = .ok (.enter K args) w)
    (hK : Calls Try.prog K caps (w.alloc (.cells #[.int .i64 0] 30)) fun e w' => e = .panicked [{ v := .iface 30 (.int .i64 y), recovered := false }] ∧ R w' ∧
       w'.cell? ⟨w.heap.size, 0, none⟩ = some (.int .i64 0) ∧ w'.frozen? ⟨w.heap.size, 0, none⟩ = false) :
    Calls Try.prog 64 #[.func (.func K) #[] caps] w fun e w' => e = .returned (.int .i64 y) ∧ ∃ w1, R w1 ∧ w' = w1.setCell ⟨w.heap.size, 0, none⟩ (.int .i64 y) := by
  have hmf : ∀ (fn : Fn) (first cap : Array Value) (w : World), (Instr.makeFunc fn first cap).run Try.prog w = .ok (.func fn first cap) w := fun _ _ _ _ => rfl
  have HK := Lib.hid hK
  clear hK
  go_enter_defers Try.func64, Try.ntmps64
  go_wp2_with fail
  refine HK.out.mono ?_
  rintro e w1 ⟨rfl, hR, hc, hf⟩
  have HR := Lib.hid hR
  clear hR HK
  refine leaves_cons (f := 72) (args := #[.pointer (some ⟨w.heap.size, 0, none⟩)]) (by simp) (by simp [go_sem]) ?_
  refine (catch_panicking ⟨w.heap.size, 0, none⟩ 0 y [] _ hc hf).mono ?_
  rintro e u' w'' ⟨rfl, rfl, rfl⟩
  simp [Leaves, settle, results, Try.results64, go_sem, hc]
  exact ⟨w1, HR.out, rfl⟩
end Go.Proofs.Ytgkihgcclkkbeaa
