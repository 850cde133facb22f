/- churn.More, Back, Sum, and the document's. -/
import Derived.Test.YtnbgmopjlpchkaaDoorChuA
namespace Go.Proofs.YtnbgmopjlpchkaaDoor
open Go.RowKit

theorem ret_int {k : IntKind} {a b : Int} (h : a = b) : Ending.returned (.int k a) = .returned (.int k b) := by rw [h]
theorem more_take (h : Nat) (s : ByteArray) (k : Nat) (hk : k < s.size) : stepH (moreH h (s.data.toList.take k)) (s[k]).toNat = moreH h (s.data.toList.take (k + 1)) := by
  rw [take_snoc s k hk, moreH_append]; rfl
theorem take_all (s : ByteArray) (k : Nat) (h : ¬ k < s.size) : s.data.toList.take k = s.data.toList := List.take_of_length_le (by simp; omega)
theorem drop_cons (s : ByteArray) (k : Nat) (h : k < s.size) : s.data.toList.drop k = s[k] :: s.data.toList.drop (k + 1) := by
  rw [List.drop_eq_getElem_cons (by simpa using h)]; rfl
theorem back_drop (h : Nat) (s : ByteArray) (k : Nat) (hk : k < s.size) : unstepH (backH h (s.data.toList.drop (k + 1))) (s[k]).toNat = backH h (s.data.toList.drop k) := by
  rw [drop_cons s k hk]; rfl

set_option maxHeartbeats 400000 in
theorem More_any (h : Nat) (s : ByteArray) (w : World) (hh : h < 18446744073709551616) (hs : s.size ≤ 1000) (hT : Tab w) :
    Calls Tryd.prog 42 #[.int .u64 h, .string s] w fun e w' => e = .returned (.int .u64 (moreH h s.data.toList)) ∧ Below w.heap.size w w' := by
  go_enter Tryd.func42, Tryd.ntmps42
  go_wp2
  go_loopw [0, 8] (fun x i wr => ∃ k : Nat, k ≤ s.size ∧ i = .int .i64 k ∧ x = .int .u64 (moreH h (s.data.toList.take k)) ∧ Below w.heap.size w wr) (fun _ i _ => s.size - (intOf i).toNat)
  case atStart => exact ⟨0, Nat.zero_le _, rfl, rfl, Below.refl _ _⟩
  case round =>
    obtain ⟨k, hk, rfl, rfl, hb⟩ := hrel
    by_cases hlt : k < s.size
    · have hc := (hT.below hb hT.lt).2.1
      have hv := step_val (moreH h (s.data.toList.take k)) s[k] (moreH_lt hh _)
      rw [more_take h s k hlt] at hv
      go_wp2
      go_region
      all_goals go_wp2
      all_goals go_roundw
      case rel => exact ⟨k + 1, by omega, by go_num, rfl, hb.drew⟩
      case measure => simp [intOf]; omega
    · go_wp2
      go_ret
      exact ⟨ret_int (by rw [take_all s k hlt]), hb⟩

theorem Sum_any (s : ByteArray) (w : World) (hs : s.size ≤ 1000) (hT : Tab w) :
    Calls Tryd.prog 41 #[.string s] w fun e w' => e = .returned (.int .u64 (moreH 14695981039346656037 s.data.toList)) ∧ Below w.heap.size w w' := by
  have hc := hT.1
  have c1 : ∀ W, Tab W → Calls Tryd.prog 42 #[.int .u64 14695981039346656037, .string s] W fun e w' => e = .returned (.int .u64 (moreH 14695981039346656037 s.data.toList)) ∧ Below W.heap.size W w' := fun W hW => More_any 14695981039346656037 s W (by decide) hs hW
  go_enter Tryd.func41, Tryd.ntmps41
  go_wp2_with (first | (with_reducible refine (c1 _ hT).mono ?_; rintro e w1 ⟨rfl, hb⟩))
  go_ret
  exact ⟨rfl, hb⟩

/- the document's -/
set_option maxHeartbeats 400000 in
theorem rMore_any (h : Nat) (s : ByteArray) (w : World) (hh : h < 18446744073709551616) (hs : s.size ≤ 1000) :
    Calls Tryd.prog 40 #[.int .u64 h, .string s] w fun e w' => e = .returned (.int .u64 (moreH h s.data.toList)) ∧ w = w' := by
  go_enter Tryd.func40, Tryd.ntmps40
  go_wp2
  go_loop [0, 5] (fun x i => ∃ k : Nat, k ≤ s.size ∧ i = .int .i64 k ∧ x = .int .u64 (moreH h (s.data.toList.take k))) (fun _ i => s.size - (intOf i).toNat)
  case atStart => exact ⟨0, Nat.zero_le _, rfl, rfl⟩
  case round =>
    obtain ⟨k, hk, rfl, rfl⟩ := hrel
    by_cases hlt : k < s.size
    · have hv := step_val (moreH h (s.data.toList.take k)) s[k] (moreH_lt hh _)
      rw [more_take h s k hlt] at hv
      go_wp2
      go_round
      case rel => exact ⟨k + 1, by omega, by go_num, rfl⟩
      case measure => simp [intOf]; omega
    · go_wp2
      go_ret
      exact ⟨ret_int (by rw [take_all s k hlt]), rfl⟩

def newt (x : Nat) : Nat := x * ((2 + (18446744073709551616 - 1099511628211 * x % 18446744073709551616)) % 18446744073709551616) % 18446744073709551616
def newts : Nat → Nat
  | 0 => 1099511628211
  | k + 1 => newt (newts k)
theorem newts_six : newts 6 = 14886173955864302971 := by decide
theorem newt_val (x : Nat) : IntKind.u64.wrap ((x : Int) * IntKind.u64.wrap (2 - IntKind.u64.wrap (1099511628211 * (x : Int)))) = ((newt x : Nat) : Int) := by
  have e1 : IntKind.u64.wrap (1099511628211 * (x : Int)) = ((1099511628211 * x % 18446744073709551616 : Nat) : Int) := u64_mul 1099511628211 x
  have e2 : IntKind.u64.wrap (2 - ((1099511628211 * x % 18446744073709551616 : Nat) : Int)) = (((2 + (18446744073709551616 - 1099511628211 * x % 18446744073709551616)) % 18446744073709551616 : Nat) : Int) := by
    rw [IntKind.wrap_u64]
    have h := Nat.mod_lt (1099511628211 * x) (show 0 < 18446744073709551616 by decide)
    revert h
    generalize 1099511628211 * x % 18446744073709551616 = y
    intro h
    omega
  rw [e1, e2, u64_mul]
  rfl

theorem rSum_any (s : ByteArray) (w : World) (hs : s.size ≤ 1000) :
    Calls Tryd.prog 38 #[.string s] w fun e w' => e = .returned (.int .u64 (moreH 14695981039346656037 s.data.toList)) ∧ w = w' := by
  have c1 : ∀ W, Calls Tryd.prog 40 #[.int .u64 14695981039346656037, .string s] W fun e w' => e = .returned (.int .u64 (moreH 14695981039346656037 s.data.toList)) ∧ W = w' := fun W => rMore_any 14695981039346656037 s W (by decide) hs
  go_enter Tryd.func38, Tryd.ntmps38
  go_wp2_with (first | (with_reducible refine (c1 _).mono ?_; rintro e w1 ⟨rfl, rfl⟩))
  go_ret
  exact ⟨rfl, rfl⟩
end Go.Proofs.YtnbgmopjlpchkaaDoor
