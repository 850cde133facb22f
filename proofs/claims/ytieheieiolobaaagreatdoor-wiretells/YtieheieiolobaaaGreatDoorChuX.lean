/- Package churn beside octets: its table, More, Sum, and the document's. -/
import Derived.Test.YtieheieiolobaaaGreatDoorOctD
import Derived.Test.YtieheieiolobaaaGreatDoorRefP
import Derived.Test.YtieheieiolobaaaGreatDoorChuQ
import Derived.WalkLawsBesides
import Derived.Laws.IdiomStrings
import Derived.Deep.RegionWith
import Derived.Lib.BufferRead
import Derived.Deep.QuietTactic
import Derived.BigQuiet
import Derived.Deep.AppendLies
namespace Go.Proofs.YtieheieiolobaaaGreatDoor
open Go.RowKit

theorem refPut_no (x n : Int) (w : World) (h : ¬ (1 ≤ n ∧ n ≤ 8)) :
    Calls Tryz.prog 36 #[.int .u64 x, .int .i64 n] w fun e w' => e = .returned (.string ⟨#[]⟩) ∧ Below w.heap.size w w' := by
  have hcv := fun W : World => Lib.run_convert_nil_bytes (P := Tryz.prog) W 63 9 5 0 Tryz.underlying63 Tryz.underlying5 Tryz.underlying9
  by_cases h0 : 0 < n
  · have hd8 : decide (n ≤ 8) = false := by simp; omega
    have hd0 : decide (0 < n) = true := by simp; omega
    go_enter Tryz.func36, Tryz.ntmps36
    go_wp2_with fail
    go_loop [5, 6] (fun o i => o = .slice none 0 0 ∧ i = .int .i64 0) (fun _ _ => 0)
    case atStart => exact ⟨rfl, rfl⟩
    case round =>
      obtain ⟨rfl, rfl⟩ := hrel
      go_wp2_with fail
      go_ret
      exact ⟨rfl, Below.refl _ _⟩
  · have hd0 : decide (0 < n) = false := by simp; omega
    go_enter Tryz.func36, Tryz.ntmps36
    go_wp2_with fail
    go_loop [5, 6] (fun o i => o = .slice none 0 0 ∧ i = .int .i64 0) (fun _ _ => 0)
    case atStart => exact ⟨rfl, rfl⟩
    case round =>
      obtain ⟨rfl, rfl⟩ := hrel
      go_wp2_with fail
      go_ret
      exact ⟨rfl, Below.refl _ _⟩

theorem refPut_any (x : Nat) (n : Int) (w : World) :
    Calls Tryz.prog 36 #[.int .u64 x, .int .i64 n] w fun e w' => e = .returned (.string ⟨(putOf x n).toArray⟩) ∧ Below w.heap.size w w' := by
  unfold putOf
  by_cases h : 1 ≤ n ∧ n ≤ 8
  · obtain ⟨k, rfl⟩ := Int.eq_ofNat_of_zero_le (by omega : 0 ≤ n)
    have := refPut_yes x k w (by omega) (by omega)
    simpa [h] using this
  · have := refPut_no x n w h
    simpa [h] using this
theorem refPut_int (x : Int) (m : Nat) (n : Int) (w : World) (hx : x = (m : Int)) :
    Calls Tryz.prog 36 #[.int .u64 x, .int .i64 n] w fun e w' => e = .returned (.string ⟨(putOf m n).toArray⟩) ∧ Below w.heap.size w w' := by
  subst hx; exact refPut_any m n w


/-- The table's three numbers lie in the variable's block. -/
def Tab (w : World) : Prop := w.cell? ⟨0, 0, none⟩ = some (.int .u64 14695981039346656037) ∧ w.cell? ⟨0, 1, none⟩ = some (.int .u64 1099511628211) ∧ w.cell? ⟨0, 2, none⟩ = some (.int .u64 14886173955864302971)
theorem Tab.lt {w : World} (h : Tab w) : 0 < w.heap.size := World.block_lt_of_cell? w _ h.1
theorem Tab.below {w w' : World} {B : Nat} (h : Tab w) (hb : Below B w w') (hB : 0 < B) : Tab w' :=
  ⟨((bcell hb).1 0 0 hB).trans h.1, ((bcell hb).1 0 1 hB).trans h.2.1, ((bcell hb).1 0 2 hB).trans h.2.2⟩
theorem Tab.on {w w' : World} (h : Tab w) (hb : Below w.heap.size w w') : Tab w' := h.below hb h.lt

theorem byte_wrap (b : UInt8) : IntKind.u64.wrap (b.toNat : Int) = (b.toNat : Int) := wrap_u64_small _ (by omega) (by have := b.toNat_lt; omega)
theorem u64_mul (a b : Nat) : IntKind.u64.wrap ((a : Int) * (b : Int)) = ((a * b % 18446744073709551616 : Nat) : Int) := by
  show (a : Int) * (b : Int) % 18446744073709551616 = _
  rw [← Int.natCast_mul]
  exact (Int.natCast_emod (a * b) 18446744073709551616).symm
theorem step_val (h : Nat) (b : UInt8) (hh : h < 18446744073709551616) :
    IntKind.u64.wrap (bits .xor .u64 (h : Int) (IntKind.u64.wrap (b.toNat : Int)) * 1099511628211) = ((stepH h b.toNat : Nat) : Int) := by
  rw [byte_wrap, u64_xor_nat _ _ hh (byte_lt64 b)]
  exact u64_mul _ 1099511628211
theorem unstep_val (h : Nat) (b : UInt8) :
    bits .xor .u64 (IntKind.u64.wrap ((h : Int) * 14886173955864302971)) (IntKind.u64.wrap (b.toNat : Int)) = ((unstepH h b.toNat : Nat) : Int) := by
  rw [byte_wrap, show IntKind.u64.wrap ((h : Int) * 14886173955864302971) = _ from u64_mul h 14886173955864302971, u64_xor_nat _ _ (Nat.mod_lt _ (by decide)) (byte_lt64 b)]
  rfl
theorem more_take (h : Nat) (s : ByteArray) (k : Nat) (hk : k < s.size) : stepH (moreH h (s.data.toList.take k)) (s[k]).toNat = moreH h (s.data.toList.take (k + 1)) := by
  rw [take_snoc s k hk, moreH_append]; rfl
theorem take_all (s : ByteArray) (k : Nat) (h : ¬ k < s.size) : s.data.toList.take k = s.data.toList := List.take_of_length_le (by simp; omega)
theorem drop_cons (s : ByteArray) (k : Nat) (h : k < s.size) : s.data.toList.drop k = s[k] :: s.data.toList.drop (k + 1) := by
  rw [List.drop_eq_getElem_cons (by simpa using h)]; rfl
theorem back_drop (h : Nat) (s : ByteArray) (k : Nat) (hk : k < s.size) : unstepH (backH h (s.data.toList.drop (k + 1))) (s[k]).toNat = backH h (s.data.toList.drop k) := by
  rw [drop_cons s k hk]; rfl

set_option maxHeartbeats 400000 in
theorem More_any (h : Nat) (s : ByteArray) (w : World) (hh : h < 18446744073709551616) (hs : s.size ≤ 1000) (hT : Tab w) :
    Calls Tryz.prog 76 #[.int .u64 h, .string s] w fun e w' => e = .returned (.int .u64 (moreH h s.data.toList)) ∧ Below w.heap.size w w' := by
  go_enter Tryz.func76, Tryz.ntmps76
  go_wp2
  go_loopw [0, 8] (fun x i wr => ∃ k : Nat, k ≤ s.size ∧ i = .int .i64 k ∧ x = .int .u64 (moreH h (s.data.toList.take k)) ∧ Below w.heap.size w wr) (fun _ i _ => s.size - (intOf i).toNat)
  case atStart => exact ⟨0, Nat.zero_le _, rfl, rfl, Below.refl _ _⟩
  case round =>
    obtain ⟨k, hk, rfl, rfl, hb⟩ := hrel
    by_cases hlt : k < s.size
    · have hc := (hT.below hb hT.lt).2.1
      have hv := step_val (moreH h (s.data.toList.take k)) s[k] (moreH_lt hh _)
      rw [more_take h s k hlt] at hv
      go_wp2
      go_region
      all_goals go_wp2
      all_goals go_roundw
      case rel => exact ⟨k + 1, by omega, by go_num, rfl, hb.drew⟩
      case measure => simp [intOf]; omega
    · go_wp2
      go_ret
      exact ⟨ret_int (by rw [take_all s k hlt]), hb⟩

theorem Sum_any (s : ByteArray) (w : World) (hs : s.size ≤ 1000) (hT : Tab w) :
    Calls Tryz.prog 49 #[.string s] w fun e w' => e = .returned (.int .u64 (moreH 14695981039346656037 s.data.toList)) ∧ Below w.heap.size w w' := by
  have hc := hT.1
  have c1 : ∀ W, Tab W → Calls Tryz.prog 76 #[.int .u64 14695981039346656037, .string s] W fun e w' => e = .returned (.int .u64 (moreH 14695981039346656037 s.data.toList)) ∧ Below W.heap.size W w' := fun W hW => More_any 14695981039346656037 s W (by decide) hs hW
  go_enter Tryz.func49, Tryz.ntmps49
  go_wp2_with (first | (with_reducible refine (c1 _ hT).mono ?_; rintro e w1 ⟨rfl, hb⟩))
  go_ret
  exact ⟨rfl, hb⟩

set_option maxHeartbeats 400000 in
theorem rMore_any (h : Nat) (s : ByteArray) (w : World) (hh : h < 18446744073709551616) (hs : s.size ≤ 1000) :
    Calls Tryz.prog 77 #[.int .u64 h, .string s] w fun e w' => e = .returned (.int .u64 (moreH h s.data.toList)) ∧ w = w' := by
  go_enter Tryz.func77, Tryz.ntmps77
  go_wp2
  go_loop [0, 5] (fun x i => ∃ k : Nat, k ≤ s.size ∧ i = .int .i64 k ∧ x = .int .u64 (moreH h (s.data.toList.take k))) (fun _ i => s.size - (intOf i).toNat)
  case atStart => exact ⟨0, Nat.zero_le _, rfl, rfl⟩
  case round =>
    obtain ⟨k, hk, rfl, rfl⟩ := hrel
    by_cases hlt : k < s.size
    · have hv := step_val (moreH h (s.data.toList.take k)) s[k] (moreH_lt hh _)
      rw [more_take h s k hlt] at hv
      go_wp2
      go_round
      case rel => exact ⟨k + 1, by omega, by go_num, rfl⟩
      case measure => simp [intOf]; omega
    · go_wp2
      go_ret
      exact ⟨ret_int (by rw [take_all s k hlt]), rfl⟩

def newt (x : Nat) : Nat := x * ((2 + (18446744073709551616 - 1099511628211 * x % 18446744073709551616)) % 18446744073709551616) % 18446744073709551616
def newts : Nat → Nat
  | 0 => 1099511628211
  | k + 1 => newt (newts k)
theorem newts_six : newts 6 = 14886173955864302971 := by decide
theorem newt_val (x : Nat) : IntKind.u64.wrap ((x : Int) * IntKind.u64.wrap (2 - IntKind.u64.wrap (1099511628211 * (x : Int)))) = ((newt x : Nat) : Int) := by
  have e1 : IntKind.u64.wrap (1099511628211 * (x : Int)) = ((1099511628211 * x % 18446744073709551616 : Nat) : Int) := u64_mul 1099511628211 x
  have e2 : IntKind.u64.wrap (2 - ((1099511628211 * x % 18446744073709551616 : Nat) : Int)) = (((2 + (18446744073709551616 - 1099511628211 * x % 18446744073709551616)) % 18446744073709551616 : Nat) : Int) := by
    rw [IntKind.wrap_u64]
    have h := Nat.mod_lt (1099511628211 * x) (show 0 < 18446744073709551616 by decide)
    revert h
    generalize 1099511628211 * x % 18446744073709551616 = y
    intro h
    omega
  rw [e1, e2, u64_mul]
  rfl

theorem rSum_any (s : ByteArray) (w : World) (hs : s.size ≤ 1000) :
    Calls Tryz.prog 51 #[.string s] w fun e w' => e = .returned (.int .u64 (moreH 14695981039346656037 s.data.toList)) ∧ w = w' := by
  have c1 : ∀ W, Calls Tryz.prog 77 #[.int .u64 14695981039346656037, .string s] W fun e w' => e = .returned (.int .u64 (moreH 14695981039346656037 s.data.toList)) ∧ W = w' := fun W => rMore_any 14695981039346656037 s W (by decide) hs
  go_enter Tryz.func51, Tryz.ntmps51
  go_wp2_with (first | (with_reducible refine (c1 _).mono ?_; rintro e w1 ⟨rfl, rfl⟩))
  go_ret
  exact ⟨rfl, rfl⟩
end Go.Proofs.YtieheieiolobaaaGreatDoor
