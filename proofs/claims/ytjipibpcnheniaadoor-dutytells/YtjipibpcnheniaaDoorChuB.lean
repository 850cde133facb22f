/- octets.Put and its like of the document, alone; the table of package churn.
   churn.More, Back, Sum, and the document's. -/
import Derived.Test.YtjipibpcnheniaaDoorProg
import Derived.Test.YtjipibpcnheniaaDoorOctW
import Derived.Test.YtjipibpcnheniaaDoorChuQ
import Derived.WalkLawsBesides
import Derived.Laws.IdiomStrings
import Derived.Deep.RegionWith
import Derived.Lib.BufferRead
import Derived.Deep.QuietTactic
import Derived.BigQuiet
import Derived.Deep.AppendLies
namespace Go.Proofs.YtjipibpcnheniaaDoor
open Go.RowKit

def fitsH (n : Int) : Bool := decide (1 ≤ n) && decide (n ≤ 8)
theorem fitsH_iff (n : Int) : fitsH n = true ↔ 1 ≤ n ∧ n ≤ 8 := by simp [fitsH]
theorem fitsWordH_any (n : Int) (w : World) :
    Calls Tryd.prog 74 #[.int .i64 n] w fun e w' => e = .returned (.bool (fitsH n)) ∧ w = w' := by
  by_cases h : 1 ≤ n
  · go_enter Tryd.func74, Tryd.ntmps74
    go_wp2
    go_ret
    exact ⟨by simp [fitsH, h], rfl⟩
  · go_enter Tryd.func74, Tryd.ntmps74
    go_wp2
    go_ret
    exact ⟨by simp [fitsH]; omega, rfl⟩

theorem info_byteH : (Tryd.prog.info? 5).map (fun i => (i.zero, i.size, i.bytes)) = some (some (.int .u8 0), 1, 1) := by kernel_rfl

set_option maxHeartbeats 400000 in
theorem PutH_no (x n : Int) (w : World) (h : ¬ (1 ≤ n ∧ n ≤ 8)) :
    Calls Tryd.prog 55 #[.int .u64 x, .int .i64 n] w fun e w' => e = .returned (.string ⟨#[]⟩) ∧ Below w.heap.size w w' := by
  have hf : fitsH n = false := by
    cases e : fitsH n
    · rfl
    · exact absurd ((fitsH_iff _).1 e) h
  go_enter Tryd.func55, Tryd.ntmps55
  go_wp2_with fail
  refine (fitsWordH_any _ _).mono ?_
  rintro e w1 ⟨rfl, rfl⟩
  rw [hf]
  go_wp2
  go_ret
  exact ⟨rfl, Below.refl _ _⟩

set_option maxHeartbeats 400000 in
theorem PutH_yes (x n : Nat) (w : World) (h1 : 1 ≤ n) (h8 : n ≤ 8) :
    Calls Tryd.prog 55 #[.int .u64 x, .int .i64 n] w fun e w' => e = .returned (.string ⟨(leBytes x n).toArray⟩) ∧ Below w.heap.size w w' := by
  have hf : fitsH (n : Int) = true := (fitsH_iff _).2 ⟨by omega, by omega⟩
  obtain ⟨i0, hi, hz0, hz1, hz2⟩ := info_parts info_byteH
  obtain ⟨M, hM⟩ : ∃ M, M = madeCells (Value.int .u8 0).cells (n * i0.size) := ⟨_, rfl⟩
  have hMs : M.toList = List.replicate n (.int .u8 0) := by rw [hM, hz1, Nat.mul_one]; exact toList_madeCells_one _ _
  have hmk : ∀ W : World, (Instr.makeSlice 94 (.int .i64 (n : Int)) (.int .i64 (n : Int))).run Tryd.prog W = .ok (.slice (some ⟨W.heap.size, 0, none⟩) n n) (W.alloc (.cells M 5)) := fun W => by
    have hr := run_make (P := Tryd.prog) W 94 5 i0 (.int .u8 0) Tryd.underlying94 hi hz0 .i64 .i64 (n : Int) (n : Int) (by omega) (by omega) (by rw [hz2]; omega) (by omega)
    rw [hM]
    simpa using hr
  clear hM hi hz0 hz1 hz2
  go_enter Tryd.func55, Tryd.ntmps55
  go_wp2_with fail
  refine (fitsWordH_any _ _).mono ?_
  rintro e w1 ⟨rfl, rfl⟩
  rw [hf]
  go_wp2
  go_loopw [14] (fun i wr => ∃ k : Nat, k ≤ n ∧ i = .int .i64 k ∧ RowAt wr w.heap.size 5 (byteVals (leBytes x k) ++ List.replicate (n - k) (.int .u8 0)) ∧ Below w.heap.size w wr) (fun i _ => n - (intOf i).toNat)
  case atStart => exact ⟨0, Nat.zero_le _, rfl, by simpa [byteVals, leBytes, hMs] using RowAt.new w 5 M, (Below.refl _ _).alloc (Nat.le_refl _) _⟩
  case round =>
    obtain ⟨k, hk, rfl, hrow, hb⟩ := hrel
    by_cases hlt : k < n
    · have hc : wr.cell? ⟨w.heap.size, k, none⟩ = some (.int .u8 0) := by
        rw [hrow.cell, put_cell x n k hlt]
      have hf := hrow.frozen k
      have R := hrow.set k (.int .u8 ((x : Int) / 2 ^ (8 * k) % 256))
      rw [put_step x n k hlt] at R
      have hb2 := hb.setCell (p := ⟨w.heap.size, k, none⟩) (Nat.le_refl _) (.int .u8 ((x : Int) / 2 ^ (8 * k) % 256))
      clear hrow hb
      go_wp2
      go_roundw
      case rel => exact ⟨k + 1, by omega, by go_num, R, hb2⟩
      case measure => simp [intOf]; omega
    · obtain rfl : k = n := by omega
      have hcv := run_convert_bytes_back (P := Tryd.prog) wr 94 9 5 ⟨w.heap.size, 0, none⟩ k (leBytes x k) Tryd.underlying94 Tryd.underlying5 Tryd.underlying9 (fun j hj => by
        have e1 : (⟨w.heap.size, 0, none⟩ : Addr).add j = ⟨w.heap.size, j, none⟩ := by unfold Addr.add; split <;> simp_all
        rw [e1, hrow.cell, List.getElem?_append_left (by rw [byteVals_length]; exact hj)]
        simp [byteVals, List.getElem?_eq_getElem hj])
      rw [leBytes_length] at hcv
      clear hrow
      go_wp2
      go_ret
      exact ⟨rfl, hb⟩

/-- What Put answers. -/
def putOfH (x : Nat) (n : Int) : List UInt8 := if 1 ≤ n ∧ n ≤ 8 then leBytes x n.toNat else []

theorem PutH_any (x : Nat) (n : Int) (w : World) :
    Calls Tryd.prog 55 #[.int .u64 x, .int .i64 n] w fun e w' => e = .returned (.string ⟨(putOfH x n).toArray⟩) ∧ Below w.heap.size w w' := by
  unfold putOfH
  by_cases h : 1 ≤ n ∧ n ≤ 8
  · obtain ⟨k, rfl⟩ := Int.eq_ofNat_of_zero_le (by omega : 0 ≤ n)
    have := PutH_yes x k w (by omega) (by omega)
    simpa [h] using this
  · have := PutH_no x n w h
    simpa [h] using this

theorem PutH_int (x : Int) (m : Nat) (n : Int) (w : World) (hx : x = (m : Int)) :
    Calls Tryd.prog 55 #[.int .u64 x, .int .i64 n] w fun e w' => e = .returned (.string ⟨(putOfH m n).toArray⟩) ∧ Below w.heap.size w w' := by
  subst hx; exact PutH_any m n w
theorem refputH_byte (x k : Nat) : ((x : Int) / 2 ^ (8 * k) % 256) = ((UInt8.ofNat (x / 256 ^ k)).toNat : Int) := by
  have e2 : ((x / 2 ^ (8 * k) : Nat) : Int) = (x : Int) / 2 ^ (8 * k) := by rw [Int.natCast_ediv, Int.natCast_pow]; rfl
  rw [UInt8.toNat_ofNat', ← pow_8, ← e2]
  generalize x / 2 ^ (8 * k) = y
  omega

theorem refputH_val (x k : Nat) : ((x : Int) / 2 ^ (8 * k)).tmod 256 % 256 = ((UInt8.ofNat (x / 256 ^ k)).toNat : Int) := by
  have h0 : (0 : Int) ≤ (x : Int) / 2 ^ (8 * k) := Int.ediv_nonneg (by omega) (Int.le_of_lt (Int.pow_pos (by decide)))
  rw [Int.tmod_eq_emod_of_nonneg h0, Int.emod_emod_of_dvd _ (Int.dvd_refl _), refputH_byte]

set_option maxHeartbeats 1000000 in
theorem refPutH_yes (x n : Nat) (w : World) (h1 : 1 ≤ n) (h8 : n ≤ 8) :
    Calls Tryd.prog 57 #[.int .u64 x, .int .i64 n] w fun e w' => e = .returned (.string ⟨(leBytes x n).toArray⟩) ∧ Below w.heap.size w w' := by
  obtain ⟨i0, hi, hz0, hz1, hz2⟩ := info_parts info_byteH
  have hd8 : decide ((n : Int) ≤ 8) = true := by simp; omega
  go_enter Tryd.func57, Tryd.ntmps57
  go_wp2_with fail
  go_loopw [5, 6] (fun o i wr => ∃ k : Nat, k ≤ n ∧ i = .int .i64 k ∧ wr.ownsRow w.heap.size 5 1 o k (byteVals (leBytes x k)) ∧ Below w.heap.size w wr) (fun _ i _ => n - (intOf i).toNat)
  case atStart => exact ⟨0, Nat.zero_le _, rfl, World.ownsRow_nil _ _ _ _, Below.refl _ _⟩
  case round =>
    obtain ⟨k, hk, rfl, hown, hb⟩ := hrel
    have hz := hb.size
    by_cases hlt : k < n
    · have hown' : ∀ g, u5.ownBlock = some g → w.heap.size ≤ g := fun g hg => (hown.lt g hg).1
      go_wp2_with (at_builtin; refine wpList_append_own _ rfl _ _ 94 rfl w.heap.size 5 i0 (.int .u8 0) 1 1 Tryd.underlying94 hi hz0 hz1 hz2 rfl (by decide) _ _ _ rfl (hown.alloc _) ⟨wr.heap.size, 0, none⟩ 1 1 [.int .u8 (((x : Int) / 2 ^ (8 * k)).tmod 256 % 256)] rfl rfl ?c1 ?c2 ?c3 ?c4 ?c5 ?_)
      case c1 =>
        intro j u hj
        match j, hj with
        | 0, hj => simp at hj; subst hj; simp [Addr.add]
      case c2 => intro u hu; simp at hu; subst hu; rfl
      case c3 => unfold maxLen; omega
      case c4 => omega
      case c5 => simp; omega
      intro v' w1 hown1 hgrow _
      have R : w1.ownsRow w.heap.size 5 1 v' (k + 1) (byteVals (leBytes x (k + 1))) := by
        have e : byteVals (leBytes x (k + 1)) = byteVals (leBytes x k) ++ [.int .u8 (((x : Int) / 2 ^ (8 * k)).tmod 256 % 256)] := by
          rw [leBytes_snoc, refputH_val]; simp [byteVals]
        rw [e]; exact hown1
      have hbn : Below w.heap.size w w1 := (hb.alloc hz _).grown hgrow (by simp; omega) (fun g hg => hown' g hg)
      clear hown1 hgrow hown hb hown'
      go_wp2_with fail
      go_roundw
      case rel => exact ⟨k + 1, by omega, by go_num, R, hbn⟩
      case measure => simp [intOf]; omega
    · obtain rfl : k = n := by omega
      obtain ⟨g, cap, hv, _, _⟩ := hown.form (by omega)
      subst hv
      have hcells := hown.cells (g := g) rfl
      have hcv := run_convert_bytes_back (P := Tryd.prog) wr 94 9 5 ⟨g, 0, none⟩ cap (leBytes x k) Tryd.underlying94 Tryd.underlying5 Tryd.underlying9 (fun j hj => by
        exact hcells j _ (by simp [byteVals, List.getElem?_eq_getElem hj]))
      rw [leBytes_length] at hcv
      clear hown hcells
      go_wp2_with fail
      go_ret
      exact ⟨rfl, hb⟩

theorem refPut_no (x n : Int) (w : World) (h : ¬ (1 ≤ n ∧ n ≤ 8)) :
    Calls Tryd.prog 57 #[.int .u64 x, .int .i64 n] w fun e w' => e = .returned (.string ⟨#[]⟩) ∧ Below w.heap.size w w' := by
  have hcv := fun W : World => Lib.run_convert_nil_bytes (P := Tryd.prog) W 94 9 5 0 Tryd.underlying94 Tryd.underlying5 Tryd.underlying9
  by_cases h0 : 0 < n
  · have hd8 : decide (n ≤ 8) = false := by simp; omega
    have hd0 : decide (0 < n) = true := by simp; omega
    go_enter Tryd.func57, Tryd.ntmps57
    go_wp2_with fail
    go_loop [5, 6] (fun o i => o = .slice none 0 0 ∧ i = .int .i64 0) (fun _ _ => 0)
    case atStart => exact ⟨rfl, rfl⟩
    case round =>
      obtain ⟨rfl, rfl⟩ := hrel
      go_wp2_with fail
      go_ret
      exact ⟨rfl, Below.refl _ _⟩
  · have hd0 : decide (0 < n) = false := by simp; omega
    go_enter Tryd.func57, Tryd.ntmps57
    go_wp2_with fail
    go_loop [5, 6] (fun o i => o = .slice none 0 0 ∧ i = .int .i64 0) (fun _ _ => 0)
    case atStart => exact ⟨rfl, rfl⟩
    case round =>
      obtain ⟨rfl, rfl⟩ := hrel
      go_wp2_with fail
      go_ret
      exact ⟨rfl, Below.refl _ _⟩

theorem refPut_any (x : Nat) (n : Int) (w : World) :
    Calls Tryd.prog 57 #[.int .u64 x, .int .i64 n] w fun e w' => e = .returned (.string ⟨(putOfH x n).toArray⟩) ∧ Below w.heap.size w w' := by
  unfold putOfH
  by_cases h : 1 ≤ n ∧ n ≤ 8
  · obtain ⟨k, rfl⟩ := Int.eq_ofNat_of_zero_le (by omega : 0 ≤ n)
    have := refPutH_yes x k w (by omega) (by omega)
    simpa [h] using this
  · have := refPut_no x n w h
    simpa [h] using this
theorem refPut_int (x : Int) (m : Nat) (n : Int) (w : World) (hx : x = (m : Int)) :
    Calls Tryd.prog 57 #[.int .u64 x, .int .i64 n] w fun e w' => e = .returned (.string ⟨(putOfH m n).toArray⟩) ∧ Below w.heap.size w w' := by
  subst hx; exact refPut_any m n w


/-- The table's three numbers lie in the variable's block. -/
def Tab (w : World) : Prop := w.cell? ⟨1, 0, none⟩ = some (.int .u64 14695981039346656037) ∧ w.cell? ⟨1, 1, none⟩ = some (.int .u64 1099511628211) ∧ w.cell? ⟨1, 2, none⟩ = some (.int .u64 14886173955864302971)
theorem Tab.lt {w : World} (h : Tab w) : 1 < w.heap.size := World.block_lt_of_cell? w _ h.1
theorem Tab.below {w w' : World} {B : Nat} (h : Tab w) (hb : Below B w w') (hB : 1 < B) : Tab w' :=
  ⟨((bcell hb).1 1 0 hB).trans h.1, ((bcell hb).1 1 1 hB).trans h.2.1, ((bcell hb).1 1 2 hB).trans h.2.2⟩
theorem Tab.on {w w' : World} (h : Tab w) (hb : Below w.heap.size w w') : Tab w' := h.below hb h.lt

/- a byte's step as the code writes it -/
theorem byte_wrap (b : UInt8) : IntKind.u64.wrap (b.toNat : Int) = (b.toNat : Int) := wrap_u64_small _ (by omega) (by have := b.toNat_lt; omega)
theorem u64_mul (a b : Nat) : IntKind.u64.wrap ((a : Int) * (b : Int)) = ((a * b % 18446744073709551616 : Nat) : Int) := by
  show (a : Int) * (b : Int) % 18446744073709551616 = _
  rw [← Int.natCast_mul]
  exact (Int.natCast_emod (a * b) 18446744073709551616).symm
theorem step_val (h : Nat) (b : UInt8) (hh : h < 18446744073709551616) :
    IntKind.u64.wrap (bits .xor .u64 (h : Int) (IntKind.u64.wrap (b.toNat : Int)) * 1099511628211) = ((stepH h b.toNat : Nat) : Int) := by
  rw [byte_wrap, u64_xor_nat _ _ hh (byte_lt64 b)]
  exact u64_mul _ 1099511628211
theorem unstep_val (h : Nat) (b : UInt8) :
    bits .xor .u64 (IntKind.u64.wrap ((h : Int) * 14886173955864302971)) (IntKind.u64.wrap (b.toNat : Int)) = ((unstepH h b.toNat : Nat) : Int) := by
  rw [byte_wrap, show IntKind.u64.wrap ((h : Int) * 14886173955864302971) = _ from u64_mul h 14886173955864302971, u64_xor_nat _ _ (Nat.mod_lt _ (by decide)) (byte_lt64 b)]
  rfl
end Go.Proofs.YtjipibpcnheniaaDoor

namespace Go.Proofs.YtjipibpcnheniaaDoor
open Go.RowKit

theorem ret_intH {k : IntKind} {a b : Int} (h : a = b) : Ending.returned (.int k a) = .returned (.int k b) := by rw [h]
theorem more_take (h : Nat) (s : ByteArray) (k : Nat) (hk : k < s.size) : stepH (moreH h (s.data.toList.take k)) (s[k]).toNat = moreH h (s.data.toList.take (k + 1)) := by
  rw [take_snoc s k hk, moreH_append]; rfl
theorem take_all (s : ByteArray) (k : Nat) (h : ¬ k < s.size) : s.data.toList.take k = s.data.toList := List.take_of_length_le (by simp; omega)
theorem drop_cons (s : ByteArray) (k : Nat) (h : k < s.size) : s.data.toList.drop k = s[k] :: s.data.toList.drop (k + 1) := by
  rw [List.drop_eq_getElem_cons (by simpa using h)]; rfl
theorem back_drop (h : Nat) (s : ByteArray) (k : Nat) (hk : k < s.size) : unstepH (backH h (s.data.toList.drop (k + 1))) (s[k]).toNat = backH h (s.data.toList.drop k) := by
  rw [drop_cons s k hk]; rfl

set_option maxHeartbeats 400000 in
theorem More_any (h : Nat) (s : ByteArray) (w : World) (hh : h < 18446744073709551616) (hs : s.size ≤ 1000) (hT : Tab w) :
    Calls Tryd.prog 54 #[.int .u64 h, .string s] w fun e w' => e = .returned (.int .u64 (moreH h s.data.toList)) ∧ Below w.heap.size w w' := by
  go_enter Tryd.func54, Tryd.ntmps54
  go_wp2
  go_loopw [0, 8] (fun x i wr => ∃ k : Nat, k ≤ s.size ∧ i = .int .i64 k ∧ x = .int .u64 (moreH h (s.data.toList.take k)) ∧ Below w.heap.size w wr) (fun _ i _ => s.size - (intOf i).toNat)
  case atStart => exact ⟨0, Nat.zero_le _, rfl, rfl, Below.refl _ _⟩
  case round =>
    obtain ⟨k, hk, rfl, rfl, hb⟩ := hrel
    by_cases hlt : k < s.size
    · have hc := (hT.below hb hT.lt).2.1
      have hv := step_val (moreH h (s.data.toList.take k)) s[k] (moreH_lt hh _)
      rw [more_take h s k hlt] at hv
      go_wp2
      go_region
      all_goals go_wp2
      all_goals go_roundw
      case rel => exact ⟨k + 1, by omega, by go_num, rfl, hb.drew⟩
      case measure => simp [intOf]; omega
    · go_wp2
      go_ret
      exact ⟨ret_intH (by rw [take_all s k hlt]), hb⟩

theorem Sum_any (s : ByteArray) (w : World) (hs : s.size ≤ 1000) (hT : Tab w) :
    Calls Tryd.prog 47 #[.string s] w fun e w' => e = .returned (.int .u64 (moreH 14695981039346656037 s.data.toList)) ∧ Below w.heap.size w w' := by
  have hc := hT.1
  have c1 : ∀ W, Tab W → Calls Tryd.prog 54 #[.int .u64 14695981039346656037, .string s] W fun e w' => e = .returned (.int .u64 (moreH 14695981039346656037 s.data.toList)) ∧ Below W.heap.size W w' := fun W hW => More_any 14695981039346656037 s W (by decide) hs hW
  go_enter Tryd.func47, Tryd.ntmps47
  go_wp2_with (first | (with_reducible refine (c1 _ hT).mono ?_; rintro e w1 ⟨rfl, hb⟩))
  go_ret
  exact ⟨rfl, hb⟩

/- the document's -/
set_option maxHeartbeats 400000 in
theorem rMore_any (h : Nat) (s : ByteArray) (w : World) (hh : h < 18446744073709551616) (hs : s.size ≤ 1000) :
    Calls Tryd.prog 70 #[.int .u64 h, .string s] w fun e w' => e = .returned (.int .u64 (moreH h s.data.toList)) ∧ w = w' := by
  go_enter Tryd.func70, Tryd.ntmps70
  go_wp2
  go_loop [0, 5] (fun x i => ∃ k : Nat, k ≤ s.size ∧ i = .int .i64 k ∧ x = .int .u64 (moreH h (s.data.toList.take k))) (fun _ i => s.size - (intOf i).toNat)
  case atStart => exact ⟨0, Nat.zero_le _, rfl, rfl⟩
  case round =>
    obtain ⟨k, hk, rfl, rfl⟩ := hrel
    by_cases hlt : k < s.size
    · have hv := step_val (moreH h (s.data.toList.take k)) s[k] (moreH_lt hh _)
      rw [more_take h s k hlt] at hv
      go_wp2
      go_round
      case rel => exact ⟨k + 1, by omega, by go_num, rfl⟩
      case measure => simp [intOf]; omega
    · go_wp2
      go_ret
      exact ⟨ret_intH (by rw [take_all s k hlt]), rfl⟩

def newt (x : Nat) : Nat := x * ((2 + (18446744073709551616 - 1099511628211 * x % 18446744073709551616)) % 18446744073709551616) % 18446744073709551616
def newts : Nat → Nat
  | 0 => 1099511628211
  | k + 1 => newt (newts k)
theorem newts_six : newts 6 = 14886173955864302971 := by decide
theorem newt_val (x : Nat) : IntKind.u64.wrap ((x : Int) * IntKind.u64.wrap (2 - IntKind.u64.wrap (1099511628211 * (x : Int)))) = ((newt x : Nat) : Int) := by
  have e1 : IntKind.u64.wrap (1099511628211 * (x : Int)) = ((1099511628211 * x % 18446744073709551616 : Nat) : Int) := u64_mul 1099511628211 x
  have e2 : IntKind.u64.wrap (2 - ((1099511628211 * x % 18446744073709551616 : Nat) : Int)) = (((2 + (18446744073709551616 - 1099511628211 * x % 18446744073709551616)) % 18446744073709551616 : Nat) : Int) := by
    rw [IntKind.wrap_u64]
    have h := Nat.mod_lt (1099511628211 * x) (show 0 < 18446744073709551616 by decide)
    revert h
    generalize 1099511628211 * x % 18446744073709551616 = y
    intro h
    omega
  rw [e1, e2, u64_mul]
  rfl

theorem rSum_any (s : ByteArray) (w : World) (hs : s.size ≤ 1000) :
    Calls Tryd.prog 49 #[.string s] w fun e w' => e = .returned (.int .u64 (moreH 14695981039346656037 s.data.toList)) ∧ w = w' := by
  have c1 : ∀ W, Calls Tryd.prog 70 #[.int .u64 14695981039346656037, .string s] W fun e w' => e = .returned (.int .u64 (moreH 14695981039346656037 s.data.toList)) ∧ W = w' := fun W => rMore_any 14695981039346656037 s W (by decide) hs
  go_enter Tryd.func49, Tryd.ntmps49
  go_wp2_with (first | (with_reducible refine (c1 _).mono ?_; rintro e w1 ⟨rfl, rfl⟩))
  go_ret
  exact ⟨rfl, rfl⟩
end Go.Proofs.YtjipibpcnheniaaDoor
