/- octets.Take.
   octets.Put. -/
import Derived.Test.YtieheieiolobaaaGreatDoorOctB
import Derived.Test.YtieheieiolobaaaGreatDoorOctW
import Derived.Test.YtieheieiolobaaaGreatDoorShelf
import Derived.Deep.RegionWith
import Derived.Laws.IdiomStrings
namespace Go.Proofs.YtieheieiolobaaaGreatDoor
open Go.RowKit

theorem clone_any (s : ByteArray) (w : World) (hs : s.size ≤ 281474976710656) :
    Calls Tryz.prog 118 #[.string s] w fun e w' => e = .returned (.string s) ∧ Below w.heap.size w w' := by
  go_enter Tryz.func118, Tryz.ntmps118
  go_wp2_with fail
  refine (Tryz.stringslite_Clone s _ hs).mono ?_
  rintro e w1 ⟨rfl, hb⟩
  go_wp2
  go_ret
  exact ⟨rfl, hb⟩

theorem ext_size (s : ByteArray) (i j : Nat) (h : j ≤ s.size) : (s.extract i j).size = j - i := by
  rw [ByteArray.size_extract]; omega

set_option maxHeartbeats 400000 in
theorem take_yes (s : ByteArray) (n : Nat) (w : World) (h1 : 1 ≤ n) (h8 : n ≤ 8) (hn : n ≤ s.size) (hs : s.size ≤ 281474976710656) :
    Calls Tryz.prog 113 #[.string s, .int .i64 n] w fun e w' => e = .returned (.tuple #[.int .u64 (leNum (s.data.toList.take n)), .string (s.extract n s.size)]) ∧ Below w.heap.size w w' := by
  have hf : fits (n : Int) = true := (fits_iff _).2 ⟨by omega, by omega⟩
  have hd : decide (n ≤ s.size) = true := by simpa using hn
  have hx1 : (s.extract 0 n).size ≤ 8 := by rw [ext_size _ _ _ hn]; omega
  have hx2 : (s.extract n s.size).size ≤ 281474976710656 := by rw [ext_size _ _ _ (Nat.le_refl _)]; omega
  go_enter Tryz.func113, Tryz.ntmps113
  go_wp2_with fail
  refine (fitsWord_any _ _).mono ?_
  rintro e w1 ⟨rfl, rfl⟩
  rw [hf]
  go_wp2_with fail
  refine (demand_yes _ _).mono ?_
  rintro e w1 ⟨rfl, rfl⟩
  go_wp2_with fail
  refine (demand_yes _ _).mono ?_
  rintro e w1 ⟨rfl, rfl⟩
  go_wp2_with fail
  go_region_with (first
    | (go_at_call 120; refine (number_any _ _ hx1).mono ?_; rintro e w1 ⟨rfl, rfl⟩)
    | (go_at_call 118; refine (clone_any _ _ hx2).mono ?_; rintro e w1 ⟨rfl, hb⟩))
  all_goals (try go_wp2)
  all_goals go_ret2
  all_goals exact ⟨rfl, (Below.refl _ _).drew.trans hb⟩

theorem take_arg (s : ByteArray) (n : Int) (w : World) (h : ¬ (1 ≤ n ∧ n ≤ 8)) :
    Calls Tryz.prog 113 #[.string s, .int .i64 n] w fun e w' => e = .panicked [{ v := .iface 44 (.int .i64 1), recovered := false }] ∧ w = w' := by
  have hf : fits n = false := by
    cases e : fits n
    · rfl
    · exact absurd ((fits_iff _).1 e) h
  go_enter Tryz.func113, Tryz.ntmps113
  go_wp2_with fail
  refine (fitsWord_any _ _).mono ?_
  rintro e w1 ⟨rfl, rfl⟩
  rw [hf]
  go_wp2_with fail
  refine (demand_no _ _).mono ?_
  rintro e w1 ⟨rfl, rfl⟩
  exact ⟨rfl, rfl, rfl⟩

theorem take_short (s : ByteArray) (n : Nat) (w : World) (h1 : 1 ≤ n) (h8 : n ≤ 8) (hn : s.size < n) :
    Calls Tryz.prog 113 #[.string s, .int .i64 n] w fun e w' => e = .panicked [{ v := .iface 44 (.int .i64 3), recovered := false }] ∧ w = w' := by
  have hf : fits (n : Int) = true := (fits_iff _).2 ⟨by omega, by omega⟩
  have hd : decide (n ≤ s.size) = false := by simpa using hn
  go_enter Tryz.func113, Tryz.ntmps113
  go_wp2_with fail
  refine (fitsWord_any _ _).mono ?_
  rintro e w1 ⟨rfl, rfl⟩
  rw [hf]
  go_wp2_with fail
  refine (demand_yes _ _).mono ?_
  rintro e w1 ⟨rfl, rfl⟩
  go_wp2_with fail
  refine (demand_no _ _).mono ?_
  rintro e w1 ⟨rfl, rfl⟩
  exact ⟨rfl, rfl, rfl⟩

/-- The closure that Take hands to attempt, where it does not give up. -/
theorem takeFn_yes (s : ByteArray) (n : Nat) (N : Nat) (x y : Value) (w : World) (h1 : 1 ≤ n) (h8 : n ≤ 8) (hn : n ≤ s.size) (hs : s.size ≤ 281474976710656)
    (hN : N + 4 ≤ w.heap.size) (c0 : w.cell? ⟨N, 0, none⟩ = some (.string s)) (c1 : w.cell? ⟨N + 1, 0, none⟩ = some (.int .i64 n)) (c2 : w.cell? ⟨N + 2, 0, none⟩ = some x) (c3 : w.cell? ⟨N + 3, 0, none⟩ = some y)
    (f2 : w.frozen? ⟨N + 2, 0, none⟩ = false) (f3 : w.frozen? ⟨N + 3, 0, none⟩ = false) :
    Calls Tryz.prog 112 #[.pointer (some ⟨N, 0, none⟩), .pointer (some ⟨N + 1, 0, none⟩), .pointer (some ⟨N + 2, 0, none⟩), .pointer (some ⟨N + 3, 0, none⟩)] w fun e w' =>
      e = .returned (.tuple #[]) ∧ ∃ w1, Below w.heap.size w w1 ∧ w' = (w1.setCell ⟨N + 2, 0, none⟩ (.int .u64 (leNum (s.data.toList.take n)))).setCell ⟨N + 3, 0, none⟩ (.string (s.extract n s.size)) := by
  go_enter Tryz.func112, Tryz.ntmps112
  go_wp2_with fail
  refine (take_yes s n _ h1 h8 hn hs).mono ?_
  rintro e w1 ⟨rfl, hb⟩
  obtain ⟨hc, hf⟩ := bcell hb
  have d2 : w1.cell? ⟨N + 2, 0, none⟩ = some x := by rw [hc _ _ (by omega)]; exact c2
  have d3 : w1.cell? ⟨N + 3, 0, none⟩ = some y := by rw [hc _ _ (by omega)]; exact c3
  have g2 : w1.frozen? ⟨N + 2, 0, none⟩ = false := by rw [hf _ _ (by omega)]; exact f2
  have g3 : w1.frozen? ⟨N + 3, 0, none⟩ = false := by rw [hf _ _ (by omega)]; exact f3
  clear hc hf c0 c1 c2 c3 f2 f3
  go_wp2
  go_end0
  exact ⟨rfl, w1, hb, rfl⟩

/-- attempt over that closure. -/
theorem tryTake_yes (s : ByteArray) (n : Nat) (N : Nat) (x y : Value) (w : World) (h1 : 1 ≤ n) (h8 : n ≤ 8) (hn : n ≤ s.size) (hs : s.size ≤ 281474976710656)
    (hN : N + 4 = w.heap.size) (c0 : w.cell? ⟨N, 0, none⟩ = some (.string s)) (c1 : w.cell? ⟨N + 1, 0, none⟩ = some (.int .i64 n)) (c2 : w.cell? ⟨N + 2, 0, none⟩ = some x) (c3 : w.cell? ⟨N + 3, 0, none⟩ = some y)
    (f2 : w.frozen? ⟨N + 2, 0, none⟩ = false) (f3 : w.frozen? ⟨N + 3, 0, none⟩ = false) :
    Calls Tryz.prog 87 #[.func (.func 112) #[] #[.pointer (some ⟨N, 0, none⟩), .pointer (some ⟨N + 1, 0, none⟩), .pointer (some ⟨N + 2, 0, none⟩), .pointer (some ⟨N + 3, 0, none⟩)]] w fun e w' =>
      e = .returned (.int .i64 0) ∧ w'.cell? ⟨N + 2, 0, none⟩ = some (.int .u64 (leNum (s.data.toList.take n))) ∧ w'.cell? ⟨N + 3, 0, none⟩ = some (.string (s.extract n s.size)) ∧ Below N w w' := by
  have old : ∀ p : Addr, p.block < w.heap.size → (w.alloc (.cells #[.int .i64 0] 44)).cell? p = w.cell? p := fun p hp => World.cell?_alloc_lt _ _ _ hp
  have oldf : ∀ p : Addr, p.block < w.heap.size → (w.alloc (.cells #[.int .i64 0] 44)).frozen? p = w.frozen? p := fun p hp => World.frozen?_alloc_old _ _ _ (by omega)
  refine (attempt_ok 112 _ w (fun w' => ∃ w1, Below (w.heap.size + 1) (w.alloc (.cells #[.int .i64 0] 44)) w1 ∧ w' = (w1.setCell ⟨N + 2, 0, none⟩ (.int .u64 (leNum (s.data.toList.take n)))).setCell ⟨N + 3, 0, none⟩ (.string (s.extract n s.size)))
    (enters_of Tryz.func112 (by kernel_rfl) rfl) ((takeFn_yes s n N x y _ h1 h8 hn hs (by simp <;> omega) ((old _ (by show N < _; omega)).trans c0) ((old _ (by show N + 1 < _; omega)).trans c1) ((old _ (by show N + 2 < _; omega)).trans c2) ((old _ (by show N + 3 < _; omega)).trans c3) ((oldf _ (by show N + 2 < _; omega)).trans f2) ((oldf _ (by show N + 3 < _; omega)).trans f3)).mono ?_)).mono ?_
  · rintro e w' ⟨rfl, w1, hb, rfl⟩
    have hr := (RowAt.new w 44 #[.int .i64 0]).below hb (by simp)
    refine ⟨rfl, ⟨w1, by simpa using hb, rfl⟩, ?_, ?_⟩
    · rw [World.cell?_setCell_other _ _ _ _ (by simp <;> omega), World.cell?_setCell_other _ _ _ _ (by simp <;> omega), hr.cell]; rfl
    · rw [World.frozen?_setCell, World.frozen?_setCell, hr.frozen]
  · rintro e w' ⟨rfl, w2, ⟨w1, hb, rfl⟩, rfl⟩
    have k2 : w1.cell? ⟨N + 2, 0, none⟩ = some x := (hb.cell (p := ⟨N + 2, 0, none⟩) (by show N + 2 < _; omega)).trans ((old _ (by show N + 2 < _; omega)).trans c2)
    have k3 : w1.cell? ⟨N + 3, 0, none⟩ = some y := (hb.cell (p := ⟨N + 3, 0, none⟩) (by show N + 3 < _; omega)).trans ((old _ (by show N + 3 < _; omega)).trans c3)
    refine ⟨rfl, ?_, ?_, ?_⟩
    · rw [World.cell?_setCell_other _ _ _ _ (by simp <;> omega), World.cell?_setCell_other _ _ _ _ (by simp), World.cell?_setCell_same _ _ _ k2]
    · rw [World.cell?_setCell_other _ _ _ _ (by simp <;> omega)]
      exact World.cell?_setCell_same _ _ _ ((World.cell?_setCell_other _ _ _ _ (by simp)).trans k3)
    · have h0 : Below N w (w.alloc (.cells #[.int .i64 0] 44)) := (Below.refl _ _).alloc (by omega) _
      exact (((h0.trans (hb.mono (by omega))).setCell (by show N ≤ N + 2; omega) _).setCell (by show N ≤ N + 3; omega) _).setCell (by show N ≤ w.heap.size; omega) _

set_option maxHeartbeats 1000000 in
theorem Take_yes (s : ByteArray) (n : Nat) (w : World) (h1 : 1 ≤ n) (h8 : n ≤ 8) (hn : n ≤ s.size) (hs : s.size ≤ 281474976710656) :
    Calls Tryz.prog 98 #[.string s, .int .i64 n] w fun e w' => e = .returned (.tuple #[.int .u64 (leNum (s.data.toList.take n)), .string (s.extract n s.size), .int .i64 0]) ∧ Below w.heap.size w w' := by
  have hmf : ∀ (fn : Fn) (first cap : Array Value) (w : World), (Instr.makeFunc fn first cap).run Tryz.prog w = .ok (.func fn first cap) w := fun _ _ _ _ => rfl
  go_enter Tryz.func98, Tryz.ntmps98
  go_wp2_with fail
  refine (tryTake_yes s n w.heap.size (.int .u64 0) (.string ⟨#[]⟩) _ h1 h8 hn hs ?_ ?_ ?_ ?_ ?_ ?_ ?_).mono ?_
  · simp
  · simp [go_sem]
  · simp [go_sem]
  · simp [go_sem]
  · simp [go_sem]
  · simp [go_sem]
  · simp [go_sem]
  rintro e w1 ⟨rfl, hc2, hc3, hb⟩
  have hb' : Below w.heap.size w w1 := Below.trans (((((Below.refl _ w).alloc (by simp) _).alloc (by simp <;> omega) _).alloc (by simp <;> omega) _).alloc (by simp <;> omega) _) hb
  clear hb
  go_wp2_with fail
  go_region
  all_goals (try go_wp2)
  all_goals go_ret3
  all_goals exact ⟨rfl, hb'.drew⟩

theorem takeFn_no (s : ByteArray) (n y : Int) (N : Nat) (w : World) (hno : ∀ w, Calls Tryz.prog 113 #[.string s, .int .i64 n] w fun e w' => e = .panicked [{ v := .iface 44 (.int .i64 y), recovered := false }] ∧ w = w')
    (c0 : w.cell? ⟨N, 0, none⟩ = some (.string s)) (c1 : w.cell? ⟨N + 1, 0, none⟩ = some (.int .i64 n)) :
    Calls Tryz.prog 112 #[.pointer (some ⟨N, 0, none⟩), .pointer (some ⟨N + 1, 0, none⟩), .pointer (some ⟨N + 2, 0, none⟩), .pointer (some ⟨N + 3, 0, none⟩)] w fun e w' =>
      e = .panicked [{ v := .iface 44 (.int .i64 y), recovered := false }] ∧ w = w' := by
  have H := Lib.hid hno
  clear hno
  go_enter Tryz.func112, Tryz.ntmps112
  go_wp2_with fail
  refine (H.out _).mono ?_
  rintro e w1 ⟨rfl, rfl⟩
  exact ⟨rfl, rfl, rfl⟩

theorem tryTake_no (s : ByteArray) (n y : Int) (N : Nat) (w : World) (hno : ∀ w, Calls Tryz.prog 113 #[.string s, .int .i64 n] w fun e w' => e = .panicked [{ v := .iface 44 (.int .i64 y), recovered := false }] ∧ w = w')
    (hN : N + 4 = w.heap.size) (c0 : w.cell? ⟨N, 0, none⟩ = some (.string s)) (c1 : w.cell? ⟨N + 1, 0, none⟩ = some (.int .i64 n)) :
    Calls Tryz.prog 87 #[.func (.func 112) #[] #[.pointer (some ⟨N, 0, none⟩), .pointer (some ⟨N + 1, 0, none⟩), .pointer (some ⟨N + 2, 0, none⟩), .pointer (some ⟨N + 3, 0, none⟩)]] w fun e w' =>
      e = .returned (.int .i64 y) ∧ Below w.heap.size w w' := by
  have old : ∀ p : Addr, p.block < w.heap.size → (w.alloc (.cells #[.int .i64 0] 44)).cell? p = w.cell? p := fun p hp => World.cell?_alloc_lt _ _ _ hp
  refine (attempt_no 112 _ y w (fun w' => w.alloc (.cells #[.int .i64 0] 44) = w')
    (enters_of Tryz.func112 (by kernel_rfl) rfl) ((takeFn_no s n y N _ hno ((old _ (by show N < _; omega)).trans c0) ((old _ (by show N + 1 < _; omega)).trans c1)).mono ?_)).mono ?_
  · rintro e w' ⟨rfl, rfl⟩
    have hr := RowAt.new w 44 #[.int .i64 0]
    exact ⟨rfl, rfl, by rw [hr.cell]; rfl, hr.frozen 0⟩
  · rintro e w' ⟨rfl, w2, rfl, rfl⟩
    exact ⟨rfl, ((Below.refl _ _).alloc (Nat.le_refl _) _).setCell (Nat.le_refl _) _⟩

set_option maxHeartbeats 1000000 in
theorem Take_no (s : ByteArray) (n y : Int) (w : World) (hno : ∀ w, Calls Tryz.prog 113 #[.string s, .int .i64 n] w fun e w' => e = .panicked [{ v := .iface 44 (.int .i64 y), recovered := false }] ∧ w = w') :
    Calls Tryz.prog 98 #[.string s, .int .i64 n] w fun e w' => e = .returned (.tuple #[.int .u64 0, .string ⟨#[]⟩, .int .i64 y]) ∧ Below w.heap.size w w' := by
  have H := Lib.hid hno
  clear hno
  have hmf : ∀ (fn : Fn) (first cap : Array Value) (w : World), (Instr.makeFunc fn first cap).run Tryz.prog w = .ok (.func fn first cap) w := fun _ _ _ _ => rfl
  go_enter Tryz.func98, Tryz.ntmps98
  go_wp2_with fail
  refine (tryTake_no s n y w.heap.size _ H.out ?_ ?_ ?_).mono ?_
  · simp
  · simp [go_sem]
  · simp [go_sem]
  rintro e w1 ⟨rfl, hb⟩
  have hc2 : w1.cell? ⟨w.heap.size + 2, 0, none⟩ = some (.int .u64 0) := by rw [(bcell hb).1 _ _ (by simp)]; simp [go_sem]
  have hc3 : w1.cell? ⟨w.heap.size + 3, 0, none⟩ = some (.string ⟨#[]⟩) := by rw [(bcell hb).1 _ _ (by simp)]; simp [go_sem]
  have hb' : Below w.heap.size w w1 := Below.trans (((((Below.refl _ w).alloc (by simp) _).alloc (by simp <;> omega) _).alloc (by simp <;> omega) _).alloc (by simp <;> omega) _) (hb.mono (by simp <;> omega))
  clear hb H
  go_wp2_with fail
  go_region
  all_goals (try go_wp2)
  all_goals go_ret3
  all_goals exact ⟨rfl, hb'.drew⟩

/-- What Take answers: the number, what stands behind, the error. -/
def takeOf (s : ByteArray) (n : Int) : Nat × ByteArray × Int :=
  if 1 ≤ n ∧ n ≤ 8 then (if (s.size : Int) < n then (0, ⟨#[]⟩, 3) else (leNum (s.data.toList.take n.toNat), s.extract n.toNat s.size, 0)) else (0, ⟨#[]⟩, 1)

theorem Take_any (s : ByteArray) (n : Int) (w : World) (hs : s.size ≤ 281474976710656) :
    Calls Tryz.prog 98 #[.string s, .int .i64 n] w fun e w' => e = .returned (.tuple #[.int .u64 (takeOf s n).1, .string (takeOf s n).2.1, .int .i64 (takeOf s n).2.2]) ∧ Below w.heap.size w w' := by
  unfold takeOf
  by_cases h : 1 ≤ n ∧ n ≤ 8
  · obtain ⟨k, rfl⟩ := Int.eq_ofNat_of_zero_le (by omega : 0 ≤ n)
    by_cases hk : s.size < k
    · have := Take_no s k 3 w fun w => take_short s k w (by omega) (by omega) hk
      simpa [h, hk] using this
    · have := Take_yes s k w (by omega) (by omega) (by omega) hs
      simpa [h, hk] using this
  · have := Take_no s n 1 w fun w => take_arg s n w h
    simpa [h] using this
end Go.Proofs.YtieheieiolobaaaGreatDoor

namespace Go.Proofs.YtieheieiolobaaaGreatDoor
open Go.RowKit

theorem info_byte : (Tryz.prog.info? 5).map (fun i => (i.zero, i.size, i.bytes)) = some (some (.int .u8 0), 1, 1) := by kernel_rfl

set_option maxHeartbeats 400000 in
theorem Put_no (x n : Int) (w : World) (h : ¬ (1 ≤ n ∧ n ≤ 8)) :
    Calls Tryz.prog 79 #[.int .u64 x, .int .i64 n] w fun e w' => e = .returned (.string ⟨#[]⟩) ∧ Below w.heap.size w w' := by
  have hf : fits n = false := by
    cases e : fits n
    · rfl
    · exact absurd ((fits_iff _).1 e) h
  go_enter Tryz.func79, Tryz.ntmps79
  go_wp2_with fail
  refine (fitsWord_any _ _).mono ?_
  rintro e w1 ⟨rfl, rfl⟩
  rw [hf]
  go_wp2
  go_ret
  exact ⟨rfl, Below.refl _ _⟩

set_option maxHeartbeats 400000 in
theorem Put_yes (x n : Nat) (w : World) (h1 : 1 ≤ n) (h8 : n ≤ 8) :
    Calls Tryz.prog 79 #[.int .u64 x, .int .i64 n] w fun e w' => e = .returned (.string ⟨(leBytes x n).toArray⟩) ∧ Below w.heap.size w w' := by
  have hf : fits (n : Int) = true := (fits_iff _).2 ⟨by omega, by omega⟩
  obtain ⟨i0, hi, hz0, hz1, hz2⟩ := info_parts info_byte
  obtain ⟨M, hM⟩ : ∃ M, M = madeCells (Value.int .u8 0).cells (n * i0.size) := ⟨_, rfl⟩
  have hMs : M.toList = List.replicate n (.int .u8 0) := by rw [hM, hz1, Nat.mul_one]; exact toList_madeCells_one _ _
  have hmk : ∀ W : World, (Instr.makeSlice 63 (.int .i64 (n : Int)) (.int .i64 (n : Int))).run Tryz.prog W = .ok (.slice (some ⟨W.heap.size, 0, none⟩) n n) (W.alloc (.cells M 5)) := fun W => by
    have hr := run_make (P := Tryz.prog) W 63 5 i0 (.int .u8 0) Tryz.underlying63 hi hz0 .i64 .i64 (n : Int) (n : Int) (by omega) (by omega) (by rw [hz2]; omega) (by omega)
    rw [hM]
    simpa using hr
  clear hM hi hz0 hz1 hz2
  go_enter Tryz.func79, Tryz.ntmps79
  go_wp2_with fail
  refine (fitsWord_any _ _).mono ?_
  rintro e w1 ⟨rfl, rfl⟩
  rw [hf]
  go_wp2
  go_loopw [14] (fun i wr => ∃ k : Nat, k ≤ n ∧ i = .int .i64 k ∧ RowAt wr w.heap.size 5 (byteVals (leBytes x k) ++ List.replicate (n - k) (.int .u8 0)) ∧ Below w.heap.size w wr) (fun i _ => n - (intOf i).toNat)
  case atStart => exact ⟨0, Nat.zero_le _, rfl, by simpa [byteVals, leBytes, hMs] using RowAt.new w 5 M, (Below.refl _ _).alloc (Nat.le_refl _) _⟩
  case round =>
    obtain ⟨k, hk, rfl, hrow, hb⟩ := hrel
    by_cases hlt : k < n
    · have hc : wr.cell? ⟨w.heap.size, k, none⟩ = some (.int .u8 0) := by
        rw [hrow.cell, put_cell x n k hlt]
      have hf := hrow.frozen k
      have R := hrow.set k (.int .u8 ((x : Int) / 2 ^ (8 * k) % 256))
      rw [put_step x n k hlt] at R
      have hb2 := hb.setCell (p := ⟨w.heap.size, k, none⟩) (Nat.le_refl _) (.int .u8 ((x : Int) / 2 ^ (8 * k) % 256))
      clear hrow hb
      go_wp2
      go_roundw
      case rel => exact ⟨k + 1, by omega, by go_num, R, hb2⟩
      case measure => simp [intOf]; omega
    · obtain rfl : k = n := by omega
      have hcv := run_convert_bytes_back (P := Tryz.prog) wr 63 9 5 ⟨w.heap.size, 0, none⟩ k (leBytes x k) Tryz.underlying63 Tryz.underlying5 Tryz.underlying9 (fun j hj => by
        have e1 : (⟨w.heap.size, 0, none⟩ : Addr).add j = ⟨w.heap.size, j, none⟩ := by unfold Addr.add; split <;> simp_all
        rw [e1, hrow.cell, List.getElem?_append_left (by rw [byteVals_length]; exact hj)]
        simp [byteVals, List.getElem?_eq_getElem hj])
      rw [leBytes_length] at hcv
      clear hrow
      go_wp2
      go_ret
      exact ⟨rfl, hb⟩

/-- What Put answers. -/
def putOf (x : Nat) (n : Int) : List UInt8 := if 1 ≤ n ∧ n ≤ 8 then leBytes x n.toNat else []

theorem Put_any (x : Nat) (n : Int) (w : World) :
    Calls Tryz.prog 79 #[.int .u64 x, .int .i64 n] w fun e w' => e = .returned (.string ⟨(putOf x n).toArray⟩) ∧ Below w.heap.size w w' := by
  unfold putOf
  by_cases h : 1 ≤ n ∧ n ≤ 8
  · obtain ⟨k, rfl⟩ := Int.eq_ofNat_of_zero_le (by omega : 0 ≤ n)
    have := Put_yes x k w (by omega) (by omega)
    simpa [h] using this
  · have := Put_no x n w h
    simpa [h] using this

theorem Put_int (x : Int) (m : Nat) (n : Int) (w : World) (hx : x = (m : Int)) :
    Calls Tryz.prog 79 #[.int .u64 x, .int .i64 n] w fun e w' => e = .returned (.string ⟨(putOf m n).toArray⟩) ∧ Below w.heap.size w w' := by
  subst hx; exact Put_any m n w
theorem putOf_four (m : Nat) : putOf m 4 = leBytes m 4 := rfl
end Go.Proofs.YtieheieiolobaaaGreatDoor
