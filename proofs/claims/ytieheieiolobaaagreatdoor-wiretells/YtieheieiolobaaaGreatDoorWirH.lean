/- The small functions of package wire: demand, sure, attempt.
   Numbers as bytes, in package wire: bytesOf, bytesOfData, Record; and back: number, messageOf, readData.
   messageOf, readData, writeVote.
   readVote.
   writeAggregate, readAggregate.
   The calls by attempt: Vote, Unvote, Aggregate, Unaggregate.
   The calls by attempt that read: Unvote, Unaggregate.
   readRecord, Unrecord. -/
import Derived.Test.YtieheieiolobaaaGreatDoorOctI
import Derived.Test.YtieheieiolobaaaGreatDoorTokQ
import Derived.Test.YtieheieiolobaaaGreatDoorBitM
namespace Go.Proofs.YtieheieiolobaaaGreatDoor
open Go.RowKit

theorem wdemand_yes (x : Int) (w : World) :
    Calls Tryz.prog 75 #[.bool true, .int .i64 x] w fun e w' => e = .returned (.tuple #[]) ∧ w = w' := by
  go_enter Tryz.func75, Tryz.ntmps75
  go_wp2
  go_end0
  exact ⟨rfl, rfl⟩

theorem wdemand_no (x : Int) (w : World) :
    Calls Tryz.prog 75 #[.bool false, .int .i64 x] w fun e w' => e = .panicked [{ v := .iface 44 (.int .i64 x), recovered := false }] ∧ w = w' := by
  go_enter Tryz.func75, Tryz.ntmps75
  go_wp2
  exact ⟨rfl, rfl, rfl⟩

/-- The deferred function of attempt, where the frame below panics with an error's number. -/
theorem wcatch_panicking (p : Addr) (x y : Int) (older : List PanicEntry) (w : World) (hc : w.cell? p = some (.int .i64 x)) (hz : w.frozen? p = false) :
    CallsD Tryz.prog 56 #[.pointer (some p)] (.panicking ({ v := .iface 44 (.int .i64 y), recovered := false } :: older)) w fun e u' w' =>
      e = .returned (.tuple #[]) ∧ u' = .panicking ({ v := .iface 44 (.int .i64 y), recovered := true } :: older) ∧ w' = w.setCell p (.int .i64 y) := by
  have hta := assert_errno y
  refine callsD_of_wpS Tryz.func56 rfl fun c₀ cs hu => ?_
  apply wpS_seq
  apply wpS_region
  simp [wpOpsS, go_sem, recoverD, hu, Tryz.ntmps56, Exit.thenS]
  refine wpS_of_wp ?_
  simp only [Array.replicate]
  go_wp2
  simp [bodyPostS, results, Tryz.results56]

theorem wcatch_idle (p : Addr) (w : World) :
    CallsD Tryz.prog 56 #[.pointer (some p)] .returning w fun e u' w' => e = .returned (.tuple #[]) ∧ u' = .returning ∧ w' = w := by
  refine callsD_of_wpS Tryz.func56 rfl fun c₀ cs hu => ?_
  apply wpS_seq
  apply wpS_region
  simp [wpOpsS, go_sem, recoverD, hu, Tryz.ntmps56, Exit.thenS]
  refine wpS_of_wp ?_
  simp only [Array.replicate]
  go_wp2
  cases c₀
  simp_all [bodyPostS, results, Tryz.results56]

theorem wattempt_ok (K : Nat) (caps : Array Value) (w : World) (R : World → Prop)
    (hent : ∀ (args : Array Value) (w : World), (callFunc K args).run Tryz.prog w = .ok (.enter K args) w)
    (hK : Calls Tryz.prog K caps (w.alloc (.cells #[.int .i64 0] 44)) fun e w' => e = .returned (.tuple #[]) ∧ R w' ∧
       w'.cell? ⟨w.heap.size, 0, none⟩ = some (.int .i64 0) ∧ w'.frozen? ⟨w.heap.size, 0, none⟩ = false) :
    Calls Tryz.prog 27 #[.func (.func K) #[] caps] w fun e w' => e = .returned (.int .i64 0) ∧ ∃ w1, R w1 ∧ w' = w1.setCell ⟨w.heap.size, 0, none⟩ (.int .i64 0) := by
  have hmf : ∀ (fn : Fn) (first cap : Array Value) (w : World), (Instr.makeFunc fn first cap).run Tryz.prog w = .ok (.func fn first cap) w := fun _ _ _ _ => rfl
  have HK := Lib.hid hK
  clear hK
  go_enter_defers Tryz.func27, Tryz.ntmps27
  go_wp2_with fail
  refine HK.out.mono ?_
  rintro e w1 ⟨rfl, hR, hc, hf⟩
  have HR := Lib.hid hR
  clear hR HK
  go_wp2
  refine leaves_cons (f := 56) (args := #[.pointer (some ⟨w.heap.size, 0, none⟩)]) (by simp) (by simp [go_sem]) ?_
  refine (wcatch_idle ⟨w.heap.size, 0, none⟩ _).mono ?_
  rintro e u' w'' ⟨rfl, rfl, rfl⟩
  simp only [Leaves, settle, results, Tryz.results27]
  refine ⟨_, ?_, rfl, w1, HR.out, rfl⟩
  simp [go_sem, hc]

theorem wattempt_no (K : Nat) (caps : Array Value) (y : Int) (w : World) (R : World → Prop)
    (hent : ∀ (args : Array Value) (w : World), (callFunc K args).run Tryz.prog w = .ok (.enter K args) w)
    (hK : Calls Tryz.prog K caps (w.alloc (.cells #[.int .i64 0] 44)) fun e w' => e = .panicked [{ v := .iface 44 (.int .i64 y), recovered := false }] ∧ R w' ∧
       w'.cell? ⟨w.heap.size, 0, none⟩ = some (.int .i64 0) ∧ w'.frozen? ⟨w.heap.size, 0, none⟩ = false) :
    Calls Tryz.prog 27 #[.func (.func K) #[] caps] w fun e w' => e = .returned (.int .i64 y) ∧ ∃ w1, R w1 ∧ w' = w1.setCell ⟨w.heap.size, 0, none⟩ (.int .i64 y) := by
  have hmf : ∀ (fn : Fn) (first cap : Array Value) (w : World), (Instr.makeFunc fn first cap).run Tryz.prog w = .ok (.func fn first cap) w := fun _ _ _ _ => rfl
  have HK := Lib.hid hK
  clear hK
  go_enter_defers Tryz.func27, Tryz.ntmps27
  go_wp2_with fail
  refine HK.out.mono ?_
  rintro e w1 ⟨rfl, hR, hc, hf⟩
  have HR := Lib.hid hR
  clear hR HK
  refine leaves_cons (f := 56) (args := #[.pointer (some ⟨w.heap.size, 0, none⟩)]) (by simp) (by simp [go_sem]) ?_
  refine (wcatch_panicking ⟨w.heap.size, 0, none⟩ 0 y [] _ hc hf).mono ?_
  rintro e u' w'' ⟨rfl, rfl, rfl⟩
  simp [Leaves, settle, results, Tryz.results27, go_sem, hc]
  exact ⟨w1, HR.out, rfl⟩

theorem sureS_ok (s : ByteArray) (w : World) : Calls Tryz.prog 57 #[.string s, .int .i64 0] w fun e w' => e = .returned (.string s) ∧ w = w' := by
  go_enter Tryz.func57, Tryz.ntmps57
  go_wp2_with fail
  with_reducible refine (wdemand_yes _ _).mono ?_
  rintro e w1 ⟨rfl, rfl⟩
  go_wp2_with fail
  go_ret
  exact ⟨rfl, rfl⟩
theorem sureS_no (s : ByteArray) (y : Int) (w : World) (hy : (y == 0) = false) : Calls Tryz.prog 57 #[.string s, .int .i64 y] w (Panics y w) := by
  go_enter Tryz.func57, Tryz.ntmps57
  go_wp2_with fail
  with_reducible refine (wdemand_no _ _).mono ?_
  rintro e w1 ⟨rfl, rfl⟩
  exact ⟨rfl, rfl, Below.refl _ _⟩

theorem sureB_ok (n : Int) (A : Option Addr) (k c : Nat) (w : World) : Calls Tryz.prog 66 #[.agg #[.int .i64 n, .slice A k c], .int .i64 0] w fun e w' => e = .returned (.agg #[.int .i64 n, .slice A k c]) ∧ Below w.heap.size w w' := by
  go_enter Tryz.func66, Tryz.ntmps66
  go_wp2_with fail
  with_reducible refine (wdemand_yes _ _).mono ?_
  rintro e w1 ⟨rfl, rfl⟩
  go_wp2_with fail
  refine bodyPost_ret (v := .agg #[.int .i64 n, .slice A k c]) (by simp [results, Tryz.results66, go_sem]) rfl ?_
  refine ⟨rfl, ?_⟩
  exact ((Below.refl _ _).alloc (Nat.le_refl _) _).alloc (by simp) _
theorem sureB_no (n : Int) (A : Option Addr) (k c : Nat) (y : Int) (w : World) (hy : (y == 0) = false) : Calls Tryz.prog 66 #[.agg #[.int .i64 n, .slice A k c], .int .i64 y] w (Panics y w) := by
  go_enter Tryz.func66, Tryz.ntmps66
  go_wp2_with fail
  with_reducible refine (wdemand_no _ _).mono ?_
  rintro e w1 ⟨rfl, rfl⟩
  exact ⟨rfl, rfl, (((Below.refl _ _).alloc (Nat.le_refl _) _).alloc (by simp) _)⟩

theorem sureT_ok (n : Bool) (A : Option Addr) (k c : Nat) (w : World) : Calls Tryz.prog 68 #[.agg #[.bool n, .slice A k c], .int .i64 0] w fun e w' => e = .returned (.agg #[.bool n, .slice A k c]) ∧ Below w.heap.size w w' := by
  go_enter Tryz.func68, Tryz.ntmps68
  go_wp2_with fail
  with_reducible refine (wdemand_yes _ _).mono ?_
  rintro e w1 ⟨rfl, rfl⟩
  go_wp2_with fail
  refine bodyPost_ret (v := .agg #[.bool n, .slice A k c]) (by simp [results, Tryz.results68, go_sem]) rfl ?_
  refine ⟨rfl, ?_⟩
  exact ((Below.refl _ _).alloc (Nat.le_refl _) _).alloc (by simp) _
theorem sureT_no (n : Bool) (A : Option Addr) (k c : Nat) (y : Int) (w : World) (hy : (y == 0) = false) : Calls Tryz.prog 68 #[.agg #[.bool n, .slice A k c], .int .i64 y] w (Panics y w) := by
  go_enter Tryz.func68, Tryz.ntmps68
  go_wp2_with fail
  with_reducible refine (wdemand_no _ _).mono ?_
  rintro e w1 ⟨rfl, rfl⟩
  exact ⟨rfl, rfl, (((Below.refl _ _).alloc (Nat.le_refl _) _).alloc (by simp) _)⟩
end Go.Proofs.YtieheieiolobaaaGreatDoor

namespace Go.Proofs.YtieheieiolobaaaGreatDoor
open Go.RowKit

def wordsB (ws : List Nat) : List UInt8 := ws.flatMap fun x => leBytes x 8
theorem wordsB_length : ∀ ws : List Nat, (wordsB ws).length = 8 * ws.length
  | [] => rfl
  | x :: ws => by
    have := wordsB_length ws
    unfold wordsB at *
    rw [List.flatMap_cons, List.length_append, this, leBytes_length, List.length_cons]; omega
theorem wordsB_snoc (ws : List Nat) (k : Nat) (hk : k < ws.length) : wordsB (ws.take (k + 1)) = wordsB (ws.take k) ++ leBytes ws[k] 8 := by
  unfold wordsB
  rw [List.take_succ_eq_append_getElem hk, List.flatMap_append]
  simp

set_option maxHeartbeats 1000000 in
theorem bytesOf_any (v : Value) (ws : List Nat) (w : World) (hv : Wds w w.heap.size v ws) (h9 : ws.length ≤ 1000) :
    Calls Tryz.prog 52 #[v] w fun e w' => e = .returned (.string ⟨(wordsB ws).toArray⟩) ∧ Below w.heap.size w w' := by
  obtain ⟨A, c, rfl, hc⟩ := hv.form
  go_enter Tryz.func52, Tryz.ntmps52
  have hB0 : Lib.IsBuilder 116 5 w.heap.size w.heap.size (Lib.byteCells (wordsB (ws.take 0))) (w.alloc (.cells #[.pointer none, .slice none 0 0] 116)) := Lib.fresh_isBuilder _ _ w
  have hb0 : Below w.heap.size w (w.alloc (.cells #[.pointer none, .slice none 0 0] 116)) := (Below.refl _ w).alloc (Nat.le_refl _) _
  go_wp2_with fail
  go_loopw [8] (fun i wr => ∃ k : Nat, k ≤ ws.length ∧ i = .int .i64 k ∧ Lib.IsBuilder 116 5 w.heap.size w.heap.size (Lib.byteCells (wordsB (ws.take k))) wr ∧ Below w.heap.size w wr) (fun i _ => ws.length - (intOf i).toNat)
  case atStart => exact ⟨0, Nat.zero_le _, rfl, hB0, hb0⟩
  case round =>
    obtain ⟨k, hk, rfl, hB, hb⟩ := hrel
    clear hB0 hb0
    have hz := hb.size
    by_cases hlt : k < ws.length
    · obtain ⟨ad, rfl, hbl, hcell⟩ := (hv.below hb (Nat.le_refl _)).at_ hlt
      have HE := Lib.hid (wordsB_snoc ws k hlt)
      have hel : (Lib.byteCells (wordsB (ws.take k))).length ≤ 8000 := by rw [Lib.byteCells_length, wordsB_length, List.length_take]; omega
      have p1 := fun W => Put8 (ws[k]) W
      generalize wordsB (ws.take k) = E at *
      generalize ws[k] = x at *
      go_wp2_with fail
      with_reducible refine (p1 _).mono ?_
      rintro e w2 ⟨rfl, hb2⟩
      have hBk := isBuilder_keep hB hb2
      clear p1 hcell
      go_wp2_with fail
      with_reducible refine (Tryz.Builder_WriteString w.heap.size w.heap.size _ _ _ hBk ?_ ?_).mono ?_
      · rw [size_mk (leBytes _ 8), leBytes_length]; omega
      · have := hb2.size; omega
      rintro e w3 ⟨rfl, hB3, hb3⟩
      have hBn : Lib.IsBuilder 116 5 w.heap.size w.heap.size (Lib.byteCells (wordsB (ws.take (k + 1)))) w3 := by
        rw [HE.out, Lib.byteCells_append]
        exact Or.inr hB3
      have hbn : Below w.heap.size w w3 := (hb.trans (hb2.mono hz)).trans hb3
      clear hB hBk hB3 hb2 hb3
      go_wp2_with fail
      go_roundw
      case rel => exact ⟨k + 1, by omega, by go_num, hBn, hbn⟩
      case measure => simp [intOf]; omega
    · obtain rfl : ws.length = k := by omega
      rw [List.take_length] at hB
      go_wp2_with fail
      with_reducible refine (Tryz.Builder_String_any w.heap.size w.heap.size _ _ hB hz).mono ?_
      rintro e w9 ⟨rfl, hb9⟩
      have hbn := hb.trans hb9
      clear hB hb9 hb
      go_wp2_with fail
      go_ret
      exact ⟨rfl, hbn⟩

/-- Data: Slot, Index, Block, Source, Target. -/
structure Dt where
  (slot index block source target : Nat)
  deriving DecidableEq
@[reducible] def Dt.cells (d : Dt) : List Value := [.int .u64 (d.slot : Int), .int .u64 (d.index : Int), .int .u64 (d.block : Int), .int .u64 (d.source : Int), .int .u64 (d.target : Int)]
def Dt.words (d : Dt) : List Nat := [d.slot, d.index, d.block, d.source, d.target]

set_option maxHeartbeats 1000000 in
theorem bytesOfData_any (a b c d e : Nat) (w : World) :
    Calls Tryz.prog 50 #[.agg #[.int .u64 (a : Int), .int .u64 (b : Int), .int .u64 (c : Int), .int .u64 (d : Int), .int .u64 (e : Int)]] w fun e' w' => e' = .returned (.string ⟨(wordsB [a, b, c, d, e]).toArray⟩) ∧ Below w.heap.size w w' := by
  obtain ⟨w0, hw0⟩ : ∃ w0, w0 = w.alloc (.cells #[.int .u64 (a : Int), .int .u64 (b : Int), .int .u64 (c : Int), .int .u64 (d : Int), .int .u64 (e : Int)] 24) := ⟨_, rfl⟩
  have hb0 : Below w.heap.size w w0 := by rw [hw0]; exact (Below.refl _ _).alloc (Nat.le_refl _) _
  obtain ⟨w1, hw1⟩ : ∃ w1, w1 = w0.alloc (.cells #[.int .u64 (a : Int), .int .u64 (b : Int), .int .u64 (c : Int), .int .u64 (d : Int), .int .u64 (e : Int)] 22) := ⟨_, rfl⟩
  have hb1 : Below w.heap.size w w1 := by rw [hw1]; exact hb0.alloc hb0.size _
  have hs : w0.heap.size = w.heap.size + 1 := by rw [hw0]; simp
  have hv : Wds w1 w1.heap.size (.slice (some ⟨w.heap.size + 1, 0, none⟩) 5 5) [a, b, c, d, e] := by
    have := Elems.row (enc := fun n : Nat => Value.int .u64 (n : Int)) (xs := [a, b, c, d, e]) (hw1 ▸ RowAt.new w0 22 #[.int .u64 (a : Int), .int .u64 (b : Int), .int .u64 (c : Int), .int .u64 (d : Int), .int .u64 (e : Int)] : RowAt w1 w0.heap.size 22 _)
    rw [hs] at this
    exact this
  have cB := bytesOf_any _ _ w1 hv (by simp)
  rw [hw0] at hw1
  have HW := Lib.hid hw1
  clear hw1 hw0 hs
  go_enter Tryz.func50, Tryz.ntmps50
  go_wp2_with fail
  rw [← HW.out]
  with_reducible refine cB.mono ?_
  rintro e' w2 ⟨rfl, hb2⟩
  have hbn := hb1.trans (hb2.mono hb1.size)
  clear cB hb2
  go_wp2_with fail
  go_ret
  exact ⟨rfl, hbn⟩

set_option maxHeartbeats 1000000 in
theorem Record_any (a b c : Nat) (w : World) :
    Calls Tryz.prog 23 #[.agg #[.int .u64 (a : Int), .int .u64 (b : Int), .int .u64 (c : Int)]] w fun e' w' => e' = .returned (.string ⟨(wordsB [a, b, c]).toArray⟩) ∧ Below w.heap.size w w' := by
  obtain ⟨w0, hw0⟩ : ∃ w0, w0 = w.alloc (.cells #[.int .u64 (a : Int), .int .u64 (b : Int), .int .u64 (c : Int)] 37) := ⟨_, rfl⟩
  have hb0 : Below w.heap.size w w0 := by rw [hw0]; exact (Below.refl _ _).alloc (Nat.le_refl _) _
  obtain ⟨w1, hw1⟩ : ∃ w1, w1 = w0.alloc (.cells #[.int .u64 (a : Int), .int .u64 (b : Int), .int .u64 (c : Int)] 22) := ⟨_, rfl⟩
  have hb1 : Below w.heap.size w w1 := by rw [hw1]; exact hb0.alloc hb0.size _
  have hs : w0.heap.size = w.heap.size + 1 := by rw [hw0]; simp
  have hv : Wds w1 w1.heap.size (.slice (some ⟨w.heap.size + 1, 0, none⟩) 3 3) [a, b, c] := by
    have := Elems.row (enc := fun n : Nat => Value.int .u64 (n : Int)) (xs := [a, b, c]) (hw1 ▸ RowAt.new w0 22 #[.int .u64 (a : Int), .int .u64 (b : Int), .int .u64 (c : Int)] : RowAt w1 w0.heap.size 22 _)
    rw [hs] at this
    exact this
  have cB := bytesOf_any _ _ w1 hv (by simp)
  rw [hw0] at hw1
  have HW := Lib.hid hw1
  clear hw1 hw0 hs
  go_enter Tryz.func23, Tryz.ntmps23
  go_wp2_with fail
  rw [← HW.out]
  with_reducible refine cB.mono ?_
  rintro e' w2 ⟨rfl, hb2⟩
  have hbn := hb1.trans (hb2.mono hb1.size)
  clear cB hb2
  go_wp2_with fail
  go_ret
  exact ⟨rfl, hbn⟩

theorem takeOf_8 (s : ByteArray) (h : 8 ≤ s.size) : takeOf s 8 = (leNum (s.data.toList.take 8), s.extract 8 s.size, 0) := by
  unfold takeOf
  rw [if_pos (by decide), if_neg (by omega)]
  rfl
theorem Take8 (s : ByteArray) (x : Nat) (r : ByteArray) (w : World) (h : 8 ≤ s.size) (hs : s.size ≤ 1000000) (hx : leNum (s.data.toList.take 8) = x) (hr : s.extract 8 s.size = r) :
    Calls Tryz.prog 98 #[.string s, .int .i64 8] w fun e w' => e = .returned (.tuple #[.int .u64 x, .string r, .int .i64 0]) ∧ Below w.heap.size w w' := by
  have := Take_any s 8 w (by omega)
  rw [takeOf_8 s h] at this
  subst hx hr
  exact this

/-- The bytes behind a number. -/
def left8 (s : ByteArray) : ByteArray := s.extract 8 s.size
theorem left8_size (s : ByteArray) : (left8 s).size = s.size - 8 := by simp [left8]
def num8 (s : ByteArray) : Nat := leNum (s.data.toList.take 8)

set_option maxHeartbeats 1000000 in
theorem wnumber_any (p : Addr) (s : ByteArray) (w : World) (hc : w.cell? p = some (.string s)) (hf : w.frozen? p = false) (h8 : 8 ≤ s.size) (hs : s.size ≤ 1000000) :
    Calls Tryz.prog 74 #[.pointer (some p)] w fun e w' => e = .returned (.int .u64 (num8 s : Int)) ∧ ∃ w1, Below w.heap.size w w1 ∧ w' = w1.setCell p (.string (left8 s)) := by
  have hp : p.block < w.heap.size := World.block_lt_of_cell? w _ hc
  go_enter Tryz.func74, Tryz.ntmps74
  go_wp2_with fail
  with_reducible refine (Take8 s (num8 s) (left8 s) _ h8 hs rfl rfl).mono ?_
  rintro e w1 ⟨rfl, hb⟩
  have hc1 : w1.cell? p = some (.string s) := (hb.cell hp).trans hc
  have hf1 : w1.frozen? p = false := (hb.frozen hp).trans hf
  clear hc hf
  go_wp2_with fail
  with_reducible refine (wdemand_yes _ _).mono ?_
  rintro e w2 ⟨rfl, rfl⟩
  go_wp2_with fail
  go_ret
  exact ⟨rfl, w1, hb, rfl⟩
end Go.Proofs.YtieheieiolobaaaGreatDoor

namespace Go.Proofs.YtieheieiolobaaaGreatDoor
open Go.RowKit

theorem data_inj {a b : ByteArray} (h : a.data.toList = b.data.toList) : a = b := by
  cases a; cases b
  simp only [ByteArray.mk.injEq]
  exact Array.toList_inj.1 h
theorem txts_inj : ∀ {a b : List ByteArray}, txts a = txts b → a = b
  | [], [], _ => rfl
  | [], b :: u, h => by simp [txts] at h
  | a :: t, [], h => by simp [txts] at h
  | a :: t, b :: u, h => by
    simp only [txts, List.map_cons, List.cons.injEq] at h
    rw [data_inj h.1, txts_inj (a := t) (b := u) h.2]
theorem mk_list (S : ByteArray) : (⟨S.data.toList.toArray⟩ : ByteArray) = S := by simp
theorem Split_eq (s : ByteArray) (fixed many : Int) (hd : ByteArray) (ps : List ByteArray) (n : Int) (w : World) (h : splitOf s.data.toList fixed many = (hd.data.toList, txts ps, n)) :
    Calls Tryz.prog 91 #[.string s, .int .i64 fixed, .int .i64 many] w fun e w' => ∃ A c, e = .returned (.tuple #[.string hd, .slice A ps.length c, .int .i64 n]) ∧ Strs w' w'.heap.size (.slice A ps.length c) ps ∧ Below w.heap.size w w' := by
  refine (Split_any s fixed many w).mono ?_
  rintro e w' ⟨v, qs, rfl, hv, -, hq, hb⟩
  rw [h] at hq ⊢
  obtain rfl := txts_inj hq
  obtain ⟨A, c, rfl, -⟩ := hv.form
  exact ⟨A, c, by simp only [mk_list], hv, hb⟩

set_option maxHeartbeats 1000000 in
theorem messageOf_ok (s : ByteArray) (fixed : Int) (hd p q : ByteArray) (w : World) (h : splitOf s.data.toList fixed 2 = (hd.data.toList, txts [p, q], 0)) :
    Calls Tryz.prog 64 #[.string s, .int .i64 fixed] w fun e w' => ∃ (g : Nat) (ad : Addr) (c : Nat), e = .returned (.pointer (some ⟨g, 0, none⟩)) ∧ RowAt w' g 103 [.string hd, .slice (some ad) 2 c] ∧ w.heap.size ≤ g ∧
      (ad.block < g ∧ w'.cell? (ad.add 0) = some (.string p) ∧ w'.cell? (ad.add 1) = some (.string q)) ∧ 2 ≤ c ∧ Below w.heap.size w w' := by
  go_enter Tryz.func64, Tryz.ntmps64
  go_wp2_with fail
  with_reducible refine (Split_eq s fixed 2 hd [p, q] 0 _ h).mono ?_
  rintro e w1 ⟨A, c, rfl, hv, hb⟩
  obtain ⟨A', c', hv1, hc, ha⟩ := hv
  obtain ⟨rfl, -, rfl⟩ := Value.slice.inj hv1
  obtain ⟨ad, rfl, hlt, hcell⟩ := ha (by simp)
  have k0 := hcell 0 p rfl
  have k1 := hcell 1 q rfl
  clear ha hcell hv1 h
  go_wp2_with fail
  with_reducible refine (wdemand_yes _ _).mono ?_
  rintro e w2 ⟨rfl, rfl⟩
  go_wp2_with fail
  go_ret
  refine ⟨w1.heap.size, ad, c, rfl, RowAt.new w1 103 #[.string hd, .slice (some ad) 2 c], hb.size, ⟨hlt, ?_, ?_⟩, hc, hb.alloc hb.size _⟩
  · exact cellA k0 _
  · exact cellA k1 _

theorem messageOf_no (s : ByteArray) (fixed : Int) (hd : ByteArray) (ps : List ByteArray) (y : Int) (w : World) (h : splitOf s.data.toList fixed 2 = (hd.data.toList, txts ps, y)) (hy : (y == 0) = false) :
    Calls Tryz.prog 64 #[.string s, .int .i64 fixed] w (Panics y w) := by
  go_enter Tryz.func64, Tryz.ntmps64
  go_wp2_with fail
  with_reducible refine (Split_eq s fixed 2 hd ps y _ h).mono ?_
  rintro e w1 ⟨A, c, rfl, -, hb⟩
  go_wp2_with fail
  with_reducible refine (wdemand_no _ _).mono ?_
  rintro e w2 ⟨rfl, rfl⟩
  exact ⟨rfl, rfl, hb⟩

theorem But.setNew {g : Nat} {w W : World} (h : But g w W) {p : Addr} (hp : w.heap.size ≤ p.block) (u : Value) : But g w (W.setCell p u) :=
  ⟨h.os, h.tape, h.output, by simpa [World.setCell] using h.size, fun j hj hjg => (Below.heap_setCell _ _ _ _ (by omega)).trans (h.block j hj hjg)⟩
theorem number_row (g : Nat) (t : TypeId) (s : ByteArray) (l : List Value) (w : World) (hr : RowAt w g t (.string s :: l)) (h8 : 8 ≤ s.size) (hs : s.size ≤ 1000000) :
    Calls Tryz.prog 74 #[.pointer (some ⟨g, 0, none⟩)] w fun e w' => e = .returned (.int .u64 (num8 s : Int)) ∧ RowAt w' g t (.string (left8 s) :: l) ∧ But g w w' := by
  refine (wnumber_any ⟨g, 0, none⟩ s w (hr.cell 0) (hr.frozen 0) h8 hs).mono ?_
  rintro e w' ⟨rfl, w1, hb, rfl⟩
  exact ⟨rfl, (hr.on hb).set 0 _, (But.of_below hb).setCell 0 _⟩

set_option maxHeartbeats 4000000 in
set_option maxRecDepth 100000 in
theorem readData_any (g : Nat) (s0 : ByteArray) (v : Value) (w : World) (hr : RowAt w g 103 [.string s0, v]) (h40 : s0.size = 40) :
    Calls Tryz.prog 65 #[.pointer (some ⟨g, 0, none⟩)] w fun e w' => e = .returned (.agg #[.int .u64 (num8 s0 : Int), .int .u64 (num8 (left8 s0) : Int), .int .u64 (num8 (left8 (left8 s0)) : Int), .int .u64 (num8 (left8 (left8 (left8 s0))) : Int), .int .u64 (num8 (left8 (left8 (left8 (left8 s0)))) : Int)]) ∧ (∃ r, RowAt w' g 103 [.string r, v]) ∧ But g w w' := by
  have hg := hr.lt
  obtain ⟨s1, hs1⟩ : ∃ s, left8 s0 = s := ⟨_, rfl⟩
  have hz1 : s1.size = 32 := by rw [← hs1, left8_size]; omega
  obtain ⟨x0, hx0⟩ : ∃ x, num8 s0 = x := ⟨_, rfl⟩
  obtain ⟨s2, hs2⟩ : ∃ s, left8 s1 = s := ⟨_, rfl⟩
  have hz2 : s2.size = 24 := by rw [← hs2, left8_size]; omega
  obtain ⟨x1, hx1⟩ : ∃ x, num8 s1 = x := ⟨_, rfl⟩
  obtain ⟨s3, hs3⟩ : ∃ s, left8 s2 = s := ⟨_, rfl⟩
  have hz3 : s3.size = 16 := by rw [← hs3, left8_size]; omega
  obtain ⟨x2, hx2⟩ : ∃ x, num8 s2 = x := ⟨_, rfl⟩
  obtain ⟨s4, hs4⟩ : ∃ s, left8 s3 = s := ⟨_, rfl⟩
  have hz4 : s4.size = 8 := by rw [← hs4, left8_size]; omega
  obtain ⟨x3, hx3⟩ : ∃ x, num8 s3 = x := ⟨_, rfl⟩
  obtain ⟨s5, hs5⟩ : ∃ s, left8 s4 = s := ⟨_, rfl⟩
  have hz5 : s5.size = 0 := by rw [← hs5, left8_size]; omega
  obtain ⟨x4, hx4⟩ : ∃ x, num8 s4 = x := ⟨_, rfl⟩
  rw [hs1, hs2, hs3, hs4]
  rw [hx0, hx1, hx2, hx3, hx4]
  have n0 := fun (W : World) (l : List Value) (h : RowAt W g 103 (.string s0 :: l)) => number_row g _ s0 l W h (by omega) (by omega)
  rw [hs1, hx0] at n0
  have n1 := fun (W : World) (l : List Value) (h : RowAt W g 103 (.string s1 :: l)) => number_row g _ s1 l W h (by omega) (by omega)
  rw [hs2, hx1] at n1
  have n2 := fun (W : World) (l : List Value) (h : RowAt W g 103 (.string s2 :: l)) => number_row g _ s2 l W h (by omega) (by omega)
  rw [hs3, hx2] at n2
  have n3 := fun (W : World) (l : List Value) (h : RowAt W g 103 (.string s3 :: l)) => number_row g _ s3 l W h (by omega) (by omega)
  rw [hs4, hx3] at n3
  have n4 := fun (W : World) (l : List Value) (h : RowAt W g 103 (.string s4 :: l)) => number_row g _ s4 l W h (by omega) (by omega)
  rw [hs5, hx4] at n4
  clear hs1 hx0 hs2 hx1 hs3 hx2 hs4 hx3 hs5 hx4
  clear hz1 hz2 hz3 hz4 hz5
  obtain ⟨w0, hw0⟩ : ∃ w0, w0 = (w.alloc (.cells #[.int .u64 0, .int .u64 0, .int .u64 0, .int .u64 0, .int .u64 0] 24)).alloc (.cells #[.int .u64 0, .int .u64 0, .int .u64 0, .int .u64 0, .int .u64 0] 24) := ⟨_, rfl⟩
  have b0 : But g w w0 := by rw [hw0]; exact But.of_below (((Below.refl _ _).alloc (Nat.le_refl _) _).alloc (by simp) _)
  have r0 : RowAt w0 w.heap.size 24 [.int .u64 0, .int .u64 0, .int .u64 0, .int .u64 0, .int .u64 0] := by rw [hw0]; exact (RowAt.new w 24 #[.int .u64 0, .int .u64 0, .int .u64 0, .int .u64 0, .int .u64 0]).alloc _
  have d0 : RowAt w0 (w.heap.size + 1) 24 [.int .u64 0, .int .u64 0, .int .u64 0, .int .u64 0, .int .u64 0] := by rw [hw0]; have := RowAt.new (w.alloc (.cells #[.int .u64 0, .int .u64 0, .int .u64 0, .int .u64 0, .int .u64 0] 24)) 24 #[.int .u64 0, .int .u64 0, .int .u64 0, .int .u64 0, .int .u64 0]; simpa using this
  have m0 : RowAt w0 g 103 [.string s0, v] := by rw [hw0]; exact (hr.alloc _).alloc _
  have HW := Lib.hid hw0
  clear hw0 hr h40
  go_enter Tryz.func65, Tryz.ntmps65
  go_wp2_with fail
  rw [← HW.out]
  with_reducible refine (n0 _ _ m0).mono ?_
  rintro e y0 ⟨rfl, m1_, b1_⟩
  have r1_ := b1_.rowAt r0 (by omega)
  have d1_ := b1_.rowAt d0 (by omega)
  have r1 := r1_.far (p := ⟨w.heap.size + 1, 0, none⟩) (by simp) (.int .u64 (x0 : Int))
  have d1 : RowAt _ _ _ [.int .u64 (x0 : Int), .int .u64 0, .int .u64 0, .int .u64 0, .int .u64 0] := d1_.set 0 (.int .u64 (x0 : Int))
  have m1 := m1_.far (p := ⟨w.heap.size + 1, 0, none⟩) (by simp; omega) (.int .u64 (x0 : Int))
  have b1 : But g w (y0.setCell ⟨w.heap.size + 1, 0, none⟩ (.int .u64 (x0 : Int))) := by
    have := b0.trans b1_
    exact ⟨this.os, this.tape, this.output, by simpa [World.setCell] using this.size, fun j hj hjg => (Below.heap_setCell _ _ _ _ (by show j ≠ w.heap.size + 1; omega)).trans (this.block j hj hjg)⟩
  have c0 := d1_.cell 0
  have f0 := d1_.frozen 0
  simp only [List.getElem?_cons_succ, List.getElem?_cons_zero] at c0
  clear r0 d0 m0 b0 r1_ d1_ m1_ b1_ n0
  go_wp2_with fail
  with_reducible refine (n1 _ _ m1).mono ?_
  rintro e y1 ⟨rfl, m2_, b2_⟩
  have r2_ := b2_.rowAt r1 (by omega)
  have d2_ := b2_.rowAt d1 (by omega)
  have r2 := r2_.far (p := ⟨w.heap.size + 1, 1, none⟩) (by simp) (.int .u64 (x1 : Int))
  have d2 : RowAt _ _ _ [.int .u64 (x0 : Int), .int .u64 (x1 : Int), .int .u64 0, .int .u64 0, .int .u64 0] := d2_.set 1 (.int .u64 (x1 : Int))
  have m2 := m2_.far (p := ⟨w.heap.size + 1, 1, none⟩) (by simp; omega) (.int .u64 (x1 : Int))
  have b2 : But g w (y1.setCell ⟨w.heap.size + 1, 1, none⟩ (.int .u64 (x1 : Int))) := by
    have := b1.trans b2_
    exact ⟨this.os, this.tape, this.output, by simpa [World.setCell] using this.size, fun j hj hjg => (Below.heap_setCell _ _ _ _ (by show j ≠ w.heap.size + 1; omega)).trans (this.block j hj hjg)⟩
  have c1 := d2_.cell 1
  have f1 := d2_.frozen 1
  simp only [List.getElem?_cons_succ, List.getElem?_cons_zero] at c1
  clear r1 d1 m1 b1 r2_ d2_ m2_ b2_ n1
  go_wp2_with fail
  with_reducible refine (n2 _ _ m2).mono ?_
  rintro e y2 ⟨rfl, m3_, b3_⟩
  have r3_ := b3_.rowAt r2 (by omega)
  have d3_ := b3_.rowAt d2 (by omega)
  have r3 := r3_.far (p := ⟨w.heap.size + 1, 2, none⟩) (by simp) (.int .u64 (x2 : Int))
  have d3 : RowAt _ _ _ [.int .u64 (x0 : Int), .int .u64 (x1 : Int), .int .u64 (x2 : Int), .int .u64 0, .int .u64 0] := d3_.set 2 (.int .u64 (x2 : Int))
  have m3 := m3_.far (p := ⟨w.heap.size + 1, 2, none⟩) (by simp; omega) (.int .u64 (x2 : Int))
  have b3 : But g w (y2.setCell ⟨w.heap.size + 1, 2, none⟩ (.int .u64 (x2 : Int))) := by
    have := b2.trans b3_
    exact ⟨this.os, this.tape, this.output, by simpa [World.setCell] using this.size, fun j hj hjg => (Below.heap_setCell _ _ _ _ (by show j ≠ w.heap.size + 1; omega)).trans (this.block j hj hjg)⟩
  have c2 := d3_.cell 2
  have f2 := d3_.frozen 2
  simp only [List.getElem?_cons_succ, List.getElem?_cons_zero] at c2
  clear r2 d2 m2 b2 r3_ d3_ m3_ b3_ n2
  go_wp2_with fail
  with_reducible refine (n3 _ _ m3).mono ?_
  rintro e y3 ⟨rfl, m4_, b4_⟩
  have r4_ := b4_.rowAt r3 (by omega)
  have d4_ := b4_.rowAt d3 (by omega)
  have r4 := r4_.far (p := ⟨w.heap.size + 1, 3, none⟩) (by simp) (.int .u64 (x3 : Int))
  have d4 : RowAt _ _ _ [.int .u64 (x0 : Int), .int .u64 (x1 : Int), .int .u64 (x2 : Int), .int .u64 (x3 : Int), .int .u64 0] := d4_.set 3 (.int .u64 (x3 : Int))
  have m4 := m4_.far (p := ⟨w.heap.size + 1, 3, none⟩) (by simp; omega) (.int .u64 (x3 : Int))
  have b4 : But g w (y3.setCell ⟨w.heap.size + 1, 3, none⟩ (.int .u64 (x3 : Int))) := by
    have := b3.trans b4_
    exact ⟨this.os, this.tape, this.output, by simpa [World.setCell] using this.size, fun j hj hjg => (Below.heap_setCell _ _ _ _ (by show j ≠ w.heap.size + 1; omega)).trans (this.block j hj hjg)⟩
  have c3 := d4_.cell 3
  have f3 := d4_.frozen 3
  simp only [List.getElem?_cons_succ, List.getElem?_cons_zero] at c3
  clear r3 d3 m3 b3 r4_ d4_ m4_ b4_ n3
  go_wp2_with fail
  with_reducible refine (n4 _ _ m4).mono ?_
  rintro e y4 ⟨rfl, m5_, b5_⟩
  have r5_ := b5_.rowAt r4 (by omega)
  have d5_ := b5_.rowAt d4 (by omega)
  have r5 := r5_.far (p := ⟨w.heap.size + 1, 4, none⟩) (by simp) (.int .u64 (x4 : Int))
  have d5 : RowAt _ _ _ [.int .u64 (x0 : Int), .int .u64 (x1 : Int), .int .u64 (x2 : Int), .int .u64 (x3 : Int), .int .u64 (x4 : Int)] := d5_.set 4 (.int .u64 (x4 : Int))
  have m5 := m5_.far (p := ⟨w.heap.size + 1, 4, none⟩) (by simp; omega) (.int .u64 (x4 : Int))
  have b5 : But g w (y4.setCell ⟨w.heap.size + 1, 4, none⟩ (.int .u64 (x4 : Int))) := by
    have := b4.trans b5_
    exact ⟨this.os, this.tape, this.output, by simpa [World.setCell] using this.size, fun j hj hjg => (Below.heap_setCell _ _ _ _ (by show j ≠ w.heap.size + 1; omega)).trans (this.block j hj hjg)⟩
  have cr0 := r5_.cell 0
  have fr0 := r5_.frozen 0
  have cd0 := d5_.cell 0
  have fd0 := d5_.frozen 0
  have cr1 := r5_.cell 1
  have fr1 := r5_.frozen 1
  have cd1 := d5_.cell 1
  have fd1 := d5_.frozen 1
  have cr2 := r5_.cell 2
  have fr2 := r5_.frozen 2
  have cd2 := d5_.cell 2
  have fd2 := d5_.frozen 2
  have cr3 := r5_.cell 3
  have fr3 := r5_.frozen 3
  have cd3 := d5_.cell 3
  have fd3 := d5_.frozen 3
  have cr4 := r5_.cell 4
  have fr4 := r5_.frozen 4
  have cd4 := d5_.cell 4
  have fd4 := d5_.frozen 4
  simp only [List.getElem?_cons_succ, List.getElem?_cons_zero] at cr0 cd0 cr1 cd1 cr2 cd2 cr3 cd3 cr4 cd4
  clear r4 d4 m4 b4 r5_ d5_ m5_ b5_ n4
  go_wp2_with fail
  refine bodyPost_ret (v := .agg #[.int .u64 (x0 : Int), .int .u64 (x1 : Int), .int .u64 (x2 : Int), .int .u64 (x3 : Int), .int .u64 (x4 : Int)]) (by simp [results, Tryz.results65, go_sem, *]) rfl ?_
  refine ⟨rfl, ⟨s5, ?_⟩, ?_⟩
  · refine RowAt.far ?_ (by simp; omega) _; refine RowAt.far ?_ (by simp; omega) _; refine RowAt.far ?_ (by simp; omega) _; refine RowAt.far ?_ (by simp; omega) _; refine RowAt.far ?_ (by simp; omega) _; exact m5
  · refine But.setNew ?_ (by simp) _; refine But.setNew ?_ (by simp) _; refine But.setNew ?_ (by simp) _; refine But.setNew ?_ (by simp) _; refine But.setNew ?_ (by simp) _; exact b5

theorem encT_yes {f : Bool} {l : List Pr} {Q : ByteArray} (h : rightT l = true) (hQ : Q.data.toList = encB f l) : encT f l = (Q.data.toList, 0) := by unfold encT; rw [h, hQ]; rfl
theorem encT_no {f : Bool} {l : List Pr} (h : rightT l = false) : encT f l = ((⟨#[]⟩ : ByteArray).data.toList, 1) := by unfold encT; rw [h]; rfl
theorem bList_ok (x : Value) (n : Int) (on : List Int) (w : World) (t : ByteArray) (ht : t.data.toList = listOf n on) (hr : rightB n on = true) (hx : Bt w x n on) (h9 : on.length ≤ maxLen) :
    Calls Tryz.prog 58 #[x] w fun e w' => e = .returned (.tuple #[.string t, .int .i64 0]) ∧ Below w.heap.size w w' := by
  have := List_any x n on w hx h9
  unfold lstOf argErr at this
  rw [hr] at this
  simp only [if_true, ← ht, mk_list] at this
  exact this
theorem bList_no (x : Value) (n : Int) (on : List Int) (w : World) (hr : rightB n on = false) (hx : Bt w x n on) (h9 : on.length ≤ maxLen) :
    Calls Tryz.prog 58 #[x] w fun e w' => e = .returned (.tuple #[.string ⟨#[]⟩, .int .i64 1]) ∧ Below w.heap.size w w' := by
  have := List_any x n on w hx h9
  unfold lstOf argErr at this
  rw [hr] at this
  exact this
theorem Join_two (f p q S : ByteArray) (n : Int) (g : Nat) (w : World) (hr : RowAt w g 9 [.string p, .string q]) (hJ : joinOf f.data.toList [p.data.toList, q.data.toList] = (S.data.toList, n)) (hf : f.size ≤ 1000000) :
    Calls Tryz.prog 60 #[.string f, .slice (some ⟨g, 0, none⟩) 2 2] w fun e w' => e = .returned (.tuple #[.string S, .int .i64 n]) ∧ Below w.heap.size w w' := by
  have := Join_any f [p, q] (.slice (some ⟨g, 0, none⟩) 2 2) w (Strs.row (ss := [p, q]) hr) (by simp) (by omega)
  rw [show txts [p, q] = [p.data.toList, q.data.toList] from rfl, hJ] at this
  simp only [mk_list] at this
  exact this

set_option maxHeartbeats 4000000 in
set_option maxRecDepth 100000 in
theorem writeVote_bits (d0 d1 d2 d3 d4 : Nat) (n : Int) (on : List Int) (f : Bool) (l : List Pr) (A B : Option Addr) (c k : Nat) (w : World) (hx : Bt w (.agg #[.int .i64 n, .slice A on.length c]) n on) (ht : Tk w (.agg #[.bool f, .slice B l.length k]) f l) (h9 : on.length ≤ 1000000) (h9l : l.length ≤ 1000000) (hr : rightB n on = false) :
    Calls Tryz.prog 29 #[.agg #[.int .u64 (d0 : Int), .int .u64 (d1 : Int), .int .u64 (d2 : Int), .int .u64 (d3 : Int), .int .u64 (d4 : Int), .int .i64 n, .slice A on.length c, .bool f, .slice B l.length k]] w (Panics 1 w) := by
  obtain ⟨w0, hw0⟩ : ∃ w0, w0 = w.alloc (.cells #[.int .u64 (d0 : Int), .int .u64 (d1 : Int), .int .u64 (d2 : Int), .int .u64 (d3 : Int), .int .u64 (d4 : Int), .int .i64 n, .slice A on.length c, .bool f, .slice B l.length k] 32) := ⟨_, rfl⟩
  have b0 : Below w.heap.size w w0 := by rw [hw0]; exact (Below.refl _ _).alloc (Nat.le_refl _) _
  have r0 : RowAt w0 w.heap.size 32 [.int .u64 (d0 : Int), .int .u64 (d1 : Int), .int .u64 (d2 : Int), .int .u64 (d3 : Int), .int .u64 (d4 : Int), .int .i64 n, .slice A on.length c, .bool f, .slice B l.length k] := by rw [hw0]; exact RowAt.new w 32 #[.int .u64 (d0 : Int), .int .u64 (d1 : Int), .int .u64 (d2 : Int), .int .u64 (d3 : Int), .int .u64 (d4 : Int), .int .i64 n, .slice A on.length c, .bool f, .slice B l.length k]
  have x0 := hx.on b0
  have t0 := ht.on b0
  have HW := Lib.hid hw0
  clear hw0 hx ht
  go_enter Tryz.func29, Tryz.ntmps29
  go_wp2_with fail
  rw [← HW.out]
  with_reducible refine (bList_no _ n on _ hr x0 (small h9)).mono ?_
  rintro e w1 ⟨rfl, b1⟩
  have bw1 := b0.trans (b1.mono b0.size)
  clear x0 t0 r0 b1
  go_wp2_with fail
  with_reducible refine (sureS_no _ 1 _ (by decide)).mono ?_
  rintro e w2 ⟨rfl, b2⟩
  exact ⟨rfl, rfl, bw1.trans (b2.mono bw1.size)⟩

set_option maxHeartbeats 4000000 in
set_option maxRecDepth 100000 in
theorem writeVote_tok (d0 d1 d2 d3 d4 : Nat) (n : Int) (on : List Int) (f : Bool) (l : List Pr) (A B : Option Addr) (c k : Nat) (w : World) (hx : Bt w (.agg #[.int .i64 n, .slice A on.length c]) n on) (ht : Tk w (.agg #[.bool f, .slice B l.length k]) f l) (h9 : on.length ≤ 1000000) (h9l : l.length ≤ 1000000) (P : ByteArray) (hP : P.data.toList = listOf n on) (hr : rightB n on = true) (hrt : rightT l = false) :
    Calls Tryz.prog 29 #[.agg #[.int .u64 (d0 : Int), .int .u64 (d1 : Int), .int .u64 (d2 : Int), .int .u64 (d3 : Int), .int .u64 (d4 : Int), .int .i64 n, .slice A on.length c, .bool f, .slice B l.length k]] w (Panics 1 w) := by
  obtain ⟨w0, hw0⟩ : ∃ w0, w0 = w.alloc (.cells #[.int .u64 (d0 : Int), .int .u64 (d1 : Int), .int .u64 (d2 : Int), .int .u64 (d3 : Int), .int .u64 (d4 : Int), .int .i64 n, .slice A on.length c, .bool f, .slice B l.length k] 32) := ⟨_, rfl⟩
  have b0 : Below w.heap.size w w0 := by rw [hw0]; exact (Below.refl _ _).alloc (Nat.le_refl _) _
  have r0 : RowAt w0 w.heap.size 32 [.int .u64 (d0 : Int), .int .u64 (d1 : Int), .int .u64 (d2 : Int), .int .u64 (d3 : Int), .int .u64 (d4 : Int), .int .i64 n, .slice A on.length c, .bool f, .slice B l.length k] := by rw [hw0]; exact RowAt.new w 32 #[.int .u64 (d0 : Int), .int .u64 (d1 : Int), .int .u64 (d2 : Int), .int .u64 (d3 : Int), .int .u64 (d4 : Int), .int .i64 n, .slice A on.length c, .bool f, .slice B l.length k]
  have x0 := hx.on b0
  have t0 := ht.on b0
  have HW := Lib.hid hw0
  clear hw0 hx ht
  go_enter Tryz.func29, Tryz.ntmps29
  go_wp2_with fail
  rw [← HW.out]
  with_reducible refine (bList_ok _ n on _ P hP hr x0 (small h9)).mono ?_
  rintro e w1 ⟨rfl, b1⟩
  have bw1 := b0.trans (b1.mono b0.size)
  have r1 := r0.on b1
  have t1 := t0.on b1
  clear x0 t0 r0 b1
  have c0 := r1.cell 0
  have c1 := r1.cell 1
  have c2 := r1.cell 2
  have c3 := r1.cell 3
  have c4 := r1.cell 4
  have c5 := r1.cell 5
  have c6 := r1.cell 6
  have c7 := r1.cell 7
  have c8 := r1.cell 8
  simp only [List.getElem?_cons_succ, List.getElem?_cons_zero] at c0 c1 c2 c3 c4 c5 c6 c7 c8
  go_wp2_with fail
  with_reducible refine (sureS_ok _ _).mono ?_
  rintro e w2 ⟨rfl, rfl⟩
  go_wp2_with fail
  with_reducible refine (Encode_eq _ f l _ ⟨#[]⟩ 1 (encT_no hrt) t1 h9l).mono ?_
  rintro e w2 ⟨rfl, b2⟩
  have bw2 := bw1.trans (b2.mono bw1.size)
  clear b2 c0 c1 c2 c3 c4 c5 c6 c7 c8
  go_wp2_with fail
  with_reducible refine (sureS_no _ 1 _ (by decide)).mono ?_
  rintro e w3 ⟨rfl, b3⟩
  exact ⟨rfl, rfl, bw2.trans (b3.mono bw2.size)⟩

set_option maxHeartbeats 4000000 in
set_option maxRecDepth 100000 in
theorem writeVote_ok (d0 d1 d2 d3 d4 : Nat) (n : Int) (on : List Int) (f : Bool) (l : List Pr) (A B : Option Addr) (c k : Nat) (w : World) (hx : Bt w (.agg #[.int .i64 n, .slice A on.length c]) n on) (ht : Tk w (.agg #[.bool f, .slice B l.length k]) f l) (h9 : on.length ≤ 1000000) (h9l : l.length ≤ 1000000) (P Q D S : ByteArray) (hP : P.data.toList = listOf n on) (hQ : Q.data.toList = encB f l) (hD : D.data.toList = wordsB [d0, d1, d2, d3, d4]) (hr : rightB n on = true) (hrt : rightT l = true) (hJ : joinOf D.data.toList [P.data.toList, Q.data.toList] = (S.data.toList, 0)) :
    Calls Tryz.prog 29 #[.agg #[.int .u64 (d0 : Int), .int .u64 (d1 : Int), .int .u64 (d2 : Int), .int .u64 (d3 : Int), .int .u64 (d4 : Int), .int .i64 n, .slice A on.length c, .bool f, .slice B l.length k]] w fun e w' => e = .returned (.string S) ∧ Below w.heap.size w w' := by
  obtain ⟨w0, hw0⟩ : ∃ w0, w0 = w.alloc (.cells #[.int .u64 (d0 : Int), .int .u64 (d1 : Int), .int .u64 (d2 : Int), .int .u64 (d3 : Int), .int .u64 (d4 : Int), .int .i64 n, .slice A on.length c, .bool f, .slice B l.length k] 32) := ⟨_, rfl⟩
  have b0 : Below w.heap.size w w0 := by rw [hw0]; exact (Below.refl _ _).alloc (Nat.le_refl _) _
  have r0 : RowAt w0 w.heap.size 32 [.int .u64 (d0 : Int), .int .u64 (d1 : Int), .int .u64 (d2 : Int), .int .u64 (d3 : Int), .int .u64 (d4 : Int), .int .i64 n, .slice A on.length c, .bool f, .slice B l.length k] := by rw [hw0]; exact RowAt.new w 32 #[.int .u64 (d0 : Int), .int .u64 (d1 : Int), .int .u64 (d2 : Int), .int .u64 (d3 : Int), .int .u64 (d4 : Int), .int .i64 n, .slice A on.length c, .bool f, .slice B l.length k]
  have x0 := hx.on b0
  have t0 := ht.on b0
  have HW := Lib.hid hw0
  clear hw0 hx ht
  go_enter Tryz.func29, Tryz.ntmps29
  go_wp2_with fail
  rw [← HW.out]
  with_reducible refine (bList_ok _ n on _ P hP hr x0 (small h9)).mono ?_
  rintro e w1 ⟨rfl, b1⟩
  have bw1 := b0.trans (b1.mono b0.size)
  have r1 := r0.on b1
  have t1 := t0.on b1
  clear x0 t0 r0 b1
  have c0 := r1.cell 0
  have c1 := r1.cell 1
  have c2 := r1.cell 2
  have c3 := r1.cell 3
  have c4 := r1.cell 4
  have c5 := r1.cell 5
  have c6 := r1.cell 6
  have c7 := r1.cell 7
  have c8 := r1.cell 8
  simp only [List.getElem?_cons_succ, List.getElem?_cons_zero] at c0 c1 c2 c3 c4 c5 c6 c7 c8
  go_wp2_with fail
  with_reducible refine (sureS_ok _ _).mono ?_
  rintro e w2 ⟨rfl, rfl⟩
  go_wp2_with fail
  with_reducible refine (Encode_eq _ f l _ Q 0 (encT_yes hrt hQ) t1 h9l).mono ?_
  rintro e w2 ⟨rfl, b2⟩
  have bw2 := bw1.trans (b2.mono bw1.size)
  have r2 := r1.on b2
  clear r1 t1 b2 bw1 c0 c1 c2 c3 c4 c5 c6 c7 c8
  have c0 := r2.cell 0
  have c1 := r2.cell 1
  have c2 := r2.cell 2
  have c3 := r2.cell 3
  have c4 := r2.cell 4
  have c5 := r2.cell 5
  have c6 := r2.cell 6
  have c7 := r2.cell 7
  have c8 := r2.cell 8
  simp only [List.getElem?_cons_succ, List.getElem?_cons_zero] at c0 c1 c2 c3 c4 c5 c6 c7 c8
  go_wp2_with fail
  with_reducible refine (sureS_ok _ _).mono ?_
  rintro e w3 ⟨rfl, rfl⟩
  have cD := bytesOfData_any d0 d1 d2 d3 d4 w2
  rw [← hD, mk_list] at cD
  have hDs : D.size = 40 := by rw [← size_list, hD, wordsB_length]; rfl
  have HJ := Lib.hid hJ
  clear hJ hP hQ hD
  go_wp2_with fail
  with_reducible refine cD.mono ?_
  rintro e w3 ⟨rfl, b3⟩
  have bw3 := bw2.trans (b3.mono bw2.size)
  clear cD r2 bw2 b3 c0 c1 c2 c3 c4 c5 c6 c7 c8
  have cJ := Join_two D P Q S 0 w3.heap.size _ (RowAt.new w3 9 #[.string P, .string Q]) HJ.out (by omega)
  go_wp2_with fail
  with_reducible refine cJ.mono ?_
  rintro e w4 ⟨rfl, b4⟩
  have bw4 := (bw3.alloc bw3.size _).trans (b4.mono (by have := bw3.size; simp; omega))
  clear cJ b4
  go_wp2_with fail
  with_reducible refine (sureS_ok _ _).mono ?_
  rintro e w5 ⟨rfl, rfl⟩
  go_wp2_with fail
  go_ret
  exact ⟨rfl, bw4⟩
end Go.Proofs.YtieheieiolobaaaGreatDoor

namespace Go.Proofs.YtieheieiolobaaaGreatDoor
open Go.RowKit

theorem Tk.setNew {w : World} {x : Value} {f : Bool} {l : List Pr} {lo : Nat} (h : Tk w x f l) (hn : Newer lo x) {p : Addr} (hp : p.block < lo) (u : Value) : Tk (w.setCell p u) x f l := by
  obtain ⟨v, rfl, hv⟩ := h
  refine ⟨v, rfl, ?_⟩
  have := hv.setCell hn.from hp u
  simpa [World.setCell] using this
theorem Unlist_nw (s : ByteArray) (most N err : Int) (on : List Int) (w : World) (h : unlistOf s.data.toList most = (N, on, err)) (hs : s.size ≤ 1000000) :
    Calls Tryz.prog 67 #[.string s, .int .i64 most] w fun e w' => ∃ A c, e = .returned (.tuple #[.agg #[.int .i64 N, .slice A on.length c], .int .i64 err]) ∧ Bt w' (.agg #[.int .i64 N, .slice A on.length c]) N on ∧ Below w.heap.size w w' ∧ Newer w.heap.size (.agg #[.int .i64 N, .slice A on.length c]) := by
  refine (Unlist_new s most w (by omega)).mono ?_
  rintro e w' ⟨x, rfl, hx, hb, hn⟩
  rw [h] at hx ⊢
  obtain ⟨A, c, rfl, _, hv⟩ := hx.form
  exact ⟨A, c, rfl, ⟨_, rfl, hv⟩, hb, hn⟩
theorem Decode_nw (s : ByteArray) (w : World) (n : Int) (f : Bool) (l : List Pr) (hT : decB s.data.toList = (n, f, l)) (hs : s.size ≤ 1000000) :
    Calls Tryz.prog 69 #[.string s] w fun e w' => ∃ A c, e = .returned (.tuple #[.agg #[.bool f, .slice A l.length c], .int .i64 n]) ∧ Tk w' (.agg #[.bool f, .slice A l.length c]) f l ∧ Below w.heap.size w w' ∧ Newer w.heap.size (.agg #[.bool f, .slice A l.length c]) :=
  (Decode_new s w hs).mono fun e w' ⟨x, he, hx, hb, hn⟩ => by rw [hT] at he hx; obtain ⟨A, c, rfl, h⟩ := hx.named; exact ⟨A, c, he, h, hb, hn⟩
theorem setCell_size (w : World) (p : Addr) (u : Value) : (w.setCell p u).heap.size = w.heap.size := by simp [World.setCell]

/-- The five numbers of forty bytes. -/
def dtOf (s : ByteArray) : List Nat := [num8 s, num8 (left8 s), num8 (left8 (left8 s)), num8 (left8 (left8 (left8 s))), num8 (left8 (left8 (left8 (left8 s))))]

theorem farA {a : Nat} {p : Addr} (h : a ≠ p.block) (i : Nat) : (⟨a, i, none⟩ : Addr) ≠ p := fun e => h (by rw [← e])
theorem farC {a b : Nat} (h : a ≠ b) (i j : Nat) : (⟨a, i, none⟩ : Addr) ≠ ⟨b, j, none⟩ := fun e => h (by injection e)
set_option maxHeartbeats 8000000 in
set_option maxRecDepth 100000 in
theorem readVote_split (s : ByteArray) (w : World) (hd : ByteArray) (ps : List ByteArray) (y : Int) (h : splitOf s.data.toList 40 2 = (hd.data.toList, txts ps, y)) (hy : (y == 0) = false) :
    Calls Tryz.prog 38 #[.string s] w (Panics y w) := by
  obtain ⟨w0, hw0⟩ : ∃ w0, w0 = w.alloc (.cells #[.int .u64 0, .int .u64 0, .int .u64 0, .int .u64 0, .int .u64 0, .int .i64 0, .slice none 0 0, .bool false, .slice none 0 0] 32) := ⟨_, rfl⟩
  have b0 : Below w.heap.size w w0 := by rw [hw0]; exact (Below.refl _ _).alloc (Nat.le_refl _) _
  have hz0 : w0.heap.size = w.heap.size + 1 := by rw [hw0]; simp
  have r0 : RowAt w0 w.heap.size 32 [.int .u64 0, .int .u64 0, .int .u64 0, .int .u64 0, .int .u64 0, .int .i64 0, .slice none 0 0, .bool false, .slice none 0 0] := by rw [hw0]; exact RowAt.new w 32 #[.int .u64 0, .int .u64 0, .int .u64 0, .int .u64 0, .int .u64 0, .int .i64 0, .slice none 0 0, .bool false, .slice none 0 0]
  have HW := Lib.hid hw0
  clear hw0
  go_enter Tryz.func38, Tryz.ntmps38
  go_wp2_with fail
  rw [← HW.out]
  with_reducible refine (messageOf_no s 40 hd ps y _ h hy).mono ?_
  rintro e w1 ⟨rfl, b1⟩
  exact ⟨rfl, rfl, b0.trans (b1.mono b0.size)⟩

set_option maxHeartbeats 8000000 in
set_option maxRecDepth 100000 in
theorem readVote_unlist (s : ByteArray) (w : World) (hd p q : ByteArray) (hsp : splitOf s.data.toList 40 2 = (hd.data.toList, txts [p, q], 0)) (h40 : hd.size = 40) (hp : p.size ≤ 1000000) (hq : q.size ≤ 1000000) (N y : Int) (on : List Int) (hu : unlistOf p.data.toList 2048 = (N, on, y)) (hy : (y == 0) = false) (ht : True) :
    Calls Tryz.prog 38 #[.string s] w (Panics y w) := by
  obtain ⟨w0, hw0⟩ : ∃ w0, w0 = w.alloc (.cells #[.int .u64 0, .int .u64 0, .int .u64 0, .int .u64 0, .int .u64 0, .int .i64 0, .slice none 0 0, .bool false, .slice none 0 0] 32) := ⟨_, rfl⟩
  have b0 : Below w.heap.size w w0 := by rw [hw0]; exact (Below.refl _ _).alloc (Nat.le_refl _) _
  have hz0 : w0.heap.size = w.heap.size + 1 := by rw [hw0]; simp
  have r0 : RowAt w0 w.heap.size 32 [.int .u64 0, .int .u64 0, .int .u64 0, .int .u64 0, .int .u64 0, .int .i64 0, .slice none 0 0, .bool false, .slice none 0 0] := by rw [hw0]; exact RowAt.new w 32 #[.int .u64 0, .int .u64 0, .int .u64 0, .int .u64 0, .int .u64 0, .int .i64 0, .slice none 0 0, .bool false, .slice none 0 0]
  have HW := Lib.hid hw0
  clear hw0
  go_enter Tryz.func38, Tryz.ntmps38
  go_wp2_with fail
  rw [← HW.out]
  have HU := Lib.hid hu
  have HT := Lib.hid ht
  have HS := Lib.hid hsp
  clear hsp hu ht
  with_reducible refine (messageOf_ok s 40 hd p q _ HS.out).mono ?_
  rintro e w1 ⟨g, ad, c1, rfl, m1, hg, ⟨had, k0, k1⟩, hc1, b1⟩
  have bw1 := b0.trans (b1.mono b0.size)
  have r1 := r0.on b1
  have hgl := m1.lt
  simp only [Addr.add_zero', Addr.add_succ', Nat.zero_add] at k0 k1
  clear r0 b1 HS
  obtain ⟨w2, hw2⟩ : ∃ w2, w2 = w1.alloc (.cells #[.int .u64 0, .int .u64 0, .int .u64 0, .int .u64 0, .int .u64 0, .int .i64 0, .slice none 0 0, .bool false, .slice none 0 0] 32) := ⟨_, rfl⟩
  have hz2 : w2.heap.size = w1.heap.size + 1 := by rw [hw2]; simp
  have bw2 : Below w.heap.size w w2 := by rw [hw2]; exact bw1.alloc bw1.size _
  have v2 : RowAt w2 w1.heap.size 32 [.int .u64 0, .int .u64 0, .int .u64 0, .int .u64 0, .int .u64 0, .int .i64 0, .slice none 0 0, .bool false, .slice none 0 0] := by rw [hw2]; exact RowAt.new w1 32 #[.int .u64 0, .int .u64 0, .int .u64 0, .int .u64 0, .int .u64 0, .int .i64 0, .slice none 0 0, .bool false, .slice none 0 0]
  have r2 : RowAt w2 w.heap.size 32 [.int .u64 0, .int .u64 0, .int .u64 0, .int .u64 0, .int .u64 0, .int .i64 0, .slice none 0 0, .bool false, .slice none 0 0] := by rw [hw2]; exact r1.alloc _
  have m2 : RowAt w2 g 103 [.string hd, .slice (some ad) 2 c1] := by rw [hw2]; exact m1.alloc _
  have k20 : w2.cell? ad = some (.string p) := by rw [hw2]; exact cellA k0 _
  have k21 : w2.cell? ⟨ad.block, ad.off + 1, none⟩ = some (.string q) := by rw [hw2]; exact cellA k1 _
  have HW2 := Lib.hid hw2
  have hw1 := bw1.size
  clear hw2 r1 m1 k0 k1
  have cD := readData_any g hd _ w2 m2 h40
  obtain ⟨x0, hx0⟩ : ∃ x, num8 hd = x := ⟨_, rfl⟩
  obtain ⟨x1, hx1⟩ : ∃ x, num8 (left8 hd) = x := ⟨_, rfl⟩
  obtain ⟨x2, hx2⟩ : ∃ x, num8 (left8 (left8 hd)) = x := ⟨_, rfl⟩
  obtain ⟨x3, hx3⟩ : ∃ x, num8 (left8 (left8 (left8 hd))) = x := ⟨_, rfl⟩
  obtain ⟨x4, hx4⟩ : ∃ x, num8 (left8 (left8 (left8 (left8 hd)))) = x := ⟨_, rfl⟩
  rw [hx0, hx1, hx2, hx3, hx4] at cD
  go_wp2_with fail
  rw [← HW2.out]
  with_reducible refine cD.mono ?_
  rintro e w3 ⟨rfl, ⟨rest, m3⟩, b3⟩
  have bw3 := But.below bw2 b3 (by omega) bw2.size
  have hw3 := b3.size
  have r3 := b3.rowAt r2 (by omega)
  have v3 := b3.rowAt v2 (by omega)
  have k30 := (b3.cell (p := ad) (by omega) (by omega)).trans k20
  have k31 := (b3.cell (p := ⟨ad.block, ad.off + 1, none⟩) (by show ad.block < _; omega) (by show ad.block ≠ _; omega)).trans k21
  clear r2 v2 m2 k20 k21 cD b3 bw2 bw1
  obtain ⟨w4, hw4⟩ : ∃ w4, w4 = (((((w3.setCell ⟨w1.heap.size, 0, none⟩ (.int .u64 (x0 : Int))).setCell ⟨w1.heap.size, 1, none⟩ (.int .u64 (x1 : Int))).setCell ⟨w1.heap.size, 2, none⟩ (.int .u64 (x2 : Int))).setCell ⟨w1.heap.size, 3, none⟩ (.int .u64 (x3 : Int))).setCell ⟨w1.heap.size, 4, none⟩ (.int .u64 (x4 : Int))) := ⟨_, rfl⟩
  have hz4 : w4.heap.size = w3.heap.size := by rw [hw4]; simp only [setCell_size]
  have v4 : RowAt w4 w1.heap.size 32 [.int .u64 (x0 : Int), .int .u64 (x1 : Int), .int .u64 (x2 : Int), .int .u64 (x3 : Int), .int .u64 (x4 : Int), .int .i64 0, .slice none 0 0, .bool false, .slice none 0 0] := by rw [hw4]; exact (((((v3.set 0 _).set 1 _).set 2 _).set 3 _).set 4 _)
  have r4 : RowAt w4 w.heap.size 32 [.int .u64 0, .int .u64 0, .int .u64 0, .int .u64 0, .int .u64 0, .int .i64 0, .slice none 0 0, .bool false, .slice none 0 0] := by rw [hw4]; exact (((((r3.far (by show w.heap.size ≠ w1.heap.size; omega) _).far (by show w.heap.size ≠ w1.heap.size; omega) _).far (by show w.heap.size ≠ w1.heap.size; omega) _).far (by show w.heap.size ≠ w1.heap.size; omega) _).far (by show w.heap.size ≠ w1.heap.size; omega) _)
  have m4 : RowAt w4 g 103 [.string rest, .slice (some ad) 2 c1] := by rw [hw4]; exact (((((m3.far (by show g ≠ w1.heap.size; omega) _).far (by show g ≠ w1.heap.size; omega) _).far (by show g ≠ w1.heap.size; omega) _).far (by show g ≠ w1.heap.size; omega) _).far (by show g ≠ w1.heap.size; omega) _)
  have k41 : w4.cell? ⟨ad.block, ad.off + 1, none⟩ = some (.string q) := by rw [hw4]; simp only [World.cell?_setCell_other _ _ ⟨ad.block, ad.off + 1, none⟩ _ (farC (show w1.heap.size ≠ ad.block by omega) _ _)]; exact k31
  have bw4 : Below w.heap.size w w4 := by rw [hw4]; exact (((((bw3.setCell (by show w.heap.size ≤ w1.heap.size; omega) _).setCell (by show w.heap.size ≤ w1.heap.size; omega) _).setCell (by show w.heap.size ≤ w1.heap.size; omega) _).setCell (by show w.heap.size ≤ w1.heap.size; omega) _).setCell (by show w.heap.size ≤ w1.heap.size; omega) _)
  have HW4 := Lib.hid hw4
  have c0 := v3.cell 0
  have fc0 := v3.frozen 0
  have c1 := v3.cell 1
  have fc1 := v3.frozen 1
  have c2 := v3.cell 2
  have fc2 := v3.frozen 2
  have c3 := v3.cell 3
  have fc3 := v3.frozen 3
  have c4 := v3.cell 4
  have fc4 := v3.frozen 4
  simp only [List.getElem?_cons_succ, List.getElem?_cons_zero] at c0 c1 c2 c3 c4
  have k40 : w4.cell? ad = some (.string p) := by rw [hw4]; simp only [World.cell?_setCell_other _ _ ad _ (farA (show w1.heap.size ≠ ad.block by omega) _)]; exact k30
  clear hw4 v3 r3 m3 k31 bw3
  go_upto_region 4 with (fail)
  rw [← HW4.out]
  have n1 := m4.cell 1
  simp only [List.getElem?_cons_succ, List.getElem?_cons_zero] at n1
  clear k30 c0 fc0 c1 fc1 c2 fc2 c3 fc3 c4 fc4
  go_wp2_with fail
  with_reducible refine (Unlist_nw p 2048 N y on _ HU.out hp).mono ?_
  rintro e w5 ⟨A, c, rfl, -, b5, -⟩
  have bw5 := bw4.trans (b5.mono bw4.size)
  clear n1 k40
  go_wp2_with fail
  with_reducible refine (sureB_no _ _ _ _ y _ hy).mono ?_
  rintro e w6 ⟨rfl, b6⟩
  exact ⟨rfl, rfl, bw5.trans (b6.mono bw5.size)⟩

set_option maxHeartbeats 8000000 in
set_option maxRecDepth 100000 in
theorem readVote_tok (s : ByteArray) (w : World) (hd p q : ByteArray) (hsp : splitOf s.data.toList 40 2 = (hd.data.toList, txts [p, q], 0)) (h40 : hd.size = 40) (hp : p.size ≤ 1000000) (hq : q.size ≤ 1000000) (N y : Int) (on : List Int) (f : Bool) (l : List Pr) (hu : unlistOf p.data.toList 2048 = (N, on, 0)) (ht : decB q.data.toList = (y, f, l)) (hy : (y == 0) = false) :
    Calls Tryz.prog 38 #[.string s] w (Panics y w) := by
  obtain ⟨w0, hw0⟩ : ∃ w0, w0 = w.alloc (.cells #[.int .u64 0, .int .u64 0, .int .u64 0, .int .u64 0, .int .u64 0, .int .i64 0, .slice none 0 0, .bool false, .slice none 0 0] 32) := ⟨_, rfl⟩
  have b0 : Below w.heap.size w w0 := by rw [hw0]; exact (Below.refl _ _).alloc (Nat.le_refl _) _
  have hz0 : w0.heap.size = w.heap.size + 1 := by rw [hw0]; simp
  have r0 : RowAt w0 w.heap.size 32 [.int .u64 0, .int .u64 0, .int .u64 0, .int .u64 0, .int .u64 0, .int .i64 0, .slice none 0 0, .bool false, .slice none 0 0] := by rw [hw0]; exact RowAt.new w 32 #[.int .u64 0, .int .u64 0, .int .u64 0, .int .u64 0, .int .u64 0, .int .i64 0, .slice none 0 0, .bool false, .slice none 0 0]
  have HW := Lib.hid hw0
  clear hw0
  go_enter Tryz.func38, Tryz.ntmps38
  go_wp2_with fail
  rw [← HW.out]
  have HU := Lib.hid hu
  have HT := Lib.hid ht
  have HS := Lib.hid hsp
  clear hsp hu ht
  with_reducible refine (messageOf_ok s 40 hd p q _ HS.out).mono ?_
  rintro e w1 ⟨g, ad, c1, rfl, m1, hg, ⟨had, k0, k1⟩, hc1, b1⟩
  have bw1 := b0.trans (b1.mono b0.size)
  have r1 := r0.on b1
  have hgl := m1.lt
  simp only [Addr.add_zero', Addr.add_succ', Nat.zero_add] at k0 k1
  clear r0 b1 HS
  obtain ⟨w2, hw2⟩ : ∃ w2, w2 = w1.alloc (.cells #[.int .u64 0, .int .u64 0, .int .u64 0, .int .u64 0, .int .u64 0, .int .i64 0, .slice none 0 0, .bool false, .slice none 0 0] 32) := ⟨_, rfl⟩
  have hz2 : w2.heap.size = w1.heap.size + 1 := by rw [hw2]; simp
  have bw2 : Below w.heap.size w w2 := by rw [hw2]; exact bw1.alloc bw1.size _
  have v2 : RowAt w2 w1.heap.size 32 [.int .u64 0, .int .u64 0, .int .u64 0, .int .u64 0, .int .u64 0, .int .i64 0, .slice none 0 0, .bool false, .slice none 0 0] := by rw [hw2]; exact RowAt.new w1 32 #[.int .u64 0, .int .u64 0, .int .u64 0, .int .u64 0, .int .u64 0, .int .i64 0, .slice none 0 0, .bool false, .slice none 0 0]
  have r2 : RowAt w2 w.heap.size 32 [.int .u64 0, .int .u64 0, .int .u64 0, .int .u64 0, .int .u64 0, .int .i64 0, .slice none 0 0, .bool false, .slice none 0 0] := by rw [hw2]; exact r1.alloc _
  have m2 : RowAt w2 g 103 [.string hd, .slice (some ad) 2 c1] := by rw [hw2]; exact m1.alloc _
  have k20 : w2.cell? ad = some (.string p) := by rw [hw2]; exact cellA k0 _
  have k21 : w2.cell? ⟨ad.block, ad.off + 1, none⟩ = some (.string q) := by rw [hw2]; exact cellA k1 _
  have HW2 := Lib.hid hw2
  have hw1 := bw1.size
  clear hw2 r1 m1 k0 k1
  have cD := readData_any g hd _ w2 m2 h40
  obtain ⟨x0, hx0⟩ : ∃ x, num8 hd = x := ⟨_, rfl⟩
  obtain ⟨x1, hx1⟩ : ∃ x, num8 (left8 hd) = x := ⟨_, rfl⟩
  obtain ⟨x2, hx2⟩ : ∃ x, num8 (left8 (left8 hd)) = x := ⟨_, rfl⟩
  obtain ⟨x3, hx3⟩ : ∃ x, num8 (left8 (left8 (left8 hd))) = x := ⟨_, rfl⟩
  obtain ⟨x4, hx4⟩ : ∃ x, num8 (left8 (left8 (left8 (left8 hd)))) = x := ⟨_, rfl⟩
  rw [hx0, hx1, hx2, hx3, hx4] at cD
  go_wp2_with fail
  rw [← HW2.out]
  with_reducible refine cD.mono ?_
  rintro e w3 ⟨rfl, ⟨rest, m3⟩, b3⟩
  have bw3 := But.below bw2 b3 (by omega) bw2.size
  have hw3 := b3.size
  have r3 := b3.rowAt r2 (by omega)
  have v3 := b3.rowAt v2 (by omega)
  have k30 := (b3.cell (p := ad) (by omega) (by omega)).trans k20
  have k31 := (b3.cell (p := ⟨ad.block, ad.off + 1, none⟩) (by show ad.block < _; omega) (by show ad.block ≠ _; omega)).trans k21
  clear r2 v2 m2 k20 k21 cD b3 bw2 bw1
  obtain ⟨w4, hw4⟩ : ∃ w4, w4 = (((((w3.setCell ⟨w1.heap.size, 0, none⟩ (.int .u64 (x0 : Int))).setCell ⟨w1.heap.size, 1, none⟩ (.int .u64 (x1 : Int))).setCell ⟨w1.heap.size, 2, none⟩ (.int .u64 (x2 : Int))).setCell ⟨w1.heap.size, 3, none⟩ (.int .u64 (x3 : Int))).setCell ⟨w1.heap.size, 4, none⟩ (.int .u64 (x4 : Int))) := ⟨_, rfl⟩
  have hz4 : w4.heap.size = w3.heap.size := by rw [hw4]; simp only [setCell_size]
  have v4 : RowAt w4 w1.heap.size 32 [.int .u64 (x0 : Int), .int .u64 (x1 : Int), .int .u64 (x2 : Int), .int .u64 (x3 : Int), .int .u64 (x4 : Int), .int .i64 0, .slice none 0 0, .bool false, .slice none 0 0] := by rw [hw4]; exact (((((v3.set 0 _).set 1 _).set 2 _).set 3 _).set 4 _)
  have r4 : RowAt w4 w.heap.size 32 [.int .u64 0, .int .u64 0, .int .u64 0, .int .u64 0, .int .u64 0, .int .i64 0, .slice none 0 0, .bool false, .slice none 0 0] := by rw [hw4]; exact (((((r3.far (by show w.heap.size ≠ w1.heap.size; omega) _).far (by show w.heap.size ≠ w1.heap.size; omega) _).far (by show w.heap.size ≠ w1.heap.size; omega) _).far (by show w.heap.size ≠ w1.heap.size; omega) _).far (by show w.heap.size ≠ w1.heap.size; omega) _)
  have m4 : RowAt w4 g 103 [.string rest, .slice (some ad) 2 c1] := by rw [hw4]; exact (((((m3.far (by show g ≠ w1.heap.size; omega) _).far (by show g ≠ w1.heap.size; omega) _).far (by show g ≠ w1.heap.size; omega) _).far (by show g ≠ w1.heap.size; omega) _).far (by show g ≠ w1.heap.size; omega) _)
  have k41 : w4.cell? ⟨ad.block, ad.off + 1, none⟩ = some (.string q) := by rw [hw4]; simp only [World.cell?_setCell_other _ _ ⟨ad.block, ad.off + 1, none⟩ _ (farC (show w1.heap.size ≠ ad.block by omega) _ _)]; exact k31
  have bw4 : Below w.heap.size w w4 := by rw [hw4]; exact (((((bw3.setCell (by show w.heap.size ≤ w1.heap.size; omega) _).setCell (by show w.heap.size ≤ w1.heap.size; omega) _).setCell (by show w.heap.size ≤ w1.heap.size; omega) _).setCell (by show w.heap.size ≤ w1.heap.size; omega) _).setCell (by show w.heap.size ≤ w1.heap.size; omega) _)
  have HW4 := Lib.hid hw4
  have c0 := v3.cell 0
  have fc0 := v3.frozen 0
  have c1 := v3.cell 1
  have fc1 := v3.frozen 1
  have c2 := v3.cell 2
  have fc2 := v3.frozen 2
  have c3 := v3.cell 3
  have fc3 := v3.frozen 3
  have c4 := v3.cell 4
  have fc4 := v3.frozen 4
  simp only [List.getElem?_cons_succ, List.getElem?_cons_zero] at c0 c1 c2 c3 c4
  have k40 : w4.cell? ad = some (.string p) := by rw [hw4]; simp only [World.cell?_setCell_other _ _ ad _ (farA (show w1.heap.size ≠ ad.block by omega) _)]; exact k30
  clear hw4 v3 r3 m3 k31 bw3
  go_upto_region 4 with (fail)
  rw [← HW4.out]
  have n1 := m4.cell 1
  simp only [List.getElem?_cons_succ, List.getElem?_cons_zero] at n1
  clear k30 c0 fc0 c1 fc1 c2 fc2 c3 fc3 c4 fc4
  go_wp2_with fail
  with_reducible refine (Unlist_nw p 2048 N 0 on _ HU.out hp).mono ?_
  rintro e w5 ⟨A, c, rfl, u5, b5, nu⟩
  have bw5 := bw4.trans (b5.mono bw4.size)
  have hw5 := b5.size
  have r5 := r4.on b5
  have v5 := v4.on b5
  have m5 := m4.on b5
  have k51 := (b5.cell (p := ⟨ad.block, ad.off + 1, none⟩) (by show ad.block < _; omega)).trans k41
  clear n1 k40 r4 v4 m4 k41 b5 bw4
  go_wp2_with fail
  with_reducible refine (sureB_ok _ _ _ _ _).mono ?_
  rintro e w6 ⟨rfl, b6⟩
  have bw6 := bw5.trans (b6.mono bw5.size)
  have hw6 := b6.size
  have r6 := r5.on b6
  have v6 := v5.on b6
  have m6 := m5.on b6
  have u6 := u5.on b6
  have k61 := (b6.cell (p := ⟨ad.block, ad.off + 1, none⟩) (by show ad.block < _; omega)).trans k51
  clear r5 v5 m5 u5 k51 b6 bw5
  obtain ⟨w7, hw7⟩ : ∃ w7, w7 = (w6.setCell ⟨w1.heap.size, 5, none⟩ (.int .i64 N)).setCell ⟨w1.heap.size, 6, none⟩ (.slice A on.length c) := ⟨_, rfl⟩
  have hz7 : w7.heap.size = w6.heap.size := by rw [hw7]; simp only [setCell_size]
  have v7 : RowAt w7 w1.heap.size 32 [.int .u64 (x0 : Int), .int .u64 (x1 : Int), .int .u64 (x2 : Int), .int .u64 (x3 : Int), .int .u64 (x4 : Int), .int .i64 N, .slice A on.length c, .bool false, .slice none 0 0] := by rw [hw7]; exact ((v6.set 5 _).set 6 _)
  have r7 : RowAt w7 w.heap.size 32 [.int .u64 0, .int .u64 0, .int .u64 0, .int .u64 0, .int .u64 0, .int .i64 0, .slice none 0 0, .bool false, .slice none 0 0] := by rw [hw7]; exact ((r6.far (by show w.heap.size ≠ w1.heap.size; omega) _).far (by show w.heap.size ≠ w1.heap.size; omega) _)
  have u7 : Bt w7 (.agg #[.int .i64 N, .slice A on.length c]) N on := by rw [hw7]; exact (u6.setNew nu (by show w1.heap.size < _; omega) _).setNew nu (by show w1.heap.size < _; omega) _
  have bw7 : Below w.heap.size w w7 := by rw [hw7]; exact (bw6.setCell (by show w.heap.size ≤ w1.heap.size; omega) _).setCell (by show w.heap.size ≤ w1.heap.size; omega) _
  have HW7 := Lib.hid hw7
  have c5 := v6.cell 5
  have fc5 := v6.frozen 5
  have c6 := v6.cell 6
  have fc6 := v6.frozen 6
  simp only [List.getElem?_cons_succ, List.getElem?_cons_zero] at c5 c6
  have m7 : RowAt w7 g 103 [.string rest, .slice (some ad) 2 c1] := by rw [hw7]; exact ((m6.far (by show g ≠ w1.heap.size; omega) _).far (by show g ≠ w1.heap.size; omega) _)
  have k71 : w7.cell? ⟨ad.block, ad.off + 1, none⟩ = some (.string q) := by rw [hw7]; simp only [World.cell?_setCell_other _ _ ⟨ad.block, ad.off + 1, none⟩ _ (farC (show w1.heap.size ≠ ad.block by omega) _ _)]; exact k61
  clear hw7 v6 r6 m6 u6 bw6 k61
  go_upto_region 5 with (fail)
  rw [← HW7.out]
  have n1 := m7.cell 1
  simp only [List.getElem?_cons_succ, List.getElem?_cons_zero] at n1
  clear c5 fc5 c6 fc6
  go_wp2_with fail
  with_reducible refine (Decode_nw q _ y f l HT.out hq).mono ?_
  rintro e w8 ⟨B, k, rfl, -, b8, -⟩
  have bw8 := bw7.trans (b8.mono bw7.size)
  clear n1 k71
  go_wp2_with fail
  with_reducible refine (sureT_no _ _ _ _ y _ hy).mono ?_
  rintro e w9 ⟨rfl, b9⟩
  exact ⟨rfl, rfl, bw8.trans (b9.mono bw8.size)⟩

set_option maxHeartbeats 8000000 in
set_option maxRecDepth 100000 in
theorem readVote_ok (s : ByteArray) (w : World) (hd p q : ByteArray) (hsp : splitOf s.data.toList 40 2 = (hd.data.toList, txts [p, q], 0)) (h40 : hd.size = 40) (hp : p.size ≤ 1000000) (hq : q.size ≤ 1000000) (N : Int) (on : List Int) (f : Bool) (l : List Pr) (hu : unlistOf p.data.toList 2048 = (N, on, 0)) (ht : decB q.data.toList = (0, f, l)) :
    Calls Tryz.prog 38 #[.string s] w fun e w' => ∃ A c B k, e = .returned (.agg #[.int .u64 (num8 hd : Int), .int .u64 (num8 (left8 hd) : Int), .int .u64 (num8 (left8 (left8 hd)) : Int), .int .u64 (num8 (left8 (left8 (left8 hd))) : Int), .int .u64 (num8 (left8 (left8 (left8 (left8 hd)))) : Int), .int .i64 N, .slice A on.length c, .bool f, .slice B l.length k]) ∧ Bt w' (.agg #[.int .i64 N, .slice A on.length c]) N on ∧ Tk w' (.agg #[.bool f, .slice B l.length k]) f l ∧ Below w.heap.size w w' ∧ Newer w.heap.size (.agg #[.int .i64 N, .slice A on.length c]) ∧ Newer w.heap.size (.agg #[.bool f, .slice B l.length k]) := by
  obtain ⟨w0, hw0⟩ : ∃ w0, w0 = w.alloc (.cells #[.int .u64 0, .int .u64 0, .int .u64 0, .int .u64 0, .int .u64 0, .int .i64 0, .slice none 0 0, .bool false, .slice none 0 0] 32) := ⟨_, rfl⟩
  have b0 : Below w.heap.size w w0 := by rw [hw0]; exact (Below.refl _ _).alloc (Nat.le_refl _) _
  have hz0 : w0.heap.size = w.heap.size + 1 := by rw [hw0]; simp
  have r0 : RowAt w0 w.heap.size 32 [.int .u64 0, .int .u64 0, .int .u64 0, .int .u64 0, .int .u64 0, .int .i64 0, .slice none 0 0, .bool false, .slice none 0 0] := by rw [hw0]; exact RowAt.new w 32 #[.int .u64 0, .int .u64 0, .int .u64 0, .int .u64 0, .int .u64 0, .int .i64 0, .slice none 0 0, .bool false, .slice none 0 0]
  have HW := Lib.hid hw0
  clear hw0
  go_enter Tryz.func38, Tryz.ntmps38
  go_wp2_with fail
  rw [← HW.out]
  have HU := Lib.hid hu
  have HT := Lib.hid ht
  have HS := Lib.hid hsp
  clear hsp hu ht
  with_reducible refine (messageOf_ok s 40 hd p q _ HS.out).mono ?_
  rintro e w1 ⟨g, ad, c1, rfl, m1, hg, ⟨had, k0, k1⟩, hc1, b1⟩
  have bw1 := b0.trans (b1.mono b0.size)
  have r1 := r0.on b1
  have hgl := m1.lt
  simp only [Addr.add_zero', Addr.add_succ', Nat.zero_add] at k0 k1
  clear r0 b1 HS
  obtain ⟨w2, hw2⟩ : ∃ w2, w2 = w1.alloc (.cells #[.int .u64 0, .int .u64 0, .int .u64 0, .int .u64 0, .int .u64 0, .int .i64 0, .slice none 0 0, .bool false, .slice none 0 0] 32) := ⟨_, rfl⟩
  have hz2 : w2.heap.size = w1.heap.size + 1 := by rw [hw2]; simp
  have bw2 : Below w.heap.size w w2 := by rw [hw2]; exact bw1.alloc bw1.size _
  have v2 : RowAt w2 w1.heap.size 32 [.int .u64 0, .int .u64 0, .int .u64 0, .int .u64 0, .int .u64 0, .int .i64 0, .slice none 0 0, .bool false, .slice none 0 0] := by rw [hw2]; exact RowAt.new w1 32 #[.int .u64 0, .int .u64 0, .int .u64 0, .int .u64 0, .int .u64 0, .int .i64 0, .slice none 0 0, .bool false, .slice none 0 0]
  have r2 : RowAt w2 w.heap.size 32 [.int .u64 0, .int .u64 0, .int .u64 0, .int .u64 0, .int .u64 0, .int .i64 0, .slice none 0 0, .bool false, .slice none 0 0] := by rw [hw2]; exact r1.alloc _
  have m2 : RowAt w2 g 103 [.string hd, .slice (some ad) 2 c1] := by rw [hw2]; exact m1.alloc _
  have k20 : w2.cell? ad = some (.string p) := by rw [hw2]; exact cellA k0 _
  have k21 : w2.cell? ⟨ad.block, ad.off + 1, none⟩ = some (.string q) := by rw [hw2]; exact cellA k1 _
  have HW2 := Lib.hid hw2
  have hw1 := bw1.size
  clear hw2 r1 m1 k0 k1
  have cD := readData_any g hd _ w2 m2 h40
  obtain ⟨x0, hx0⟩ : ∃ x, num8 hd = x := ⟨_, rfl⟩
  obtain ⟨x1, hx1⟩ : ∃ x, num8 (left8 hd) = x := ⟨_, rfl⟩
  obtain ⟨x2, hx2⟩ : ∃ x, num8 (left8 (left8 hd)) = x := ⟨_, rfl⟩
  obtain ⟨x3, hx3⟩ : ∃ x, num8 (left8 (left8 (left8 hd))) = x := ⟨_, rfl⟩
  obtain ⟨x4, hx4⟩ : ∃ x, num8 (left8 (left8 (left8 (left8 hd)))) = x := ⟨_, rfl⟩
  rw [hx0, hx1, hx2, hx3, hx4] at cD
  go_wp2_with fail
  rw [← HW2.out]
  with_reducible refine cD.mono ?_
  rintro e w3 ⟨rfl, ⟨rest, m3⟩, b3⟩
  have bw3 := But.below bw2 b3 (by omega) bw2.size
  have hw3 := b3.size
  have r3 := b3.rowAt r2 (by omega)
  have v3 := b3.rowAt v2 (by omega)
  have k30 := (b3.cell (p := ad) (by omega) (by omega)).trans k20
  have k31 := (b3.cell (p := ⟨ad.block, ad.off + 1, none⟩) (by show ad.block < _; omega) (by show ad.block ≠ _; omega)).trans k21
  clear r2 v2 m2 k20 k21 cD b3 bw2 bw1
  obtain ⟨w4, hw4⟩ : ∃ w4, w4 = (((((w3.setCell ⟨w1.heap.size, 0, none⟩ (.int .u64 (x0 : Int))).setCell ⟨w1.heap.size, 1, none⟩ (.int .u64 (x1 : Int))).setCell ⟨w1.heap.size, 2, none⟩ (.int .u64 (x2 : Int))).setCell ⟨w1.heap.size, 3, none⟩ (.int .u64 (x3 : Int))).setCell ⟨w1.heap.size, 4, none⟩ (.int .u64 (x4 : Int))) := ⟨_, rfl⟩
  have hz4 : w4.heap.size = w3.heap.size := by rw [hw4]; simp only [setCell_size]
  have v4 : RowAt w4 w1.heap.size 32 [.int .u64 (x0 : Int), .int .u64 (x1 : Int), .int .u64 (x2 : Int), .int .u64 (x3 : Int), .int .u64 (x4 : Int), .int .i64 0, .slice none 0 0, .bool false, .slice none 0 0] := by rw [hw4]; exact (((((v3.set 0 _).set 1 _).set 2 _).set 3 _).set 4 _)
  have r4 : RowAt w4 w.heap.size 32 [.int .u64 0, .int .u64 0, .int .u64 0, .int .u64 0, .int .u64 0, .int .i64 0, .slice none 0 0, .bool false, .slice none 0 0] := by rw [hw4]; exact (((((r3.far (by show w.heap.size ≠ w1.heap.size; omega) _).far (by show w.heap.size ≠ w1.heap.size; omega) _).far (by show w.heap.size ≠ w1.heap.size; omega) _).far (by show w.heap.size ≠ w1.heap.size; omega) _).far (by show w.heap.size ≠ w1.heap.size; omega) _)
  have m4 : RowAt w4 g 103 [.string rest, .slice (some ad) 2 c1] := by rw [hw4]; exact (((((m3.far (by show g ≠ w1.heap.size; omega) _).far (by show g ≠ w1.heap.size; omega) _).far (by show g ≠ w1.heap.size; omega) _).far (by show g ≠ w1.heap.size; omega) _).far (by show g ≠ w1.heap.size; omega) _)
  have k41 : w4.cell? ⟨ad.block, ad.off + 1, none⟩ = some (.string q) := by rw [hw4]; simp only [World.cell?_setCell_other _ _ ⟨ad.block, ad.off + 1, none⟩ _ (farC (show w1.heap.size ≠ ad.block by omega) _ _)]; exact k31
  have bw4 : Below w.heap.size w w4 := by rw [hw4]; exact (((((bw3.setCell (by show w.heap.size ≤ w1.heap.size; omega) _).setCell (by show w.heap.size ≤ w1.heap.size; omega) _).setCell (by show w.heap.size ≤ w1.heap.size; omega) _).setCell (by show w.heap.size ≤ w1.heap.size; omega) _).setCell (by show w.heap.size ≤ w1.heap.size; omega) _)
  have HW4 := Lib.hid hw4
  have c0 := v3.cell 0
  have fc0 := v3.frozen 0
  have c1 := v3.cell 1
  have fc1 := v3.frozen 1
  have c2 := v3.cell 2
  have fc2 := v3.frozen 2
  have c3 := v3.cell 3
  have fc3 := v3.frozen 3
  have c4 := v3.cell 4
  have fc4 := v3.frozen 4
  simp only [List.getElem?_cons_succ, List.getElem?_cons_zero] at c0 c1 c2 c3 c4
  have k40 : w4.cell? ad = some (.string p) := by rw [hw4]; simp only [World.cell?_setCell_other _ _ ad _ (farA (show w1.heap.size ≠ ad.block by omega) _)]; exact k30
  clear hw4 v3 r3 m3 k31 bw3
  go_upto_region 4 with (fail)
  rw [← HW4.out]
  have n1 := m4.cell 1
  simp only [List.getElem?_cons_succ, List.getElem?_cons_zero] at n1
  clear k30 c0 fc0 c1 fc1 c2 fc2 c3 fc3 c4 fc4
  go_wp2_with fail
  with_reducible refine (Unlist_nw p 2048 N 0 on _ HU.out hp).mono ?_
  rintro e w5 ⟨A, c, rfl, u5, b5, nu⟩
  have bw5 := bw4.trans (b5.mono bw4.size)
  have hw5 := b5.size
  have r5 := r4.on b5
  have v5 := v4.on b5
  have m5 := m4.on b5
  have k51 := (b5.cell (p := ⟨ad.block, ad.off + 1, none⟩) (by show ad.block < _; omega)).trans k41
  clear n1 k40 r4 v4 m4 k41 b5 bw4
  go_wp2_with fail
  with_reducible refine (sureB_ok _ _ _ _ _).mono ?_
  rintro e w6 ⟨rfl, b6⟩
  have bw6 := bw5.trans (b6.mono bw5.size)
  have hw6 := b6.size
  have r6 := r5.on b6
  have v6 := v5.on b6
  have m6 := m5.on b6
  have u6 := u5.on b6
  have k61 := (b6.cell (p := ⟨ad.block, ad.off + 1, none⟩) (by show ad.block < _; omega)).trans k51
  clear r5 v5 m5 u5 k51 b6 bw5
  obtain ⟨w7, hw7⟩ : ∃ w7, w7 = (w6.setCell ⟨w1.heap.size, 5, none⟩ (.int .i64 N)).setCell ⟨w1.heap.size, 6, none⟩ (.slice A on.length c) := ⟨_, rfl⟩
  have hz7 : w7.heap.size = w6.heap.size := by rw [hw7]; simp only [setCell_size]
  have v7 : RowAt w7 w1.heap.size 32 [.int .u64 (x0 : Int), .int .u64 (x1 : Int), .int .u64 (x2 : Int), .int .u64 (x3 : Int), .int .u64 (x4 : Int), .int .i64 N, .slice A on.length c, .bool false, .slice none 0 0] := by rw [hw7]; exact ((v6.set 5 _).set 6 _)
  have r7 : RowAt w7 w.heap.size 32 [.int .u64 0, .int .u64 0, .int .u64 0, .int .u64 0, .int .u64 0, .int .i64 0, .slice none 0 0, .bool false, .slice none 0 0] := by rw [hw7]; exact ((r6.far (by show w.heap.size ≠ w1.heap.size; omega) _).far (by show w.heap.size ≠ w1.heap.size; omega) _)
  have u7 : Bt w7 (.agg #[.int .i64 N, .slice A on.length c]) N on := by rw [hw7]; exact (u6.setNew nu (by show w1.heap.size < _; omega) _).setNew nu (by show w1.heap.size < _; omega) _
  have bw7 : Below w.heap.size w w7 := by rw [hw7]; exact (bw6.setCell (by show w.heap.size ≤ w1.heap.size; omega) _).setCell (by show w.heap.size ≤ w1.heap.size; omega) _
  have HW7 := Lib.hid hw7
  have c5 := v6.cell 5
  have fc5 := v6.frozen 5
  have c6 := v6.cell 6
  have fc6 := v6.frozen 6
  simp only [List.getElem?_cons_succ, List.getElem?_cons_zero] at c5 c6
  have m7 : RowAt w7 g 103 [.string rest, .slice (some ad) 2 c1] := by rw [hw7]; exact ((m6.far (by show g ≠ w1.heap.size; omega) _).far (by show g ≠ w1.heap.size; omega) _)
  have k71 : w7.cell? ⟨ad.block, ad.off + 1, none⟩ = some (.string q) := by rw [hw7]; simp only [World.cell?_setCell_other _ _ ⟨ad.block, ad.off + 1, none⟩ _ (farC (show w1.heap.size ≠ ad.block by omega) _ _)]; exact k61
  clear hw7 v6 r6 m6 u6 bw6 k61
  go_upto_region 5 with (fail)
  rw [← HW7.out]
  have n1 := m7.cell 1
  simp only [List.getElem?_cons_succ, List.getElem?_cons_zero] at n1
  clear c5 fc5 c6 fc6
  go_wp2_with fail
  with_reducible refine (Decode_nw q _ 0 f l HT.out hq).mono ?_
  rintro e w8 ⟨B, k, rfl, t8, b8, nt⟩
  have bw8 := bw7.trans (b8.mono bw7.size)
  have hw8 := b8.size
  have r8 := r7.on b8
  have v8 := v7.on b8
  have u8 := u7.on b8
  clear n1 k71 r7 v7 u7 b8 bw7
  go_wp2_with fail
  with_reducible refine (sureT_ok _ _ _ _ _).mono ?_
  rintro e w9 ⟨rfl, b9⟩
  have bw9 := bw8.trans (b9.mono bw8.size)
  have hw9 := b9.size
  have r9 := r8.on b9
  have v9 := v8.on b9
  have u9 := u8.on b9
  have t9 := t8.on b9
  clear r8 v8 u8 t8 b9 bw8
  obtain ⟨w10, hw10⟩ : ∃ w10, w10 = (w9.setCell ⟨w1.heap.size, 7, none⟩ (.bool f)).setCell ⟨w1.heap.size, 8, none⟩ (.slice B l.length k) := ⟨_, rfl⟩
  have hz10 : w10.heap.size = w9.heap.size := by rw [hw10]; simp only [setCell_size]
  have v10 : RowAt w10 w1.heap.size 32 [.int .u64 (x0 : Int), .int .u64 (x1 : Int), .int .u64 (x2 : Int), .int .u64 (x3 : Int), .int .u64 (x4 : Int), .int .i64 N, .slice A on.length c, .bool f, .slice B l.length k] := by rw [hw10]; exact ((v9.set 7 _).set 8 _)
  have r10 : RowAt w10 w.heap.size 32 [.int .u64 0, .int .u64 0, .int .u64 0, .int .u64 0, .int .u64 0, .int .i64 0, .slice none 0 0, .bool false, .slice none 0 0] := by rw [hw10]; exact ((r9.far (by show w.heap.size ≠ w1.heap.size; omega) _).far (by show w.heap.size ≠ w1.heap.size; omega) _)
  have u10 : Bt w10 (.agg #[.int .i64 N, .slice A on.length c]) N on := by rw [hw10]; exact (u9.setNew nu (by show w1.heap.size < _; omega) _).setNew nu (by show w1.heap.size < _; omega) _
  have t10 : Tk w10 (.agg #[.bool f, .slice B l.length k]) f l := by rw [hw10]; exact (t9.setNew nt (by show w1.heap.size < _; omega) _).setNew nt (by show w1.heap.size < _; omega) _
  have bw10 : Below w.heap.size w w10 := by rw [hw10]; exact (bw9.setCell (by show w.heap.size ≤ w1.heap.size; omega) _).setCell (by show w.heap.size ≤ w1.heap.size; omega) _
  have HW10 := Lib.hid hw10
  have c7 := v9.cell 7
  have fc7 := v9.frozen 7
  have c8 := v9.cell 8
  have fc8 := v9.frozen 8
  simp only [List.getElem?_cons_succ, List.getElem?_cons_zero] at c7 c8
  clear hw10
  go_upto_region 6 with (fail)
  rw [← HW10.out]
  clear c7 fc7 c8 fc8 v9 r9 u9 t9 bw9
  have hlu : w.heap.size < w4.heap.size := by omega
  have hlt : w.heap.size < w7.heap.size := by omega
  have HLU := Lib.hid hlu
  have HLT := Lib.hid hlt
  clear hlu hlt
  have c0 := v10.cell 0
  have c1 := v10.cell 1
  have c2 := v10.cell 2
  have c3 := v10.cell 3
  have c4 := v10.cell 4
  have c5 := v10.cell 5
  have c6 := v10.cell 6
  have c7 := v10.cell 7
  have c8 := v10.cell 8
  simp only [List.getElem?_cons_succ, List.getElem?_cons_zero] at c0 c1 c2 c3 c4 c5 c6 c7 c8
  have d0 := r10.cell 0
  have fd0 := r10.frozen 0
  have d1 := r10.cell 1
  have fd1 := r10.frozen 1
  have d2 := r10.cell 2
  have fd2 := r10.frozen 2
  have d3 := r10.cell 3
  have fd3 := r10.frozen 3
  have d4 := r10.cell 4
  have fd4 := r10.frozen 4
  have d5 := r10.cell 5
  have fd5 := r10.frozen 5
  have d6 := r10.cell 6
  have fd6 := r10.frozen 6
  have d7 := r10.cell 7
  have fd7 := r10.frozen 7
  have d8 := r10.cell 8
  have fd8 := r10.frozen 8
  simp only [List.getElem?_cons_succ, List.getElem?_cons_zero] at d0 d1 d2 d3 d4 d5 d6 d7 d8
  clear hz0 hz2 hz4 hz7 hz10 hgl hg had hw1 hw3 hw5 hw6 hw8 hw9 h40 hp hq
  go_wp2_with fail
  refine bodyPost_ret (v := .agg #[.int .u64 (x0 : Int), .int .u64 (x1 : Int), .int .u64 (x2 : Int), .int .u64 (x3 : Int), .int .u64 (x4 : Int), .int .i64 N, .slice A on.length c, .bool f, .slice B l.length k]) (by simp [results, Tryz.results38, go_sem, *]) rfl ?_
  rw [hx0, hx1, hx2, hx3, hx4]
  refine ⟨A, c, B, k, rfl, ?_, ?_, ?_, nu.less (Nat.le_of_lt HLU.out), nt.less (Nat.le_of_lt HLT.out)⟩
  · refine Bt.setNew ?_ nu HLU.out _; refine Bt.setNew ?_ nu HLU.out _; refine Bt.setNew ?_ nu HLU.out _; refine Bt.setNew ?_ nu HLU.out _; refine Bt.setNew ?_ nu HLU.out _; refine Bt.setNew ?_ nu HLU.out _; refine Bt.setNew ?_ nu HLU.out _; refine Bt.setNew ?_ nu HLU.out _; refine Bt.setNew ?_ nu HLU.out _; exact u10
  · refine Tk.setNew ?_ nt HLT.out _; refine Tk.setNew ?_ nt HLT.out _; refine Tk.setNew ?_ nt HLT.out _; refine Tk.setNew ?_ nt HLT.out _; refine Tk.setNew ?_ nt HLT.out _; refine Tk.setNew ?_ nt HLT.out _; refine Tk.setNew ?_ nt HLT.out _; refine Tk.setNew ?_ nt HLT.out _; refine Tk.setNew ?_ nt HLT.out _; exact t10
  · refine Below.setCell ?_ (by show w.heap.size ≤ w.heap.size; exact Nat.le_refl _) _; refine Below.setCell ?_ (by show w.heap.size ≤ w.heap.size; exact Nat.le_refl _) _; refine Below.setCell ?_ (by show w.heap.size ≤ w.heap.size; exact Nat.le_refl _) _; refine Below.setCell ?_ (by show w.heap.size ≤ w.heap.size; exact Nat.le_refl _) _; refine Below.setCell ?_ (by show w.heap.size ≤ w.heap.size; exact Nat.le_refl _) _; refine Below.setCell ?_ (by show w.heap.size ≤ w.heap.size; exact Nat.le_refl _) _; refine Below.setCell ?_ (by show w.heap.size ≤ w.heap.size; exact Nat.le_refl _) _; refine Below.setCell ?_ (by show w.heap.size ≤ w.heap.size; exact Nat.le_refl _) _; refine Below.setCell ?_ (by show w.heap.size ≤ w.heap.size; exact Nat.le_refl _) _; exact bw10
end Go.Proofs.YtieheieiolobaaaGreatDoor

namespace Go.Proofs.YtieheieiolobaaaGreatDoor
open Go.RowKit

set_option maxHeartbeats 8000000 in
set_option maxRecDepth 100000 in
theorem writeAgg_proof (by_ d0 d1 d2 d3 d4 : Nat) (n : Int) (on : List Int) (f g : Bool) (l m : List Pr) (A B C : Option Addr) (c k j : Nat) (w : World) (hx : Bt w (.agg #[.int .i64 n, .slice A on.length c]) n on) (ht : Tk w (.agg #[.bool f, .slice B l.length k]) f l) (hp : Tk w (.agg #[.bool g, .slice C m.length j]) g m) (h9m : m.length ≤ 1000000) (hr : rightT m = false) :
    Calls Tryz.prog 35 #[.agg #[.int .u64 (by_ : Int), .bool g, .slice C m.length j, .int .u64 (d0 : Int), .int .u64 (d1 : Int), .int .u64 (d2 : Int), .int .u64 (d3 : Int), .int .u64 (d4 : Int), .int .i64 n, .slice A on.length c, .bool f, .slice B l.length k]] w (Panics 1 w) := by
  obtain ⟨w0, hw0⟩ : ∃ w0, w0 = w.alloc (.cells #[.int .u64 (by_ : Int), .bool g, .slice C m.length j, .int .u64 (d0 : Int), .int .u64 (d1 : Int), .int .u64 (d2 : Int), .int .u64 (d3 : Int), .int .u64 (d4 : Int), .int .i64 n, .slice A on.length c, .bool f, .slice B l.length k] 41) := ⟨_, rfl⟩
  have b0 : Below w.heap.size w w0 := by rw [hw0]; exact (Below.refl _ _).alloc (Nat.le_refl _) _
  have r0 : RowAt w0 w.heap.size 41 [.int .u64 (by_ : Int), .bool g, .slice C m.length j, .int .u64 (d0 : Int), .int .u64 (d1 : Int), .int .u64 (d2 : Int), .int .u64 (d3 : Int), .int .u64 (d4 : Int), .int .i64 n, .slice A on.length c, .bool f, .slice B l.length k] := by rw [hw0]; exact RowAt.new w 41 #[.int .u64 (by_ : Int), .bool g, .slice C m.length j, .int .u64 (d0 : Int), .int .u64 (d1 : Int), .int .u64 (d2 : Int), .int .u64 (d3 : Int), .int .u64 (d4 : Int), .int .i64 n, .slice A on.length c, .bool f, .slice B l.length k]
  have x0 := hx.on b0
  have t0 := ht.on b0
  have p0 := hp.on b0
  have HW := Lib.hid hw0
  clear hw0 hx ht hp
  go_enter Tryz.func35, Tryz.ntmps35
  go_wp2_with fail
  rw [← HW.out]
  with_reducible refine (Encode_eq _ g m _ ⟨#[]⟩ 1 (encT_no hr) p0 h9m).mono ?_
  rintro e w1 ⟨rfl, b1⟩
  have bw1 := b0.trans (b1.mono b0.size)
  clear x0 t0 p0 r0 b1
  go_wp2_with fail
  with_reducible refine (sureS_no _ 1 _ (by decide)).mono ?_
  rintro e w2 ⟨rfl, b2⟩
  exact ⟨rfl, rfl, bw1.trans (b2.mono bw1.size)⟩

set_option maxHeartbeats 8000000 in
set_option maxRecDepth 100000 in
theorem writeAgg_vote (by_ d0 d1 d2 d3 d4 : Nat) (n : Int) (on : List Int) (f g : Bool) (l m : List Pr) (A B C : Option Addr) (c k j : Nat) (w : World) (hx : Bt w (.agg #[.int .i64 n, .slice A on.length c]) n on) (ht : Tk w (.agg #[.bool f, .slice B l.length k]) f l) (hp : Tk w (.agg #[.bool g, .slice C m.length j]) g m) (h9m : m.length ≤ 1000000) (P : ByteArray) (hP : P.data.toList = encB g m) (hr : rightT m = true) (hV : ∀ W, Bt W (.agg #[.int .i64 n, .slice A on.length c]) n on → Tk W (.agg #[.bool f, .slice B l.length k]) f l → Calls Tryz.prog 29 #[.agg #[.int .u64 (d0 : Int), .int .u64 (d1 : Int), .int .u64 (d2 : Int), .int .u64 (d3 : Int), .int .u64 (d4 : Int), .int .i64 n, .slice A on.length c, .bool f, .slice B l.length k]] W (Panics 1 W)) :
    Calls Tryz.prog 35 #[.agg #[.int .u64 (by_ : Int), .bool g, .slice C m.length j, .int .u64 (d0 : Int), .int .u64 (d1 : Int), .int .u64 (d2 : Int), .int .u64 (d3 : Int), .int .u64 (d4 : Int), .int .i64 n, .slice A on.length c, .bool f, .slice B l.length k]] w (Panics 1 w) := by
  obtain ⟨w0, hw0⟩ : ∃ w0, w0 = w.alloc (.cells #[.int .u64 (by_ : Int), .bool g, .slice C m.length j, .int .u64 (d0 : Int), .int .u64 (d1 : Int), .int .u64 (d2 : Int), .int .u64 (d3 : Int), .int .u64 (d4 : Int), .int .i64 n, .slice A on.length c, .bool f, .slice B l.length k] 41) := ⟨_, rfl⟩
  have b0 : Below w.heap.size w w0 := by rw [hw0]; exact (Below.refl _ _).alloc (Nat.le_refl _) _
  have r0 : RowAt w0 w.heap.size 41 [.int .u64 (by_ : Int), .bool g, .slice C m.length j, .int .u64 (d0 : Int), .int .u64 (d1 : Int), .int .u64 (d2 : Int), .int .u64 (d3 : Int), .int .u64 (d4 : Int), .int .i64 n, .slice A on.length c, .bool f, .slice B l.length k] := by rw [hw0]; exact RowAt.new w 41 #[.int .u64 (by_ : Int), .bool g, .slice C m.length j, .int .u64 (d0 : Int), .int .u64 (d1 : Int), .int .u64 (d2 : Int), .int .u64 (d3 : Int), .int .u64 (d4 : Int), .int .i64 n, .slice A on.length c, .bool f, .slice B l.length k]
  have x0 := hx.on b0
  have t0 := ht.on b0
  have p0 := hp.on b0
  have HW := Lib.hid hw0
  clear hw0 hx ht hp
  go_enter Tryz.func35, Tryz.ntmps35
  go_wp2_with fail
  rw [← HW.out]
  with_reducible refine (Encode_eq _ g m _ P 0 (encT_yes hr hP) p0 h9m).mono ?_
  rintro e w1 ⟨rfl, b1⟩
  have bw1 := b0.trans (b1.mono b0.size)
  have r1 := r0.on b1
  have t1 := t0.on b1
  have x1 := x0.on b1
  clear x0 t0 p0 r0 b1
  have c0 := r1.cell 0
  have c1 := r1.cell 1
  have c2 := r1.cell 2
  have c3 := r1.cell 3
  have c4 := r1.cell 4
  have c5 := r1.cell 5
  have c6 := r1.cell 6
  have c7 := r1.cell 7
  have c8 := r1.cell 8
  have c9 := r1.cell 9
  have c10 := r1.cell 10
  have c11 := r1.cell 11
  simp only [List.getElem?_cons_succ, List.getElem?_cons_zero] at c0 c1 c2 c3 c4 c5 c6 c7 c8 c9 c10 c11
  go_wp2_with fail
  with_reducible refine (sureS_ok _ _).mono ?_
  rintro e w2 ⟨rfl, rfl⟩
  go_wp2_with fail
  with_reducible refine (hV _ x1 t1).mono ?_
  rintro e w2 ⟨rfl, b2⟩
  exact ⟨rfl, rfl, bw1.trans (b2.mono bw1.size)⟩

set_option maxHeartbeats 8000000 in
set_option maxRecDepth 100000 in
theorem writeAgg_long (by_ d0 d1 d2 d3 d4 : Nat) (n : Int) (on : List Int) (f g : Bool) (l m : List Pr) (A B C : Option Addr) (c k j : Nat) (w : World) (hx : Bt w (.agg #[.int .i64 n, .slice A on.length c]) n on) (ht : Tk w (.agg #[.bool f, .slice B l.length k]) f l) (hp : Tk w (.agg #[.bool g, .slice C m.length j]) g m) (h9m : m.length ≤ 1000000) (P : ByteArray) (hP : P.data.toList = encB g m) (hr : rightT m = true) (V D S : ByteArray) (hD : D.data.toList = wordsB [by_]) (hV : ∀ W, Bt W (.agg #[.int .i64 n, .slice A on.length c]) n on → Tk W (.agg #[.bool f, .slice B l.length k]) f l → Calls Tryz.prog 29 #[.agg #[.int .u64 (d0 : Int), .int .u64 (d1 : Int), .int .u64 (d2 : Int), .int .u64 (d3 : Int), .int .u64 (d4 : Int), .int .i64 n, .slice A on.length c, .bool f, .slice B l.length k]] W fun e w' => e = .returned (.string V) ∧ Below W.heap.size W w') (y : Int) (hy : (y == 0) = false) (hJ : joinOf D.data.toList [P.data.toList, V.data.toList] = (S.data.toList, y)) :
    Calls Tryz.prog 35 #[.agg #[.int .u64 (by_ : Int), .bool g, .slice C m.length j, .int .u64 (d0 : Int), .int .u64 (d1 : Int), .int .u64 (d2 : Int), .int .u64 (d3 : Int), .int .u64 (d4 : Int), .int .i64 n, .slice A on.length c, .bool f, .slice B l.length k]] w (Panics y w) := by
  obtain ⟨w0, hw0⟩ : ∃ w0, w0 = w.alloc (.cells #[.int .u64 (by_ : Int), .bool g, .slice C m.length j, .int .u64 (d0 : Int), .int .u64 (d1 : Int), .int .u64 (d2 : Int), .int .u64 (d3 : Int), .int .u64 (d4 : Int), .int .i64 n, .slice A on.length c, .bool f, .slice B l.length k] 41) := ⟨_, rfl⟩
  have b0 : Below w.heap.size w w0 := by rw [hw0]; exact (Below.refl _ _).alloc (Nat.le_refl _) _
  have r0 : RowAt w0 w.heap.size 41 [.int .u64 (by_ : Int), .bool g, .slice C m.length j, .int .u64 (d0 : Int), .int .u64 (d1 : Int), .int .u64 (d2 : Int), .int .u64 (d3 : Int), .int .u64 (d4 : Int), .int .i64 n, .slice A on.length c, .bool f, .slice B l.length k] := by rw [hw0]; exact RowAt.new w 41 #[.int .u64 (by_ : Int), .bool g, .slice C m.length j, .int .u64 (d0 : Int), .int .u64 (d1 : Int), .int .u64 (d2 : Int), .int .u64 (d3 : Int), .int .u64 (d4 : Int), .int .i64 n, .slice A on.length c, .bool f, .slice B l.length k]
  have x0 := hx.on b0
  have t0 := ht.on b0
  have p0 := hp.on b0
  have HW := Lib.hid hw0
  clear hw0 hx ht hp
  go_enter Tryz.func35, Tryz.ntmps35
  go_wp2_with fail
  rw [← HW.out]
  with_reducible refine (Encode_eq _ g m _ P 0 (encT_yes hr hP) p0 h9m).mono ?_
  rintro e w1 ⟨rfl, b1⟩
  have bw1 := b0.trans (b1.mono b0.size)
  have r1 := r0.on b1
  have t1 := t0.on b1
  have x1 := x0.on b1
  clear x0 t0 p0 r0 b1
  have c0 := r1.cell 0
  have c1 := r1.cell 1
  have c2 := r1.cell 2
  have c3 := r1.cell 3
  have c4 := r1.cell 4
  have c5 := r1.cell 5
  have c6 := r1.cell 6
  have c7 := r1.cell 7
  have c8 := r1.cell 8
  have c9 := r1.cell 9
  have c10 := r1.cell 10
  have c11 := r1.cell 11
  simp only [List.getElem?_cons_succ, List.getElem?_cons_zero] at c0 c1 c2 c3 c4 c5 c6 c7 c8 c9 c10 c11
  go_wp2_with fail
  with_reducible refine (sureS_ok _ _).mono ?_
  rintro e w2 ⟨rfl, rfl⟩
  go_wp2_with fail
  with_reducible refine (hV _ x1 t1).mono ?_
  rintro e w2 ⟨rfl, b2⟩
  have bw2 := bw1.trans (b2.mono bw1.size)
  have r2 := r1.on b2
  clear r1 t1 x1 b2 bw1 c0 c1 c2 c3 c4 c5 c6 c7 c8 c9 c10 c11
  have c0 := r2.cell 0
  have c1 := r2.cell 1
  have c2 := r2.cell 2
  have c3 := r2.cell 3
  have c4 := r2.cell 4
  have c5 := r2.cell 5
  have c6 := r2.cell 6
  have c7 := r2.cell 7
  have c8 := r2.cell 8
  have c9 := r2.cell 9
  have c10 := r2.cell 10
  have c11 := r2.cell 11
  simp only [List.getElem?_cons_succ, List.getElem?_cons_zero] at c0 c1 c2 c3 c4 c5 c6 c7 c8 c9 c10 c11
  have w2s := bw2.size
  have cD := bytesOf_any (.slice (some ⟨w2.heap.size, 0, none⟩) 1 1) [by_] (w2.alloc (.cells #[.int .u64 (by_ : Int)] 22)) (Elems.row (enc := fun n : Nat => Value.int .u64 (n : Int)) (xs := [by_]) (RowAt.new w2 22 #[.int .u64 (by_ : Int)])) (by simp)
  rw [← hD, mk_list] at cD
  have hDs : D.size = 8 := by rw [← size_list, hD, wordsB_length]; rfl
  have HJ := Lib.hid hJ
  clear hJ hP hD
  go_wp2_with fail
  with_reducible refine cD.mono ?_
  rintro e w3 ⟨rfl, b3⟩
  have bw3 := (bw2.alloc bw2.size (.cells #[.int .u64 (by_ : Int)] 22)).trans (b3.mono (by simp; omega))
  clear cD r2 bw2 b3 c0 c1 c2 c3 c4 c5 c6 c7 c8 c9 c10 c11
  have cJ := Join_two D P V S y w3.heap.size _ (RowAt.new w3 9 #[.string P, .string V]) HJ.out (by omega)
  go_wp2_with fail
  with_reducible refine cJ.mono ?_
  rintro e w4 ⟨rfl, b4⟩
  have bw4 := (bw3.alloc bw3.size (.cells #[.string P, .string V] 9)).trans (b4.mono (by have := bw3.size; simp; omega))
  clear cJ b4
  go_wp2_with fail
  with_reducible refine (sureS_no _ y _ hy).mono ?_
  rintro e w5 ⟨rfl, b5⟩
  exact ⟨rfl, rfl, bw4.trans (b5.mono bw4.size)⟩

set_option maxHeartbeats 8000000 in
set_option maxRecDepth 100000 in
theorem writeAgg_ok (by_ d0 d1 d2 d3 d4 : Nat) (n : Int) (on : List Int) (f g : Bool) (l m : List Pr) (A B C : Option Addr) (c k j : Nat) (w : World) (hx : Bt w (.agg #[.int .i64 n, .slice A on.length c]) n on) (ht : Tk w (.agg #[.bool f, .slice B l.length k]) f l) (hp : Tk w (.agg #[.bool g, .slice C m.length j]) g m) (h9m : m.length ≤ 1000000) (P : ByteArray) (hP : P.data.toList = encB g m) (hr : rightT m = true) (V D S : ByteArray) (hD : D.data.toList = wordsB [by_]) (hV : ∀ W, Bt W (.agg #[.int .i64 n, .slice A on.length c]) n on → Tk W (.agg #[.bool f, .slice B l.length k]) f l → Calls Tryz.prog 29 #[.agg #[.int .u64 (d0 : Int), .int .u64 (d1 : Int), .int .u64 (d2 : Int), .int .u64 (d3 : Int), .int .u64 (d4 : Int), .int .i64 n, .slice A on.length c, .bool f, .slice B l.length k]] W fun e w' => e = .returned (.string V) ∧ Below W.heap.size W w') (hJ : joinOf D.data.toList [P.data.toList, V.data.toList] = (S.data.toList, 0)) :
    Calls Tryz.prog 35 #[.agg #[.int .u64 (by_ : Int), .bool g, .slice C m.length j, .int .u64 (d0 : Int), .int .u64 (d1 : Int), .int .u64 (d2 : Int), .int .u64 (d3 : Int), .int .u64 (d4 : Int), .int .i64 n, .slice A on.length c, .bool f, .slice B l.length k]] w fun e w' => e = .returned (.string S) ∧ Below w.heap.size w w' := by
  obtain ⟨w0, hw0⟩ : ∃ w0, w0 = w.alloc (.cells #[.int .u64 (by_ : Int), .bool g, .slice C m.length j, .int .u64 (d0 : Int), .int .u64 (d1 : Int), .int .u64 (d2 : Int), .int .u64 (d3 : Int), .int .u64 (d4 : Int), .int .i64 n, .slice A on.length c, .bool f, .slice B l.length k] 41) := ⟨_, rfl⟩
  have b0 : Below w.heap.size w w0 := by rw [hw0]; exact (Below.refl _ _).alloc (Nat.le_refl _) _
  have r0 : RowAt w0 w.heap.size 41 [.int .u64 (by_ : Int), .bool g, .slice C m.length j, .int .u64 (d0 : Int), .int .u64 (d1 : Int), .int .u64 (d2 : Int), .int .u64 (d3 : Int), .int .u64 (d4 : Int), .int .i64 n, .slice A on.length c, .bool f, .slice B l.length k] := by rw [hw0]; exact RowAt.new w 41 #[.int .u64 (by_ : Int), .bool g, .slice C m.length j, .int .u64 (d0 : Int), .int .u64 (d1 : Int), .int .u64 (d2 : Int), .int .u64 (d3 : Int), .int .u64 (d4 : Int), .int .i64 n, .slice A on.length c, .bool f, .slice B l.length k]
  have x0 := hx.on b0
  have t0 := ht.on b0
  have p0 := hp.on b0
  have HW := Lib.hid hw0
  clear hw0 hx ht hp
  go_enter Tryz.func35, Tryz.ntmps35
  go_wp2_with fail
  rw [← HW.out]
  with_reducible refine (Encode_eq _ g m _ P 0 (encT_yes hr hP) p0 h9m).mono ?_
  rintro e w1 ⟨rfl, b1⟩
  have bw1 := b0.trans (b1.mono b0.size)
  have r1 := r0.on b1
  have t1 := t0.on b1
  have x1 := x0.on b1
  clear x0 t0 p0 r0 b1
  have c0 := r1.cell 0
  have c1 := r1.cell 1
  have c2 := r1.cell 2
  have c3 := r1.cell 3
  have c4 := r1.cell 4
  have c5 := r1.cell 5
  have c6 := r1.cell 6
  have c7 := r1.cell 7
  have c8 := r1.cell 8
  have c9 := r1.cell 9
  have c10 := r1.cell 10
  have c11 := r1.cell 11
  simp only [List.getElem?_cons_succ, List.getElem?_cons_zero] at c0 c1 c2 c3 c4 c5 c6 c7 c8 c9 c10 c11
  go_wp2_with fail
  with_reducible refine (sureS_ok _ _).mono ?_
  rintro e w2 ⟨rfl, rfl⟩
  go_wp2_with fail
  with_reducible refine (hV _ x1 t1).mono ?_
  rintro e w2 ⟨rfl, b2⟩
  have bw2 := bw1.trans (b2.mono bw1.size)
  have r2 := r1.on b2
  clear r1 t1 x1 b2 bw1 c0 c1 c2 c3 c4 c5 c6 c7 c8 c9 c10 c11
  have c0 := r2.cell 0
  have c1 := r2.cell 1
  have c2 := r2.cell 2
  have c3 := r2.cell 3
  have c4 := r2.cell 4
  have c5 := r2.cell 5
  have c6 := r2.cell 6
  have c7 := r2.cell 7
  have c8 := r2.cell 8
  have c9 := r2.cell 9
  have c10 := r2.cell 10
  have c11 := r2.cell 11
  simp only [List.getElem?_cons_succ, List.getElem?_cons_zero] at c0 c1 c2 c3 c4 c5 c6 c7 c8 c9 c10 c11
  have w2s := bw2.size
  have cD := bytesOf_any (.slice (some ⟨w2.heap.size, 0, none⟩) 1 1) [by_] (w2.alloc (.cells #[.int .u64 (by_ : Int)] 22)) (Elems.row (enc := fun n : Nat => Value.int .u64 (n : Int)) (xs := [by_]) (RowAt.new w2 22 #[.int .u64 (by_ : Int)])) (by simp)
  rw [← hD, mk_list] at cD
  have hDs : D.size = 8 := by rw [← size_list, hD, wordsB_length]; rfl
  have HJ := Lib.hid hJ
  clear hJ hP hD
  go_wp2_with fail
  with_reducible refine cD.mono ?_
  rintro e w3 ⟨rfl, b3⟩
  have bw3 := (bw2.alloc bw2.size (.cells #[.int .u64 (by_ : Int)] 22)).trans (b3.mono (by simp; omega))
  clear cD r2 bw2 b3 c0 c1 c2 c3 c4 c5 c6 c7 c8 c9 c10 c11
  have cJ := Join_two D P V S 0 w3.heap.size _ (RowAt.new w3 9 #[.string P, .string V]) HJ.out (by omega)
  go_wp2_with fail
  with_reducible refine cJ.mono ?_
  rintro e w4 ⟨rfl, b4⟩
  have bw4 := (bw3.alloc bw3.size (.cells #[.string P, .string V] 9)).trans (b4.mono (by have := bw3.size; simp; omega))
  clear cJ b4
  go_wp2_with fail
  with_reducible refine (sureS_ok _ _).mono ?_
  rintro e w5 ⟨rfl, rfl⟩
  go_wp2_with fail
  go_ret
  exact ⟨rfl, bw4⟩

set_option maxHeartbeats 8000000 in
set_option maxRecDepth 100000 in
theorem readAgg_split (s : ByteArray) (w : World) (hd : ByteArray) (ps : List ByteArray) (y : Int) (h : splitOf s.data.toList 8 2 = (hd.data.toList, txts ps, y)) (hy : (y == 0) = false) :
    Calls Tryz.prog 44 #[.string s] w (Panics y w) := by
  obtain ⟨w0, hw0⟩ : ∃ w0, w0 = w.alloc (.cells #[.int .u64 0, .bool false, .slice none 0 0, .int .u64 0, .int .u64 0, .int .u64 0, .int .u64 0, .int .u64 0, .int .i64 0, .slice none 0 0, .bool false, .slice none 0 0] 41) := ⟨_, rfl⟩
  have b0 : Below w.heap.size w w0 := by rw [hw0]; exact (Below.refl _ _).alloc (Nat.le_refl _) _
  have hz0 : w0.heap.size = w.heap.size + 1 := by rw [hw0]; simp
  have r0 : RowAt w0 w.heap.size 41 [.int .u64 0, .bool false, .slice none 0 0, .int .u64 0, .int .u64 0, .int .u64 0, .int .u64 0, .int .u64 0, .int .i64 0, .slice none 0 0, .bool false, .slice none 0 0] := by rw [hw0]; exact RowAt.new w 41 #[.int .u64 0, .bool false, .slice none 0 0, .int .u64 0, .int .u64 0, .int .u64 0, .int .u64 0, .int .u64 0, .int .i64 0, .slice none 0 0, .bool false, .slice none 0 0]
  have HW := Lib.hid hw0
  clear hw0
  go_enter Tryz.func44, Tryz.ntmps44
  go_wp2_with fail
  rw [← HW.out]
  with_reducible refine (messageOf_no s 8 hd ps y _ h hy).mono ?_
  rintro e w1 ⟨rfl, b1⟩
  exact ⟨rfl, rfl, b0.trans (b1.mono b0.size)⟩

set_option maxHeartbeats 8000000 in
set_option maxRecDepth 100000 in
theorem readAgg_proof (s : ByteArray) (w : World) (hd p q : ByteArray) (hsp : splitOf s.data.toList 8 2 = (hd.data.toList, txts [p, q], 0)) (h8 : hd.size = 8) (hp : p.size ≤ 1000000) (y : Int) (f : Bool) (l : List Pr) (ht : decB p.data.toList = (y, f, l)) (hy : (y == 0) = false) :
    Calls Tryz.prog 44 #[.string s] w (Panics y w) := by
  obtain ⟨w0, hw0⟩ : ∃ w0, w0 = w.alloc (.cells #[.int .u64 0, .bool false, .slice none 0 0, .int .u64 0, .int .u64 0, .int .u64 0, .int .u64 0, .int .u64 0, .int .i64 0, .slice none 0 0, .bool false, .slice none 0 0] 41) := ⟨_, rfl⟩
  have b0 : Below w.heap.size w w0 := by rw [hw0]; exact (Below.refl _ _).alloc (Nat.le_refl _) _
  have hz0 : w0.heap.size = w.heap.size + 1 := by rw [hw0]; simp
  have r0 : RowAt w0 w.heap.size 41 [.int .u64 0, .bool false, .slice none 0 0, .int .u64 0, .int .u64 0, .int .u64 0, .int .u64 0, .int .u64 0, .int .i64 0, .slice none 0 0, .bool false, .slice none 0 0] := by rw [hw0]; exact RowAt.new w 41 #[.int .u64 0, .bool false, .slice none 0 0, .int .u64 0, .int .u64 0, .int .u64 0, .int .u64 0, .int .u64 0, .int .i64 0, .slice none 0 0, .bool false, .slice none 0 0]
  have HW := Lib.hid hw0
  clear hw0
  go_enter Tryz.func44, Tryz.ntmps44
  go_wp2_with fail
  rw [← HW.out]
  have HT := Lib.hid ht
  have HS := Lib.hid hsp
  clear hsp ht
  with_reducible refine (messageOf_ok s 8 hd p q _ HS.out).mono ?_
  rintro e w1 ⟨g, ad, c1, rfl, m1, hg, ⟨had, k0, k1⟩, hc1, b1⟩
  have bw1 := b0.trans (b1.mono b0.size)
  have r1 := r0.on b1
  have hgl := m1.lt
  simp only [Addr.add_zero', Addr.add_succ', Nat.zero_add] at k0 k1
  clear r0 b1 HS
  obtain ⟨w2, hw2⟩ : ∃ w2, w2 = w1.alloc (.cells #[.int .u64 0, .bool false, .slice none 0 0, .int .u64 0, .int .u64 0, .int .u64 0, .int .u64 0, .int .u64 0, .int .i64 0, .slice none 0 0, .bool false, .slice none 0 0] 41) := ⟨_, rfl⟩
  have hz2 : w2.heap.size = w1.heap.size + 1 := by rw [hw2]; simp
  have bw2 : Below w.heap.size w w2 := by rw [hw2]; exact bw1.alloc bw1.size _
  have v2 : RowAt w2 w1.heap.size 41 [.int .u64 0, .bool false, .slice none 0 0, .int .u64 0, .int .u64 0, .int .u64 0, .int .u64 0, .int .u64 0, .int .i64 0, .slice none 0 0, .bool false, .slice none 0 0] := by rw [hw2]; exact RowAt.new w1 41 #[.int .u64 0, .bool false, .slice none 0 0, .int .u64 0, .int .u64 0, .int .u64 0, .int .u64 0, .int .u64 0, .int .i64 0, .slice none 0 0, .bool false, .slice none 0 0]
  have r2 : RowAt w2 w.heap.size 41 [.int .u64 0, .bool false, .slice none 0 0, .int .u64 0, .int .u64 0, .int .u64 0, .int .u64 0, .int .u64 0, .int .i64 0, .slice none 0 0, .bool false, .slice none 0 0] := by rw [hw2]; exact r1.alloc _
  have m2 : RowAt w2 g 103 [.string hd, .slice (some ad) 2 c1] := by rw [hw2]; exact m1.alloc _
  have k20 : w2.cell? ad = some (.string p) := by rw [hw2]; exact cellA k0 _
  have k21 : w2.cell? ⟨ad.block, ad.off + 1, none⟩ = some (.string q) := by rw [hw2]; exact cellA k1 _
  have HW2 := Lib.hid hw2
  have hw1 := bw1.size
  clear hw2 r1 m1 k0 k1
  have cD := number_row g _ hd _ w2 m2 (by omega) (by omega)
  obtain ⟨x0, hx0⟩ : ∃ x, num8 hd = x := ⟨_, rfl⟩
  rw [hx0] at cD
  go_wp2_with fail
  rw [← HW2.out]
  with_reducible refine cD.mono ?_
  rintro e w3 ⟨rfl, m3, b3⟩
  have bw3 := But.below bw2 b3 (by omega) bw2.size
  have hw3 := b3.size
  have r3 := b3.rowAt r2 (by omega)
  have v3 := b3.rowAt v2 (by omega)
  have k30 := (b3.cell (p := ad) (by omega) (by omega)).trans k20
  have k31 := (b3.cell (p := ⟨ad.block, ad.off + 1, none⟩) (by show ad.block < _; omega) (by show ad.block ≠ _; omega)).trans k21
  clear r2 v2 m2 k20 k21 cD b3 bw2 bw1
  obtain ⟨w4, hw4⟩ : ∃ w4, w4 = w3.setCell ⟨w1.heap.size, 0, none⟩ (.int .u64 (x0 : Int)) := ⟨_, rfl⟩
  have hz4 : w4.heap.size = w3.heap.size := by rw [hw4]; simp only [setCell_size]
  have v4 : RowAt w4 w1.heap.size 41 [.int .u64 (x0 : Int), .bool false, .slice none 0 0, .int .u64 0, .int .u64 0, .int .u64 0, .int .u64 0, .int .u64 0, .int .i64 0, .slice none 0 0, .bool false, .slice none 0 0] := by rw [hw4]; exact v3.set 0 _
  have r4 : RowAt w4 w.heap.size 41 [.int .u64 0, .bool false, .slice none 0 0, .int .u64 0, .int .u64 0, .int .u64 0, .int .u64 0, .int .u64 0, .int .i64 0, .slice none 0 0, .bool false, .slice none 0 0] := by rw [hw4]; exact r3.far (by show w.heap.size ≠ w1.heap.size; omega) _
  have m4 : RowAt w4 g 103 [.string (left8 hd), .slice (some ad) 2 c1] := by rw [hw4]; exact m3.far (by show g ≠ w1.heap.size; omega) _
  have k41 : w4.cell? ⟨ad.block, ad.off + 1, none⟩ = some (.string q) := by rw [hw4]; simp only [World.cell?_setCell_other _ _ ⟨ad.block, ad.off + 1, none⟩ _ (farC (show w1.heap.size ≠ ad.block by omega) _ _)]; exact k31
  have k40 : w4.cell? ad = some (.string p) := by rw [hw4]; simp only [World.cell?_setCell_other _ _ ad _ (farA (show w1.heap.size ≠ ad.block by omega) _)]; exact k30
  have bw4 : Below w.heap.size w w4 := by rw [hw4]; exact bw3.setCell (by show w.heap.size ≤ w1.heap.size; omega) _
  have HW4 := Lib.hid hw4
  have c0 := v3.cell 0
  have fc0 := v3.frozen 0
  simp only [List.getElem?_cons_succ, List.getElem?_cons_zero] at c0
  clear hw4 v3 r3 m3 k31 bw3
  go_upto_region 4 with (fail)
  rw [← HW4.out]
  have n1 := m4.cell 1
  simp only [List.getElem?_cons_succ, List.getElem?_cons_zero] at n1
  clear k30 c0 fc0
  go_wp2_with fail
  with_reducible refine (Decode_nw p _ y f l HT.out hp).mono ?_
  rintro e w8 ⟨B, k, rfl, -, b8, -⟩
  have bw8 := bw4.trans (b8.mono bw4.size)
  clear n1 k40
  go_wp2_with fail
  with_reducible refine (sureT_no _ _ _ _ y _ hy).mono ?_
  rintro e w9 ⟨rfl, b9⟩
  exact ⟨rfl, rfl, bw8.trans (b9.mono bw8.size)⟩

set_option maxHeartbeats 8000000 in
set_option maxRecDepth 100000 in
theorem readAgg_vote (s : ByteArray) (w : World) (hd p q : ByteArray) (hsp : splitOf s.data.toList 8 2 = (hd.data.toList, txts [p, q], 0)) (h8 : hd.size = 8) (hp : p.size ≤ 1000000) (h : Bool) (m : List Pr) (ht : decB p.data.toList = (0, h, m)) (y : Int) (hV : ∀ W, Calls Tryz.prog 38 #[.string q] W (Panics y W)) :
    Calls Tryz.prog 44 #[.string s] w (Panics y w) := by
  obtain ⟨w0, hw0⟩ : ∃ w0, w0 = w.alloc (.cells #[.int .u64 0, .bool false, .slice none 0 0, .int .u64 0, .int .u64 0, .int .u64 0, .int .u64 0, .int .u64 0, .int .i64 0, .slice none 0 0, .bool false, .slice none 0 0] 41) := ⟨_, rfl⟩
  have b0 : Below w.heap.size w w0 := by rw [hw0]; exact (Below.refl _ _).alloc (Nat.le_refl _) _
  have hz0 : w0.heap.size = w.heap.size + 1 := by rw [hw0]; simp
  have r0 : RowAt w0 w.heap.size 41 [.int .u64 0, .bool false, .slice none 0 0, .int .u64 0, .int .u64 0, .int .u64 0, .int .u64 0, .int .u64 0, .int .i64 0, .slice none 0 0, .bool false, .slice none 0 0] := by rw [hw0]; exact RowAt.new w 41 #[.int .u64 0, .bool false, .slice none 0 0, .int .u64 0, .int .u64 0, .int .u64 0, .int .u64 0, .int .u64 0, .int .i64 0, .slice none 0 0, .bool false, .slice none 0 0]
  have HW := Lib.hid hw0
  clear hw0
  go_enter Tryz.func44, Tryz.ntmps44
  go_wp2_with fail
  rw [← HW.out]
  have HT := Lib.hid ht
  have HS := Lib.hid hsp
  clear hsp ht
  with_reducible refine (messageOf_ok s 8 hd p q _ HS.out).mono ?_
  rintro e w1 ⟨g, ad, c1, rfl, m1, hg, ⟨had, k0, k1⟩, hc1, b1⟩
  have bw1 := b0.trans (b1.mono b0.size)
  have r1 := r0.on b1
  have hgl := m1.lt
  simp only [Addr.add_zero', Addr.add_succ', Nat.zero_add] at k0 k1
  clear r0 b1 HS
  obtain ⟨w2, hw2⟩ : ∃ w2, w2 = w1.alloc (.cells #[.int .u64 0, .bool false, .slice none 0 0, .int .u64 0, .int .u64 0, .int .u64 0, .int .u64 0, .int .u64 0, .int .i64 0, .slice none 0 0, .bool false, .slice none 0 0] 41) := ⟨_, rfl⟩
  have hz2 : w2.heap.size = w1.heap.size + 1 := by rw [hw2]; simp
  have bw2 : Below w.heap.size w w2 := by rw [hw2]; exact bw1.alloc bw1.size _
  have v2 : RowAt w2 w1.heap.size 41 [.int .u64 0, .bool false, .slice none 0 0, .int .u64 0, .int .u64 0, .int .u64 0, .int .u64 0, .int .u64 0, .int .i64 0, .slice none 0 0, .bool false, .slice none 0 0] := by rw [hw2]; exact RowAt.new w1 41 #[.int .u64 0, .bool false, .slice none 0 0, .int .u64 0, .int .u64 0, .int .u64 0, .int .u64 0, .int .u64 0, .int .i64 0, .slice none 0 0, .bool false, .slice none 0 0]
  have r2 : RowAt w2 w.heap.size 41 [.int .u64 0, .bool false, .slice none 0 0, .int .u64 0, .int .u64 0, .int .u64 0, .int .u64 0, .int .u64 0, .int .i64 0, .slice none 0 0, .bool false, .slice none 0 0] := by rw [hw2]; exact r1.alloc _
  have m2 : RowAt w2 g 103 [.string hd, .slice (some ad) 2 c1] := by rw [hw2]; exact m1.alloc _
  have k20 : w2.cell? ad = some (.string p) := by rw [hw2]; exact cellA k0 _
  have k21 : w2.cell? ⟨ad.block, ad.off + 1, none⟩ = some (.string q) := by rw [hw2]; exact cellA k1 _
  have HW2 := Lib.hid hw2
  have hw1 := bw1.size
  clear hw2 r1 m1 k0 k1
  have cD := number_row g _ hd _ w2 m2 (by omega) (by omega)
  obtain ⟨x0, hx0⟩ : ∃ x, num8 hd = x := ⟨_, rfl⟩
  rw [hx0] at cD
  go_wp2_with fail
  rw [← HW2.out]
  with_reducible refine cD.mono ?_
  rintro e w3 ⟨rfl, m3, b3⟩
  have bw3 := But.below bw2 b3 (by omega) bw2.size
  have hw3 := b3.size
  have r3 := b3.rowAt r2 (by omega)
  have v3 := b3.rowAt v2 (by omega)
  have k30 := (b3.cell (p := ad) (by omega) (by omega)).trans k20
  have k31 := (b3.cell (p := ⟨ad.block, ad.off + 1, none⟩) (by show ad.block < _; omega) (by show ad.block ≠ _; omega)).trans k21
  clear r2 v2 m2 k20 k21 cD b3 bw2 bw1
  obtain ⟨w4, hw4⟩ : ∃ w4, w4 = w3.setCell ⟨w1.heap.size, 0, none⟩ (.int .u64 (x0 : Int)) := ⟨_, rfl⟩
  have hz4 : w4.heap.size = w3.heap.size := by rw [hw4]; simp only [setCell_size]
  have v4 : RowAt w4 w1.heap.size 41 [.int .u64 (x0 : Int), .bool false, .slice none 0 0, .int .u64 0, .int .u64 0, .int .u64 0, .int .u64 0, .int .u64 0, .int .i64 0, .slice none 0 0, .bool false, .slice none 0 0] := by rw [hw4]; exact v3.set 0 _
  have r4 : RowAt w4 w.heap.size 41 [.int .u64 0, .bool false, .slice none 0 0, .int .u64 0, .int .u64 0, .int .u64 0, .int .u64 0, .int .u64 0, .int .i64 0, .slice none 0 0, .bool false, .slice none 0 0] := by rw [hw4]; exact r3.far (by show w.heap.size ≠ w1.heap.size; omega) _
  have m4 : RowAt w4 g 103 [.string (left8 hd), .slice (some ad) 2 c1] := by rw [hw4]; exact m3.far (by show g ≠ w1.heap.size; omega) _
  have k41 : w4.cell? ⟨ad.block, ad.off + 1, none⟩ = some (.string q) := by rw [hw4]; simp only [World.cell?_setCell_other _ _ ⟨ad.block, ad.off + 1, none⟩ _ (farC (show w1.heap.size ≠ ad.block by omega) _ _)]; exact k31
  have k40 : w4.cell? ad = some (.string p) := by rw [hw4]; simp only [World.cell?_setCell_other _ _ ad _ (farA (show w1.heap.size ≠ ad.block by omega) _)]; exact k30
  have bw4 : Below w.heap.size w w4 := by rw [hw4]; exact bw3.setCell (by show w.heap.size ≤ w1.heap.size; omega) _
  have HW4 := Lib.hid hw4
  have c0 := v3.cell 0
  have fc0 := v3.frozen 0
  simp only [List.getElem?_cons_succ, List.getElem?_cons_zero] at c0
  clear hw4 v3 r3 m3 k31 bw3
  go_upto_region 4 with (fail)
  rw [← HW4.out]
  have n1 := m4.cell 1
  simp only [List.getElem?_cons_succ, List.getElem?_cons_zero] at n1
  clear k30 c0 fc0
  go_wp2_with fail
  with_reducible refine (Decode_nw p _ 0 h m HT.out hp).mono ?_
  rintro e w5 ⟨C, j, rfl, u5, b5, nu⟩
  have bw5 := bw4.trans (b5.mono bw4.size)
  have hw5 := b5.size
  have r5 := r4.on b5
  have v5 := v4.on b5
  have m5 := m4.on b5
  have k51 := (b5.cell (p := ⟨ad.block, ad.off + 1, none⟩) (by show ad.block < _; omega)).trans k41
  clear n1 k40 r4 v4 m4 k41 b5 bw4
  go_wp2_with fail
  with_reducible refine (sureT_ok _ _ _ _ _).mono ?_
  rintro e w6 ⟨rfl, b6⟩
  have bw6 := bw5.trans (b6.mono bw5.size)
  have hw6 := b6.size
  have r6 := r5.on b6
  have v6 := v5.on b6
  have m6 := m5.on b6
  have u6 := u5.on b6
  have k61 := (b6.cell (p := ⟨ad.block, ad.off + 1, none⟩) (by show ad.block < _; omega)).trans k51
  clear r5 v5 m5 u5 k51 b6 bw5
  obtain ⟨w7, hw7⟩ : ∃ w7, w7 = (w6.setCell ⟨w1.heap.size, 1, none⟩ (.bool h)).setCell ⟨w1.heap.size, 2, none⟩ (.slice C m.length j) := ⟨_, rfl⟩
  have hz7 : w7.heap.size = w6.heap.size := by rw [hw7]; simp only [setCell_size]
  have v7 : RowAt w7 w1.heap.size 41 [.int .u64 (x0 : Int), .bool h, .slice C m.length j, .int .u64 0, .int .u64 0, .int .u64 0, .int .u64 0, .int .u64 0, .int .i64 0, .slice none 0 0, .bool false, .slice none 0 0] := by rw [hw7]; exact ((v6.set 1 _).set 2 _)
  have r7 : RowAt w7 w.heap.size 41 [.int .u64 0, .bool false, .slice none 0 0, .int .u64 0, .int .u64 0, .int .u64 0, .int .u64 0, .int .u64 0, .int .i64 0, .slice none 0 0, .bool false, .slice none 0 0] := by rw [hw7]; exact ((r6.far (by show w.heap.size ≠ w1.heap.size; omega) _).far (by show w.heap.size ≠ w1.heap.size; omega) _)
  have u7 : Tk w7 (.agg #[.bool h, .slice C m.length j]) h m := by rw [hw7]; exact (u6.setNew nu (by show w1.heap.size < _; omega) _).setNew nu (by show w1.heap.size < _; omega) _
  have bw7 : Below w.heap.size w w7 := by rw [hw7]; exact (bw6.setCell (by show w.heap.size ≤ w1.heap.size; omega) _).setCell (by show w.heap.size ≤ w1.heap.size; omega) _
  have HW7 := Lib.hid hw7
  have cv1 := v6.cell 1
  have fcv1 := v6.frozen 1
  have cv2 := v6.cell 2
  have fcv2 := v6.frozen 2
  simp only [List.getElem?_cons_succ, List.getElem?_cons_zero] at cv1 cv2
  have m7 : RowAt w7 g 103 [.string (left8 hd), .slice (some ad) 2 c1] := by rw [hw7]; exact ((m6.far (by show g ≠ w1.heap.size; omega) _).far (by show g ≠ w1.heap.size; omega) _)
  have k71 : w7.cell? ⟨ad.block, ad.off + 1, none⟩ = some (.string q) := by rw [hw7]; simp only [World.cell?_setCell_other _ _ ⟨ad.block, ad.off + 1, none⟩ _ (farC (show w1.heap.size ≠ ad.block by omega) _ _)]; exact k61
  clear hw7 v6 r6 m6 u6 bw6 k61
  go_upto_region 5 with (fail)
  rw [← HW7.out]
  have n1 := m7.cell 1
  simp only [List.getElem?_cons_succ, List.getElem?_cons_zero] at n1
  clear cv1 fcv1 cv2 fcv2
  go_wp2_with fail
  with_reducible refine (hV _).mono ?_
  rintro e w8 ⟨rfl, b8⟩
  exact ⟨rfl, rfl, bw7.trans (b8.mono bw7.size)⟩

set_option maxHeartbeats 8000000 in
set_option maxRecDepth 100000 in
theorem readAgg_ok (s : ByteArray) (w : World) (hd p q : ByteArray) (hsp : splitOf s.data.toList 8 2 = (hd.data.toList, txts [p, q], 0)) (h8 : hd.size = 8) (hp : p.size ≤ 1000000) (h : Bool) (m : List Pr) (ht : decB p.data.toList = (0, h, m)) (d0 d1 d2 d3 d4 : Nat) (N : Int) (on : List Int) (f : Bool) (l : List Pr) (hV : ∀ W, Calls Tryz.prog 38 #[.string q] W fun e w' => ∃ A c B k, e = .returned (.agg #[.int .u64 (d0 : Int), .int .u64 (d1 : Int), .int .u64 (d2 : Int), .int .u64 (d3 : Int), .int .u64 (d4 : Int), .int .i64 N, .slice A on.length c, .bool f, .slice B l.length k]) ∧ Bt w' (.agg #[.int .i64 N, .slice A on.length c]) N on ∧ Tk w' (.agg #[.bool f, .slice B l.length k]) f l ∧ Below W.heap.size W w' ∧ Newer W.heap.size (.agg #[.int .i64 N, .slice A on.length c]) ∧ Newer W.heap.size (.agg #[.bool f, .slice B l.length k])) :
    Calls Tryz.prog 44 #[.string s] w fun e w' => ∃ C j A c B k, e = .returned (.agg #[.int .u64 (num8 hd : Int), .bool h, .slice C m.length j, .int .u64 (d0 : Int), .int .u64 (d1 : Int), .int .u64 (d2 : Int), .int .u64 (d3 : Int), .int .u64 (d4 : Int), .int .i64 N, .slice A on.length c, .bool f, .slice B l.length k]) ∧ Tk w' (.agg #[.bool h, .slice C m.length j]) h m ∧ Bt w' (.agg #[.int .i64 N, .slice A on.length c]) N on ∧ Tk w' (.agg #[.bool f, .slice B l.length k]) f l ∧ Below w.heap.size w w' ∧ Newer w.heap.size (.agg #[.bool h, .slice C m.length j]) ∧ Newer w.heap.size (.agg #[.int .i64 N, .slice A on.length c]) ∧ Newer w.heap.size (.agg #[.bool f, .slice B l.length k]) := by
  obtain ⟨w0, hw0⟩ : ∃ w0, w0 = w.alloc (.cells #[.int .u64 0, .bool false, .slice none 0 0, .int .u64 0, .int .u64 0, .int .u64 0, .int .u64 0, .int .u64 0, .int .i64 0, .slice none 0 0, .bool false, .slice none 0 0] 41) := ⟨_, rfl⟩
  have b0 : Below w.heap.size w w0 := by rw [hw0]; exact (Below.refl _ _).alloc (Nat.le_refl _) _
  have hz0 : w0.heap.size = w.heap.size + 1 := by rw [hw0]; simp
  have r0 : RowAt w0 w.heap.size 41 [.int .u64 0, .bool false, .slice none 0 0, .int .u64 0, .int .u64 0, .int .u64 0, .int .u64 0, .int .u64 0, .int .i64 0, .slice none 0 0, .bool false, .slice none 0 0] := by rw [hw0]; exact RowAt.new w 41 #[.int .u64 0, .bool false, .slice none 0 0, .int .u64 0, .int .u64 0, .int .u64 0, .int .u64 0, .int .u64 0, .int .i64 0, .slice none 0 0, .bool false, .slice none 0 0]
  have HW := Lib.hid hw0
  clear hw0
  go_enter Tryz.func44, Tryz.ntmps44
  go_wp2_with fail
  rw [← HW.out]
  have HT := Lib.hid ht
  have HS := Lib.hid hsp
  clear hsp ht
  with_reducible refine (messageOf_ok s 8 hd p q _ HS.out).mono ?_
  rintro e w1 ⟨g, ad, c1, rfl, m1, hg, ⟨had, k0, k1⟩, hc1, b1⟩
  have bw1 := b0.trans (b1.mono b0.size)
  have r1 := r0.on b1
  have hgl := m1.lt
  simp only [Addr.add_zero', Addr.add_succ', Nat.zero_add] at k0 k1
  clear r0 b1 HS
  obtain ⟨w2, hw2⟩ : ∃ w2, w2 = w1.alloc (.cells #[.int .u64 0, .bool false, .slice none 0 0, .int .u64 0, .int .u64 0, .int .u64 0, .int .u64 0, .int .u64 0, .int .i64 0, .slice none 0 0, .bool false, .slice none 0 0] 41) := ⟨_, rfl⟩
  have hz2 : w2.heap.size = w1.heap.size + 1 := by rw [hw2]; simp
  have bw2 : Below w.heap.size w w2 := by rw [hw2]; exact bw1.alloc bw1.size _
  have v2 : RowAt w2 w1.heap.size 41 [.int .u64 0, .bool false, .slice none 0 0, .int .u64 0, .int .u64 0, .int .u64 0, .int .u64 0, .int .u64 0, .int .i64 0, .slice none 0 0, .bool false, .slice none 0 0] := by rw [hw2]; exact RowAt.new w1 41 #[.int .u64 0, .bool false, .slice none 0 0, .int .u64 0, .int .u64 0, .int .u64 0, .int .u64 0, .int .u64 0, .int .i64 0, .slice none 0 0, .bool false, .slice none 0 0]
  have r2 : RowAt w2 w.heap.size 41 [.int .u64 0, .bool false, .slice none 0 0, .int .u64 0, .int .u64 0, .int .u64 0, .int .u64 0, .int .u64 0, .int .i64 0, .slice none 0 0, .bool false, .slice none 0 0] := by rw [hw2]; exact r1.alloc _
  have m2 : RowAt w2 g 103 [.string hd, .slice (some ad) 2 c1] := by rw [hw2]; exact m1.alloc _
  have k20 : w2.cell? ad = some (.string p) := by rw [hw2]; exact cellA k0 _
  have k21 : w2.cell? ⟨ad.block, ad.off + 1, none⟩ = some (.string q) := by rw [hw2]; exact cellA k1 _
  have HW2 := Lib.hid hw2
  have hw1 := bw1.size
  clear hw2 r1 m1 k0 k1
  have cD := number_row g _ hd _ w2 m2 (by omega) (by omega)
  obtain ⟨x0, hx0⟩ : ∃ x, num8 hd = x := ⟨_, rfl⟩
  rw [hx0] at cD
  go_wp2_with fail
  rw [← HW2.out]
  with_reducible refine cD.mono ?_
  rintro e w3 ⟨rfl, m3, b3⟩
  have bw3 := But.below bw2 b3 (by omega) bw2.size
  have hw3 := b3.size
  have r3 := b3.rowAt r2 (by omega)
  have v3 := b3.rowAt v2 (by omega)
  have k30 := (b3.cell (p := ad) (by omega) (by omega)).trans k20
  have k31 := (b3.cell (p := ⟨ad.block, ad.off + 1, none⟩) (by show ad.block < _; omega) (by show ad.block ≠ _; omega)).trans k21
  clear r2 v2 m2 k20 k21 cD b3 bw2 bw1
  obtain ⟨w4, hw4⟩ : ∃ w4, w4 = w3.setCell ⟨w1.heap.size, 0, none⟩ (.int .u64 (x0 : Int)) := ⟨_, rfl⟩
  have hz4 : w4.heap.size = w3.heap.size := by rw [hw4]; simp only [setCell_size]
  have v4 : RowAt w4 w1.heap.size 41 [.int .u64 (x0 : Int), .bool false, .slice none 0 0, .int .u64 0, .int .u64 0, .int .u64 0, .int .u64 0, .int .u64 0, .int .i64 0, .slice none 0 0, .bool false, .slice none 0 0] := by rw [hw4]; exact v3.set 0 _
  have r4 : RowAt w4 w.heap.size 41 [.int .u64 0, .bool false, .slice none 0 0, .int .u64 0, .int .u64 0, .int .u64 0, .int .u64 0, .int .u64 0, .int .i64 0, .slice none 0 0, .bool false, .slice none 0 0] := by rw [hw4]; exact r3.far (by show w.heap.size ≠ w1.heap.size; omega) _
  have m4 : RowAt w4 g 103 [.string (left8 hd), .slice (some ad) 2 c1] := by rw [hw4]; exact m3.far (by show g ≠ w1.heap.size; omega) _
  have k41 : w4.cell? ⟨ad.block, ad.off + 1, none⟩ = some (.string q) := by rw [hw4]; simp only [World.cell?_setCell_other _ _ ⟨ad.block, ad.off + 1, none⟩ _ (farC (show w1.heap.size ≠ ad.block by omega) _ _)]; exact k31
  have k40 : w4.cell? ad = some (.string p) := by rw [hw4]; simp only [World.cell?_setCell_other _ _ ad _ (farA (show w1.heap.size ≠ ad.block by omega) _)]; exact k30
  have bw4 : Below w.heap.size w w4 := by rw [hw4]; exact bw3.setCell (by show w.heap.size ≤ w1.heap.size; omega) _
  have HW4 := Lib.hid hw4
  have c0 := v3.cell 0
  have fc0 := v3.frozen 0
  simp only [List.getElem?_cons_succ, List.getElem?_cons_zero] at c0
  clear hw4 v3 r3 m3 k31 bw3
  go_upto_region 4 with (fail)
  rw [← HW4.out]
  have n1 := m4.cell 1
  simp only [List.getElem?_cons_succ, List.getElem?_cons_zero] at n1
  clear k30 c0 fc0
  go_wp2_with fail
  with_reducible refine (Decode_nw p _ 0 h m HT.out hp).mono ?_
  rintro e w5 ⟨C, j, rfl, u5, b5, nu⟩
  have bw5 := bw4.trans (b5.mono bw4.size)
  have hw5 := b5.size
  have r5 := r4.on b5
  have v5 := v4.on b5
  have m5 := m4.on b5
  have k51 := (b5.cell (p := ⟨ad.block, ad.off + 1, none⟩) (by show ad.block < _; omega)).trans k41
  clear n1 k40 r4 v4 m4 k41 b5 bw4
  go_wp2_with fail
  with_reducible refine (sureT_ok _ _ _ _ _).mono ?_
  rintro e w6 ⟨rfl, b6⟩
  have bw6 := bw5.trans (b6.mono bw5.size)
  have hw6 := b6.size
  have r6 := r5.on b6
  have v6 := v5.on b6
  have m6 := m5.on b6
  have u6 := u5.on b6
  have k61 := (b6.cell (p := ⟨ad.block, ad.off + 1, none⟩) (by show ad.block < _; omega)).trans k51
  clear r5 v5 m5 u5 k51 b6 bw5
  obtain ⟨w7, hw7⟩ : ∃ w7, w7 = (w6.setCell ⟨w1.heap.size, 1, none⟩ (.bool h)).setCell ⟨w1.heap.size, 2, none⟩ (.slice C m.length j) := ⟨_, rfl⟩
  have hz7 : w7.heap.size = w6.heap.size := by rw [hw7]; simp only [setCell_size]
  have v7 : RowAt w7 w1.heap.size 41 [.int .u64 (x0 : Int), .bool h, .slice C m.length j, .int .u64 0, .int .u64 0, .int .u64 0, .int .u64 0, .int .u64 0, .int .i64 0, .slice none 0 0, .bool false, .slice none 0 0] := by rw [hw7]; exact ((v6.set 1 _).set 2 _)
  have r7 : RowAt w7 w.heap.size 41 [.int .u64 0, .bool false, .slice none 0 0, .int .u64 0, .int .u64 0, .int .u64 0, .int .u64 0, .int .u64 0, .int .i64 0, .slice none 0 0, .bool false, .slice none 0 0] := by rw [hw7]; exact ((r6.far (by show w.heap.size ≠ w1.heap.size; omega) _).far (by show w.heap.size ≠ w1.heap.size; omega) _)
  have u7 : Tk w7 (.agg #[.bool h, .slice C m.length j]) h m := by rw [hw7]; exact (u6.setNew nu (by show w1.heap.size < _; omega) _).setNew nu (by show w1.heap.size < _; omega) _
  have bw7 : Below w.heap.size w w7 := by rw [hw7]; exact (bw6.setCell (by show w.heap.size ≤ w1.heap.size; omega) _).setCell (by show w.heap.size ≤ w1.heap.size; omega) _
  have HW7 := Lib.hid hw7
  have cv1 := v6.cell 1
  have fcv1 := v6.frozen 1
  have cv2 := v6.cell 2
  have fcv2 := v6.frozen 2
  simp only [List.getElem?_cons_succ, List.getElem?_cons_zero] at cv1 cv2
  have m7 : RowAt w7 g 103 [.string (left8 hd), .slice (some ad) 2 c1] := by rw [hw7]; exact ((m6.far (by show g ≠ w1.heap.size; omega) _).far (by show g ≠ w1.heap.size; omega) _)
  have k71 : w7.cell? ⟨ad.block, ad.off + 1, none⟩ = some (.string q) := by rw [hw7]; simp only [World.cell?_setCell_other _ _ ⟨ad.block, ad.off + 1, none⟩ _ (farC (show w1.heap.size ≠ ad.block by omega) _ _)]; exact k61
  clear hw7 v6 r6 m6 u6 bw6 k61
  go_upto_region 5 with (fail)
  rw [← HW7.out]
  have n1 := m7.cell 1
  simp only [List.getElem?_cons_succ, List.getElem?_cons_zero] at n1
  clear cv1 fcv1 cv2 fcv2
  go_wp2_with fail
  with_reducible refine (hV _).mono ?_
  rintro e w8 ⟨A, c, B, k, rfl, y8, t8, b8, ny, nt⟩
  have bw8 := bw7.trans (b8.mono bw7.size)
  have hw8 := b8.size
  have r8 := r7.on b8
  have v8 := v7.on b8
  have u8 := u7.on b8
  clear n1 k71 r7 v7 u7 b8 bw7 m7 hV
  obtain ⟨w10, hw10⟩ : ∃ w10, w10 = (((((((((w8.setCell ⟨w1.heap.size, 3, none⟩ (.int .u64 (d0 : Int))).setCell ⟨w1.heap.size, 4, none⟩ (.int .u64 (d1 : Int))).setCell ⟨w1.heap.size, 5, none⟩ (.int .u64 (d2 : Int))).setCell ⟨w1.heap.size, 6, none⟩ (.int .u64 (d3 : Int))).setCell ⟨w1.heap.size, 7, none⟩ (.int .u64 (d4 : Int))).setCell ⟨w1.heap.size, 8, none⟩ (.int .i64 N)).setCell ⟨w1.heap.size, 9, none⟩ (.slice A on.length c)).setCell ⟨w1.heap.size, 10, none⟩ (.bool f)).setCell ⟨w1.heap.size, 11, none⟩ (.slice B l.length k)) := ⟨_, rfl⟩
  have hz10 : w10.heap.size = w8.heap.size := by rw [hw10]; simp only [setCell_size]
  have v10 : RowAt w10 w1.heap.size 41 [.int .u64 (x0 : Int), .bool h, .slice C m.length j, .int .u64 (d0 : Int), .int .u64 (d1 : Int), .int .u64 (d2 : Int), .int .u64 (d3 : Int), .int .u64 (d4 : Int), .int .i64 N, .slice A on.length c, .bool f, .slice B l.length k] := by rw [hw10]; exact (((((((((v8.set 3 _).set 4 _).set 5 _).set 6 _).set 7 _).set 8 _).set 9 _).set 10 _).set 11 _)
  have r10 : RowAt w10 w.heap.size 41 [.int .u64 0, .bool false, .slice none 0 0, .int .u64 0, .int .u64 0, .int .u64 0, .int .u64 0, .int .u64 0, .int .i64 0, .slice none 0 0, .bool false, .slice none 0 0] := by rw [hw10]; exact (((((((((r8.far (by show w.heap.size ≠ w1.heap.size; omega) _).far (by show w.heap.size ≠ w1.heap.size; omega) _).far (by show w.heap.size ≠ w1.heap.size; omega) _).far (by show w.heap.size ≠ w1.heap.size; omega) _).far (by show w.heap.size ≠ w1.heap.size; omega) _).far (by show w.heap.size ≠ w1.heap.size; omega) _).far (by show w.heap.size ≠ w1.heap.size; omega) _).far (by show w.heap.size ≠ w1.heap.size; omega) _).far (by show w.heap.size ≠ w1.heap.size; omega) _)
  have u10 : Tk w10 (.agg #[.bool h, .slice C m.length j]) h m := by rw [hw10]; exact (((((((((u8.setNew nu (by show w1.heap.size < _; omega) _).setNew nu (by show w1.heap.size < _; omega) _).setNew nu (by show w1.heap.size < _; omega) _).setNew nu (by show w1.heap.size < _; omega) _).setNew nu (by show w1.heap.size < _; omega) _).setNew nu (by show w1.heap.size < _; omega) _).setNew nu (by show w1.heap.size < _; omega) _).setNew nu (by show w1.heap.size < _; omega) _).setNew nu (by show w1.heap.size < _; omega) _)
  have y10 : Bt w10 (.agg #[.int .i64 N, .slice A on.length c]) N on := by rw [hw10]; exact (((((((((y8.setNew ny (by show w1.heap.size < _; omega) _).setNew ny (by show w1.heap.size < _; omega) _).setNew ny (by show w1.heap.size < _; omega) _).setNew ny (by show w1.heap.size < _; omega) _).setNew ny (by show w1.heap.size < _; omega) _).setNew ny (by show w1.heap.size < _; omega) _).setNew ny (by show w1.heap.size < _; omega) _).setNew ny (by show w1.heap.size < _; omega) _).setNew ny (by show w1.heap.size < _; omega) _)
  have t10 : Tk w10 (.agg #[.bool f, .slice B l.length k]) f l := by rw [hw10]; exact (((((((((t8.setNew nt (by show w1.heap.size < _; omega) _).setNew nt (by show w1.heap.size < _; omega) _).setNew nt (by show w1.heap.size < _; omega) _).setNew nt (by show w1.heap.size < _; omega) _).setNew nt (by show w1.heap.size < _; omega) _).setNew nt (by show w1.heap.size < _; omega) _).setNew nt (by show w1.heap.size < _; omega) _).setNew nt (by show w1.heap.size < _; omega) _).setNew nt (by show w1.heap.size < _; omega) _)
  have bw10 : Below w.heap.size w w10 := by rw [hw10]; exact (((((((((bw8.setCell (by show w.heap.size ≤ w1.heap.size; omega) _).setCell (by show w.heap.size ≤ w1.heap.size; omega) _).setCell (by show w.heap.size ≤ w1.heap.size; omega) _).setCell (by show w.heap.size ≤ w1.heap.size; omega) _).setCell (by show w.heap.size ≤ w1.heap.size; omega) _).setCell (by show w.heap.size ≤ w1.heap.size; omega) _).setCell (by show w.heap.size ≤ w1.heap.size; omega) _).setCell (by show w.heap.size ≤ w1.heap.size; omega) _).setCell (by show w.heap.size ≤ w1.heap.size; omega) _)
  have HW10 := Lib.hid hw10
  have c3 := v8.cell 3
  have fc3 := v8.frozen 3
  have c4 := v8.cell 4
  have fc4 := v8.frozen 4
  have c5 := v8.cell 5
  have fc5 := v8.frozen 5
  have c6 := v8.cell 6
  have fc6 := v8.frozen 6
  have c7 := v8.cell 7
  have fc7 := v8.frozen 7
  have c8 := v8.cell 8
  have fc8 := v8.frozen 8
  have c9 := v8.cell 9
  have fc9 := v8.frozen 9
  have c10 := v8.cell 10
  have fc10 := v8.frozen 10
  have c11 := v8.cell 11
  have fc11 := v8.frozen 11
  simp only [List.getElem?_cons_succ, List.getElem?_cons_zero] at c3 c4 c5 c6 c7 c8 c9 c10 c11
  clear hw10
  go_upto_region 6 with (fail)
  rw [← HW10.out]
  clear c3 fc3 c4 fc4 c5 fc5 c6 fc6 c7 fc7 c8 fc8 c9 fc9 c10 fc10 c11 fc11 v8 r8 u8 y8 t8 bw8
  have HLU := Lib.hid (show w.heap.size < w4.heap.size by omega)
  have HLT := Lib.hid (show w.heap.size < w7.heap.size by omega)
  have cw0 := v10.cell 0
  have cw1 := v10.cell 1
  have cw2 := v10.cell 2
  have cw3 := v10.cell 3
  have cw4 := v10.cell 4
  have cw5 := v10.cell 5
  have cw6 := v10.cell 6
  have cw7 := v10.cell 7
  have cw8 := v10.cell 8
  have cw9 := v10.cell 9
  have cw10 := v10.cell 10
  have cw11 := v10.cell 11
  simp only [List.getElem?_cons_succ, List.getElem?_cons_zero] at cw0 cw1 cw2 cw3 cw4 cw5 cw6 cw7 cw8 cw9 cw10 cw11
  have dr0 := r10.cell 0
  have fdr0 := r10.frozen 0
  have dr1 := r10.cell 1
  have fdr1 := r10.frozen 1
  have dr2 := r10.cell 2
  have fdr2 := r10.frozen 2
  have dr3 := r10.cell 3
  have fdr3 := r10.frozen 3
  have dr4 := r10.cell 4
  have fdr4 := r10.frozen 4
  have dr5 := r10.cell 5
  have fdr5 := r10.frozen 5
  have dr6 := r10.cell 6
  have fdr6 := r10.frozen 6
  have dr7 := r10.cell 7
  have fdr7 := r10.frozen 7
  have dr8 := r10.cell 8
  have fdr8 := r10.frozen 8
  have dr9 := r10.cell 9
  have fdr9 := r10.frozen 9
  have dr10 := r10.cell 10
  have fdr10 := r10.frozen 10
  have dr11 := r10.cell 11
  have fdr11 := r10.frozen 11
  simp only [List.getElem?_cons_succ, List.getElem?_cons_zero] at dr0 dr1 dr2 dr3 dr4 dr5 dr6 dr7 dr8 dr9 dr10 dr11
  clear hz0 hz2 hz4 hz7 hz10 hgl hg had hw1 hw3 hw5 hw6 hw8 h8 hp
  go_wp2_with fail
  refine bodyPost_ret (v := .agg #[.int .u64 (x0 : Int), .bool h, .slice C m.length j, .int .u64 (d0 : Int), .int .u64 (d1 : Int), .int .u64 (d2 : Int), .int .u64 (d3 : Int), .int .u64 (d4 : Int), .int .i64 N, .slice A on.length c, .bool f, .slice B l.length k]) (by simp [results, Tryz.results44, go_sem, *]) rfl ?_
  rw [hx0]
  refine ⟨C, j, A, c, B, k, rfl, ?_, ?_, ?_, ?_, nu.less (Nat.le_of_lt HLU.out), ny.less (Nat.le_of_lt HLT.out), nt.less (Nat.le_of_lt HLT.out)⟩
  · refine Tk.setNew ?_ nu HLU.out _; refine Tk.setNew ?_ nu HLU.out _; refine Tk.setNew ?_ nu HLU.out _; refine Tk.setNew ?_ nu HLU.out _; refine Tk.setNew ?_ nu HLU.out _; refine Tk.setNew ?_ nu HLU.out _; refine Tk.setNew ?_ nu HLU.out _; refine Tk.setNew ?_ nu HLU.out _; refine Tk.setNew ?_ nu HLU.out _; refine Tk.setNew ?_ nu HLU.out _; refine Tk.setNew ?_ nu HLU.out _; refine Tk.setNew ?_ nu HLU.out _; exact u10
  · refine Bt.setNew ?_ ny HLT.out _; refine Bt.setNew ?_ ny HLT.out _; refine Bt.setNew ?_ ny HLT.out _; refine Bt.setNew ?_ ny HLT.out _; refine Bt.setNew ?_ ny HLT.out _; refine Bt.setNew ?_ ny HLT.out _; refine Bt.setNew ?_ ny HLT.out _; refine Bt.setNew ?_ ny HLT.out _; refine Bt.setNew ?_ ny HLT.out _; refine Bt.setNew ?_ ny HLT.out _; refine Bt.setNew ?_ ny HLT.out _; refine Bt.setNew ?_ ny HLT.out _; exact y10
  · refine Tk.setNew ?_ nt HLT.out _; refine Tk.setNew ?_ nt HLT.out _; refine Tk.setNew ?_ nt HLT.out _; refine Tk.setNew ?_ nt HLT.out _; refine Tk.setNew ?_ nt HLT.out _; refine Tk.setNew ?_ nt HLT.out _; refine Tk.setNew ?_ nt HLT.out _; refine Tk.setNew ?_ nt HLT.out _; refine Tk.setNew ?_ nt HLT.out _; refine Tk.setNew ?_ nt HLT.out _; refine Tk.setNew ?_ nt HLT.out _; refine Tk.setNew ?_ nt HLT.out _; exact t10
  · refine Below.setCell ?_ (by show w.heap.size ≤ w.heap.size; exact Nat.le_refl _) _; refine Below.setCell ?_ (by show w.heap.size ≤ w.heap.size; exact Nat.le_refl _) _; refine Below.setCell ?_ (by show w.heap.size ≤ w.heap.size; exact Nat.le_refl _) _; refine Below.setCell ?_ (by show w.heap.size ≤ w.heap.size; exact Nat.le_refl _) _; refine Below.setCell ?_ (by show w.heap.size ≤ w.heap.size; exact Nat.le_refl _) _; refine Below.setCell ?_ (by show w.heap.size ≤ w.heap.size; exact Nat.le_refl _) _; refine Below.setCell ?_ (by show w.heap.size ≤ w.heap.size; exact Nat.le_refl _) _; refine Below.setCell ?_ (by show w.heap.size ≤ w.heap.size; exact Nat.le_refl _) _; refine Below.setCell ?_ (by show w.heap.size ≤ w.heap.size; exact Nat.le_refl _) _; refine Below.setCell ?_ (by show w.heap.size ≤ w.heap.size; exact Nat.le_refl _) _; refine Below.setCell ?_ (by show w.heap.size ≤ w.heap.size; exact Nat.le_refl _) _; refine Below.setCell ?_ (by show w.heap.size ≤ w.heap.size; exact Nat.le_refl _) _; exact bw10
end Go.Proofs.YtieheieiolobaaaGreatDoor

namespace Go.Proofs.YtieheieiolobaaaGreatDoor
open Go.RowKit

theorem But.alloc_of {g : Nat} {w w' : World} {o : Obj} (h : But g (w.alloc o) w') : But g w w' :=
  ⟨h.os, h.tape, h.output, Nat.le_trans (by simp) h.size, fun k hk hg => (h.block k (by simp; omega) hg).trans (Below.heap_alloc w o k hk)⟩
theorem try_ok (K : Nat) (caps : Array Value) (wA : World) (g : Nat) (P : World → Prop) (hg : g < wA.heap.size)
    (hent : ∀ (args : Array Value) (w : World), (callFunc K args).run Tryz.prog w = .ok (.enter K args) w)
    (hK : Calls Tryz.prog K caps (wA.alloc (.cells #[.int .i64 0] 44)) fun e w' => e = .returned (.tuple #[]) ∧ But g (wA.alloc (.cells #[.int .i64 0] 44)) w' ∧ P w')
    (hP : ∀ W, P W → P (W.setCell ⟨wA.heap.size, 0, none⟩ (.int .i64 0))) :
    Calls Tryz.prog 27 #[.func (.func K) #[] caps] wA fun e w' => e = .returned (.int .i64 0) ∧ But g wA w' ∧ P w' := by
  refine (wattempt_ok K caps wA (fun w' => But g (wA.alloc (.cells #[.int .i64 0] 44)) w' ∧ P w') hent (hK.mono ?_)).mono ?_
  · rintro e w' ⟨rfl, hb, hp⟩
    have hr := hb.rowAt (RowAt.new wA 44 #[.int .i64 0]) (by omega)
    exact ⟨rfl, ⟨hb, hp⟩, hr.cell 0, hr.frozen 0⟩
  · rintro e w' ⟨rfl, w1, ⟨hb, hp⟩, rfl⟩
    exact ⟨rfl, (hb.alloc_of).setNew (Nat.le_refl _) _, hP _ hp⟩
theorem try_no (K : Nat) (caps : Array Value) (y : Int) (wA : World)
    (hent : ∀ (args : Array Value) (w : World), (callFunc K args).run Tryz.prog w = .ok (.enter K args) w)
    (hK : Calls Tryz.prog K caps (wA.alloc (.cells #[.int .i64 0] 44)) (Panics y (wA.alloc (.cells #[.int .i64 0] 44)))) :
    Calls Tryz.prog 27 #[.func (.func K) #[] caps] wA fun e w' => e = .returned (.int .i64 y) ∧ Below wA.heap.size wA w' := by
  refine (wattempt_no K caps y wA (fun w' => Below wA.heap.size wA w') hent (hK.mono ?_)).mono ?_
  · rintro e w' ⟨rfl, hb⟩
    have hr := (RowAt.new wA 44 #[.int .i64 0]).on hb
    exact ⟨rfl, ((Below.refl _ _).alloc (Nat.le_refl _) _).trans (hb.mono (by simp)), hr.cell 0, hr.frozen 0⟩
  · rintro e w' ⟨rfl, w1, hb, rfl⟩
    exact ⟨rfl, hb.setCell (Nat.le_refl _) _⟩

set_option maxHeartbeats 8000000 in
set_option maxRecDepth 100000 in
theorem VoteFn_ok (N : Nat) (S : ByteArray) (w : World) (d0 d1 d2 d3 d4 : Nat) (n : Int) (f : Bool) (A B : Option Addr) (o c l k : Nat) (ra : RowAt w N 32 [.int .u64 (d0 : Int), .int .u64 (d1 : Int), .int .u64 (d2 : Int), .int .u64 (d3 : Int), .int .u64 (d4 : Int), .int .i64 n, .slice A o c, .bool f, .slice B l k]) (rs : RowAt w (N + 1) 9 [.string ⟨#[]⟩]) (hF : Calls Tryz.prog 29 #[.agg #[.int .u64 (d0 : Int), .int .u64 (d1 : Int), .int .u64 (d2 : Int), .int .u64 (d3 : Int), .int .u64 (d4 : Int), .int .i64 n, .slice A o c, .bool f, .slice B l k]] w fun e w' => e = .returned (.string S) ∧ Below w.heap.size w w') :
    Calls Tryz.prog 28 #[.pointer (some ⟨N, 0, none⟩), .pointer (some ⟨N + 1, 0, none⟩)] w fun e w' => e = .returned (.tuple #[]) ∧ But (N + 1) w w' ∧ RowAt w' (N + 1) 9 [.string S] := by
  have a0 := ra.cell 0
  have a1 := ra.cell 1
  have a2 := ra.cell 2
  have a3 := ra.cell 3
  have a4 := ra.cell 4
  have a5 := ra.cell 5
  have a6 := ra.cell 6
  have a7 := ra.cell 7
  have a8 := ra.cell 8
  simp only [List.getElem?_cons_succ, List.getElem?_cons_zero] at a0 a1 a2 a3 a4 a5 a6 a7 a8
  go_enter Tryz.func28, Tryz.ntmps28
  go_wp2_with fail
  with_reducible refine hF.mono ?_
  rintro e w1 ⟨rfl, b1⟩
  have rs1 := rs.on b1
  have s0 := rs1.cell 0
  have fs0 := rs1.frozen 0
  simp only [List.getElem?_cons_zero] at s0
  clear a0 a1 a2 a3 a4 a5 a6 a7 a8
  go_wp2_with fail
  go_end0
  exact ⟨rfl, (But.of_below b1).setCell 0 _, rs1.set 0 _⟩
set_option maxHeartbeats 8000000 in
set_option maxRecDepth 100000 in
theorem VoteFn_no (N : Nat) (y : Int) (w : World) (d0 d1 d2 d3 d4 : Nat) (n : Int) (f : Bool) (A B : Option Addr) (o c l k : Nat) (ra : RowAt w N 32 [.int .u64 (d0 : Int), .int .u64 (d1 : Int), .int .u64 (d2 : Int), .int .u64 (d3 : Int), .int .u64 (d4 : Int), .int .i64 n, .slice A o c, .bool f, .slice B l k]) (hF : Calls Tryz.prog 29 #[.agg #[.int .u64 (d0 : Int), .int .u64 (d1 : Int), .int .u64 (d2 : Int), .int .u64 (d3 : Int), .int .u64 (d4 : Int), .int .i64 n, .slice A o c, .bool f, .slice B l k]] w (Panics y w)) :
    Calls Tryz.prog 28 #[.pointer (some ⟨N, 0, none⟩), .pointer (some ⟨N + 1, 0, none⟩)] w (Panics y w) := by
  have a0 := ra.cell 0
  have a1 := ra.cell 1
  have a2 := ra.cell 2
  have a3 := ra.cell 3
  have a4 := ra.cell 4
  have a5 := ra.cell 5
  have a6 := ra.cell 6
  have a7 := ra.cell 7
  have a8 := ra.cell 8
  simp only [List.getElem?_cons_succ, List.getElem?_cons_zero] at a0 a1 a2 a3 a4 a5 a6 a7 a8
  go_enter Tryz.func28, Tryz.ntmps28
  go_wp2_with fail
  with_reducible refine hF.mono ?_
  rintro e w1 ⟨rfl, b1⟩
  exact ⟨rfl, rfl, b1⟩
set_option maxHeartbeats 8000000 in
set_option maxRecDepth 100000 in
theorem Vote_by (S : ByteArray) (w : World) (d0 d1 d2 d3 d4 : Nat) (n : Int) (f : Bool) (A B : Option Addr) (o c l k : Nat) (hF : ∀ W, Below w.heap.size w W → Calls Tryz.prog 29 #[.agg #[.int .u64 (d0 : Int), .int .u64 (d1 : Int), .int .u64 (d2 : Int), .int .u64 (d3 : Int), .int .u64 (d4 : Int), .int .i64 n, .slice A o c, .bool f, .slice B l k]] W fun e w' => e = .returned (.string S) ∧ Below W.heap.size W w') :
    Calls Tryz.prog 7 #[.agg #[.int .u64 (d0 : Int), .int .u64 (d1 : Int), .int .u64 (d2 : Int), .int .u64 (d3 : Int), .int .u64 (d4 : Int), .int .i64 n, .slice A o c, .bool f, .slice B l k]] w fun e w' => e = .returned (.tuple #[.string S, .int .i64 0]) ∧ Below w.heap.size w w' := by
  have hmf : ∀ (fn : Fn) (first cap : Array Value) (w : World), (Instr.makeFunc fn first cap).run Tryz.prog w = .ok (.func fn first cap) w := fun _ _ _ _ => rfl
  obtain ⟨wA, hwA⟩ : ∃ wA, wA = (w.alloc (.cells #[.int .u64 (d0 : Int), .int .u64 (d1 : Int), .int .u64 (d2 : Int), .int .u64 (d3 : Int), .int .u64 (d4 : Int), .int .i64 n, .slice A o c, .bool f, .slice B l k] 32)).alloc (.cells #[.string ⟨#[]⟩] 9) := ⟨_, rfl⟩
  have bA : Below w.heap.size w wA := by rw [hwA]; exact ((Below.refl _ _).alloc (Nat.le_refl _) _).alloc (by simp) _
  have hz : wA.heap.size = w.heap.size + 2 := by rw [hwA]; simp
  have ra : RowAt wA w.heap.size 32 [.int .u64 (d0 : Int), .int .u64 (d1 : Int), .int .u64 (d2 : Int), .int .u64 (d3 : Int), .int .u64 (d4 : Int), .int .i64 n, .slice A o c, .bool f, .slice B l k] := by rw [hwA]; exact (RowAt.new w 32 #[.int .u64 (d0 : Int), .int .u64 (d1 : Int), .int .u64 (d2 : Int), .int .u64 (d3 : Int), .int .u64 (d4 : Int), .int .i64 n, .slice A o c, .bool f, .slice B l k]).alloc _
  have rs : RowAt wA (w.heap.size + 1) 9 [.string ⟨#[]⟩] := by rw [hwA]; have := RowAt.new (w.alloc (.cells #[.int .u64 (d0 : Int), .int .u64 (d1 : Int), .int .u64 (d2 : Int), .int .u64 (d3 : Int), .int .u64 (d4 : Int), .int .i64 n, .slice A o c, .bool f, .slice B l k] 32)) 9 #[.string ⟨#[]⟩]; simpa using this
  have cT := try_ok 28 #[.pointer (some ⟨w.heap.size, 0, none⟩), .pointer (some ⟨w.heap.size + 1, 0, none⟩)] wA (w.heap.size + 1) (fun W => RowAt W (w.heap.size + 1) 9 [.string S]) (by omega) (enters_of Tryz.func28 (by kernel_rfl) rfl)
    (VoteFn_ok w.heap.size S _ d0 d1 d2 d3 d4 n f A B o c l k (ra.alloc _) (rs.alloc _) (hF _ (bA.alloc bA.size _))) (fun W h => h.far (by show w.heap.size + 1 ≠ wA.heap.size; omega) _)
  have HW := Lib.hid hwA
  clear hwA hF
  go_enter Tryz.func7, Tryz.ntmps7
  go_wp2_with fail
  rw [← HW.out]
  with_reducible refine cT.mono ?_
  rintro e w1 ⟨rfl, b1, s1⟩
  have bw := But.below bA b1 (by omega) bA.size
  have s0 := s1.one
  clear cT ra rs b1 s1 hz bA
  go_wp2_with fail
  go_ret2
  exact ⟨rfl, bw⟩
set_option maxHeartbeats 8000000 in
set_option maxRecDepth 100000 in
theorem Vote_no (y : Int) (w : World) (d0 d1 d2 d3 d4 : Nat) (n : Int) (f : Bool) (A B : Option Addr) (o c l k : Nat) (hF : ∀ W, Below w.heap.size w W → Calls Tryz.prog 29 #[.agg #[.int .u64 (d0 : Int), .int .u64 (d1 : Int), .int .u64 (d2 : Int), .int .u64 (d3 : Int), .int .u64 (d4 : Int), .int .i64 n, .slice A o c, .bool f, .slice B l k]] W (Panics y W)) :
    Calls Tryz.prog 7 #[.agg #[.int .u64 (d0 : Int), .int .u64 (d1 : Int), .int .u64 (d2 : Int), .int .u64 (d3 : Int), .int .u64 (d4 : Int), .int .i64 n, .slice A o c, .bool f, .slice B l k]] w fun e w' => e = .returned (.tuple #[.string ⟨#[]⟩, .int .i64 y]) ∧ Below w.heap.size w w' := by
  have hmf : ∀ (fn : Fn) (first cap : Array Value) (w : World), (Instr.makeFunc fn first cap).run Tryz.prog w = .ok (.func fn first cap) w := fun _ _ _ _ => rfl
  obtain ⟨wA, hwA⟩ : ∃ wA, wA = (w.alloc (.cells #[.int .u64 (d0 : Int), .int .u64 (d1 : Int), .int .u64 (d2 : Int), .int .u64 (d3 : Int), .int .u64 (d4 : Int), .int .i64 n, .slice A o c, .bool f, .slice B l k] 32)).alloc (.cells #[.string ⟨#[]⟩] 9) := ⟨_, rfl⟩
  have bA : Below w.heap.size w wA := by rw [hwA]; exact ((Below.refl _ _).alloc (Nat.le_refl _) _).alloc (by simp) _
  have hz : wA.heap.size = w.heap.size + 2 := by rw [hwA]; simp
  have ra : RowAt wA w.heap.size 32 [.int .u64 (d0 : Int), .int .u64 (d1 : Int), .int .u64 (d2 : Int), .int .u64 (d3 : Int), .int .u64 (d4 : Int), .int .i64 n, .slice A o c, .bool f, .slice B l k] := by rw [hwA]; exact (RowAt.new w 32 #[.int .u64 (d0 : Int), .int .u64 (d1 : Int), .int .u64 (d2 : Int), .int .u64 (d3 : Int), .int .u64 (d4 : Int), .int .i64 n, .slice A o c, .bool f, .slice B l k]).alloc _
  have rs : RowAt wA (w.heap.size + 1) 9 [.string ⟨#[]⟩] := by rw [hwA]; have := RowAt.new (w.alloc (.cells #[.int .u64 (d0 : Int), .int .u64 (d1 : Int), .int .u64 (d2 : Int), .int .u64 (d3 : Int), .int .u64 (d4 : Int), .int .i64 n, .slice A o c, .bool f, .slice B l k] 32)) 9 #[.string ⟨#[]⟩]; simpa using this
  have cT := try_no 28 #[.pointer (some ⟨w.heap.size, 0, none⟩), .pointer (some ⟨w.heap.size + 1, 0, none⟩)] y wA (enters_of Tryz.func28 (by kernel_rfl) rfl) (VoteFn_no w.heap.size y _ d0 d1 d2 d3 d4 n f A B o c l k (ra.alloc _) (hF _ (bA.alloc bA.size _)))
  have HW := Lib.hid hwA
  clear hwA hF
  go_enter Tryz.func7, Tryz.ntmps7
  go_wp2_with fail
  rw [← HW.out]
  with_reducible refine cT.mono ?_
  rintro e w1 ⟨rfl, b1⟩
  have bw := bA.trans (b1.mono bA.size)
  have s1 := rs.on b1
  have s0 := s1.one
  clear cT ra rs b1 s1 hz bA
  go_wp2_with fail
  go_ret2
  exact ⟨rfl, bw⟩
set_option maxHeartbeats 8000000 in
set_option maxRecDepth 100000 in
theorem AggregateFn_ok (N : Nat) (S : ByteArray) (w : World) (by_ d0 d1 d2 d3 d4 : Nat) (n : Int) (f g : Bool) (A B C : Option Addr) (o c l k m j : Nat) (ra : RowAt w N 41 [.int .u64 (by_ : Int), .bool g, .slice C m j, .int .u64 (d0 : Int), .int .u64 (d1 : Int), .int .u64 (d2 : Int), .int .u64 (d3 : Int), .int .u64 (d4 : Int), .int .i64 n, .slice A o c, .bool f, .slice B l k]) (rs : RowAt w (N + 1) 9 [.string ⟨#[]⟩]) (hF : Calls Tryz.prog 35 #[.agg #[.int .u64 (by_ : Int), .bool g, .slice C m j, .int .u64 (d0 : Int), .int .u64 (d1 : Int), .int .u64 (d2 : Int), .int .u64 (d3 : Int), .int .u64 (d4 : Int), .int .i64 n, .slice A o c, .bool f, .slice B l k]] w fun e w' => e = .returned (.string S) ∧ Below w.heap.size w w') :
    Calls Tryz.prog 34 #[.pointer (some ⟨N, 0, none⟩), .pointer (some ⟨N + 1, 0, none⟩)] w fun e w' => e = .returned (.tuple #[]) ∧ But (N + 1) w w' ∧ RowAt w' (N + 1) 9 [.string S] := by
  have a0 := ra.cell 0
  have a1 := ra.cell 1
  have a2 := ra.cell 2
  have a3 := ra.cell 3
  have a4 := ra.cell 4
  have a5 := ra.cell 5
  have a6 := ra.cell 6
  have a7 := ra.cell 7
  have a8 := ra.cell 8
  have a9 := ra.cell 9
  have a10 := ra.cell 10
  have a11 := ra.cell 11
  simp only [List.getElem?_cons_succ, List.getElem?_cons_zero] at a0 a1 a2 a3 a4 a5 a6 a7 a8 a9 a10 a11
  go_enter Tryz.func34, Tryz.ntmps34
  go_wp2_with fail
  with_reducible refine hF.mono ?_
  rintro e w1 ⟨rfl, b1⟩
  have rs1 := rs.on b1
  have s0 := rs1.cell 0
  have fs0 := rs1.frozen 0
  simp only [List.getElem?_cons_zero] at s0
  clear a0 a1 a2 a3 a4 a5 a6 a7 a8 a9 a10 a11
  go_wp2_with fail
  go_end0
  exact ⟨rfl, (But.of_below b1).setCell 0 _, rs1.set 0 _⟩
set_option maxHeartbeats 8000000 in
set_option maxRecDepth 100000 in
theorem AggregateFn_no (N : Nat) (y : Int) (w : World) (by_ d0 d1 d2 d3 d4 : Nat) (n : Int) (f g : Bool) (A B C : Option Addr) (o c l k m j : Nat) (ra : RowAt w N 41 [.int .u64 (by_ : Int), .bool g, .slice C m j, .int .u64 (d0 : Int), .int .u64 (d1 : Int), .int .u64 (d2 : Int), .int .u64 (d3 : Int), .int .u64 (d4 : Int), .int .i64 n, .slice A o c, .bool f, .slice B l k]) (hF : Calls Tryz.prog 35 #[.agg #[.int .u64 (by_ : Int), .bool g, .slice C m j, .int .u64 (d0 : Int), .int .u64 (d1 : Int), .int .u64 (d2 : Int), .int .u64 (d3 : Int), .int .u64 (d4 : Int), .int .i64 n, .slice A o c, .bool f, .slice B l k]] w (Panics y w)) :
    Calls Tryz.prog 34 #[.pointer (some ⟨N, 0, none⟩), .pointer (some ⟨N + 1, 0, none⟩)] w (Panics y w) := by
  have a0 := ra.cell 0
  have a1 := ra.cell 1
  have a2 := ra.cell 2
  have a3 := ra.cell 3
  have a4 := ra.cell 4
  have a5 := ra.cell 5
  have a6 := ra.cell 6
  have a7 := ra.cell 7
  have a8 := ra.cell 8
  have a9 := ra.cell 9
  have a10 := ra.cell 10
  have a11 := ra.cell 11
  simp only [List.getElem?_cons_succ, List.getElem?_cons_zero] at a0 a1 a2 a3 a4 a5 a6 a7 a8 a9 a10 a11
  go_enter Tryz.func34, Tryz.ntmps34
  go_wp2_with fail
  with_reducible refine hF.mono ?_
  rintro e w1 ⟨rfl, b1⟩
  exact ⟨rfl, rfl, b1⟩
set_option maxHeartbeats 8000000 in
set_option maxRecDepth 100000 in
theorem Aggregate_by (S : ByteArray) (w : World) (by_ d0 d1 d2 d3 d4 : Nat) (n : Int) (f g : Bool) (A B C : Option Addr) (o c l k m j : Nat) (hF : ∀ W, Below w.heap.size w W → Calls Tryz.prog 35 #[.agg #[.int .u64 (by_ : Int), .bool g, .slice C m j, .int .u64 (d0 : Int), .int .u64 (d1 : Int), .int .u64 (d2 : Int), .int .u64 (d3 : Int), .int .u64 (d4 : Int), .int .i64 n, .slice A o c, .bool f, .slice B l k]] W fun e w' => e = .returned (.string S) ∧ Below W.heap.size W w') :
    Calls Tryz.prog 9 #[.agg #[.int .u64 (by_ : Int), .bool g, .slice C m j, .int .u64 (d0 : Int), .int .u64 (d1 : Int), .int .u64 (d2 : Int), .int .u64 (d3 : Int), .int .u64 (d4 : Int), .int .i64 n, .slice A o c, .bool f, .slice B l k]] w fun e w' => e = .returned (.tuple #[.string S, .int .i64 0]) ∧ Below w.heap.size w w' := by
  have hmf : ∀ (fn : Fn) (first cap : Array Value) (w : World), (Instr.makeFunc fn first cap).run Tryz.prog w = .ok (.func fn first cap) w := fun _ _ _ _ => rfl
  obtain ⟨wA, hwA⟩ : ∃ wA, wA = (w.alloc (.cells #[.int .u64 (by_ : Int), .bool g, .slice C m j, .int .u64 (d0 : Int), .int .u64 (d1 : Int), .int .u64 (d2 : Int), .int .u64 (d3 : Int), .int .u64 (d4 : Int), .int .i64 n, .slice A o c, .bool f, .slice B l k] 41)).alloc (.cells #[.string ⟨#[]⟩] 9) := ⟨_, rfl⟩
  have bA : Below w.heap.size w wA := by rw [hwA]; exact ((Below.refl _ _).alloc (Nat.le_refl _) _).alloc (by simp) _
  have hz : wA.heap.size = w.heap.size + 2 := by rw [hwA]; simp
  have ra : RowAt wA w.heap.size 41 [.int .u64 (by_ : Int), .bool g, .slice C m j, .int .u64 (d0 : Int), .int .u64 (d1 : Int), .int .u64 (d2 : Int), .int .u64 (d3 : Int), .int .u64 (d4 : Int), .int .i64 n, .slice A o c, .bool f, .slice B l k] := by rw [hwA]; exact (RowAt.new w 41 #[.int .u64 (by_ : Int), .bool g, .slice C m j, .int .u64 (d0 : Int), .int .u64 (d1 : Int), .int .u64 (d2 : Int), .int .u64 (d3 : Int), .int .u64 (d4 : Int), .int .i64 n, .slice A o c, .bool f, .slice B l k]).alloc _
  have rs : RowAt wA (w.heap.size + 1) 9 [.string ⟨#[]⟩] := by rw [hwA]; have := RowAt.new (w.alloc (.cells #[.int .u64 (by_ : Int), .bool g, .slice C m j, .int .u64 (d0 : Int), .int .u64 (d1 : Int), .int .u64 (d2 : Int), .int .u64 (d3 : Int), .int .u64 (d4 : Int), .int .i64 n, .slice A o c, .bool f, .slice B l k] 41)) 9 #[.string ⟨#[]⟩]; simpa using this
  have cT := try_ok 34 #[.pointer (some ⟨w.heap.size, 0, none⟩), .pointer (some ⟨w.heap.size + 1, 0, none⟩)] wA (w.heap.size + 1) (fun W => RowAt W (w.heap.size + 1) 9 [.string S]) (by omega) (enters_of Tryz.func34 (by kernel_rfl) rfl)
    (AggregateFn_ok w.heap.size S _ by_ d0 d1 d2 d3 d4 n f g A B C o c l k m j (ra.alloc _) (rs.alloc _) (hF _ (bA.alloc bA.size _))) (fun W h => h.far (by show w.heap.size + 1 ≠ wA.heap.size; omega) _)
  have HW := Lib.hid hwA
  clear hwA hF
  go_enter Tryz.func9, Tryz.ntmps9
  go_wp2_with fail
  rw [← HW.out]
  with_reducible refine cT.mono ?_
  rintro e w1 ⟨rfl, b1, s1⟩
  have bw := But.below bA b1 (by omega) bA.size
  have s0 := s1.one
  clear cT ra rs b1 s1 hz bA
  go_wp2_with fail
  go_ret2
  exact ⟨rfl, bw⟩
set_option maxHeartbeats 8000000 in
set_option maxRecDepth 100000 in
theorem Aggregate_no (y : Int) (w : World) (by_ d0 d1 d2 d3 d4 : Nat) (n : Int) (f g : Bool) (A B C : Option Addr) (o c l k m j : Nat) (hF : ∀ W, Below w.heap.size w W → Calls Tryz.prog 35 #[.agg #[.int .u64 (by_ : Int), .bool g, .slice C m j, .int .u64 (d0 : Int), .int .u64 (d1 : Int), .int .u64 (d2 : Int), .int .u64 (d3 : Int), .int .u64 (d4 : Int), .int .i64 n, .slice A o c, .bool f, .slice B l k]] W (Panics y W)) :
    Calls Tryz.prog 9 #[.agg #[.int .u64 (by_ : Int), .bool g, .slice C m j, .int .u64 (d0 : Int), .int .u64 (d1 : Int), .int .u64 (d2 : Int), .int .u64 (d3 : Int), .int .u64 (d4 : Int), .int .i64 n, .slice A o c, .bool f, .slice B l k]] w fun e w' => e = .returned (.tuple #[.string ⟨#[]⟩, .int .i64 y]) ∧ Below w.heap.size w w' := by
  have hmf : ∀ (fn : Fn) (first cap : Array Value) (w : World), (Instr.makeFunc fn first cap).run Tryz.prog w = .ok (.func fn first cap) w := fun _ _ _ _ => rfl
  obtain ⟨wA, hwA⟩ : ∃ wA, wA = (w.alloc (.cells #[.int .u64 (by_ : Int), .bool g, .slice C m j, .int .u64 (d0 : Int), .int .u64 (d1 : Int), .int .u64 (d2 : Int), .int .u64 (d3 : Int), .int .u64 (d4 : Int), .int .i64 n, .slice A o c, .bool f, .slice B l k] 41)).alloc (.cells #[.string ⟨#[]⟩] 9) := ⟨_, rfl⟩
  have bA : Below w.heap.size w wA := by rw [hwA]; exact ((Below.refl _ _).alloc (Nat.le_refl _) _).alloc (by simp) _
  have hz : wA.heap.size = w.heap.size + 2 := by rw [hwA]; simp
  have ra : RowAt wA w.heap.size 41 [.int .u64 (by_ : Int), .bool g, .slice C m j, .int .u64 (d0 : Int), .int .u64 (d1 : Int), .int .u64 (d2 : Int), .int .u64 (d3 : Int), .int .u64 (d4 : Int), .int .i64 n, .slice A o c, .bool f, .slice B l k] := by rw [hwA]; exact (RowAt.new w 41 #[.int .u64 (by_ : Int), .bool g, .slice C m j, .int .u64 (d0 : Int), .int .u64 (d1 : Int), .int .u64 (d2 : Int), .int .u64 (d3 : Int), .int .u64 (d4 : Int), .int .i64 n, .slice A o c, .bool f, .slice B l k]).alloc _
  have rs : RowAt wA (w.heap.size + 1) 9 [.string ⟨#[]⟩] := by rw [hwA]; have := RowAt.new (w.alloc (.cells #[.int .u64 (by_ : Int), .bool g, .slice C m j, .int .u64 (d0 : Int), .int .u64 (d1 : Int), .int .u64 (d2 : Int), .int .u64 (d3 : Int), .int .u64 (d4 : Int), .int .i64 n, .slice A o c, .bool f, .slice B l k] 41)) 9 #[.string ⟨#[]⟩]; simpa using this
  have cT := try_no 34 #[.pointer (some ⟨w.heap.size, 0, none⟩), .pointer (some ⟨w.heap.size + 1, 0, none⟩)] y wA (enters_of Tryz.func34 (by kernel_rfl) rfl) (AggregateFn_no w.heap.size y _ by_ d0 d1 d2 d3 d4 n f g A B C o c l k m j (ra.alloc _) (hF _ (bA.alloc bA.size _)))
  have HW := Lib.hid hwA
  clear hwA hF
  go_enter Tryz.func9, Tryz.ntmps9
  go_wp2_with fail
  rw [← HW.out]
  with_reducible refine cT.mono ?_
  rintro e w1 ⟨rfl, b1⟩
  have bw := bA.trans (b1.mono bA.size)
  have s1 := rs.on b1
  have s0 := s1.one
  clear cT ra rs b1 s1 hz bA
  go_wp2_with fail
  go_ret2
  exact ⟨rfl, bw⟩
end Go.Proofs.YtieheieiolobaaaGreatDoor

namespace Go.Proofs.YtieheieiolobaaaGreatDoor
open Go.RowKit

set_option maxHeartbeats 8000000 in
set_option maxRecDepth 100000 in
theorem UnvoteFn_ok (N : Nat) (s : ByteArray) (w : World) (d0 d1 d2 d3 d4 : Nat) (n : Int) (on : List Int) (f : Bool) (l : List Pr) (hN : N + 2 < w.heap.size) (ra : RowAt w N 9 [.string s]) (rv : RowAt w (N + 2) 32 [.int .u64 0, .int .u64 0, .int .u64 0, .int .u64 0, .int .u64 0, .int .i64 0, .slice none 0 0, .bool false, .slice none 0 0]) (hF : Calls Tryz.prog 38 #[.string s] w fun e w' => ∃ A c B k, e = .returned (.agg #[.int .u64 (d0 : Int), .int .u64 (d1 : Int), .int .u64 (d2 : Int), .int .u64 (d3 : Int), .int .u64 (d4 : Int), .int .i64 n, .slice A on.length c, .bool f, .slice B l.length k]) ∧ Bt w' (.agg #[.int .i64 n, .slice A on.length c]) n on ∧ Tk w' (.agg #[.bool f, .slice B l.length k]) f l ∧ Below w.heap.size w w' ∧ Newer w.heap.size (.agg #[.int .i64 n, .slice A on.length c]) ∧ Newer w.heap.size (.agg #[.bool f, .slice B l.length k])) :
    Calls Tryz.prog 37 #[.pointer (some ⟨N, 0, none⟩), .pointer (some ⟨N + 2, 0, none⟩)] w fun e w' => e = .returned (.tuple #[]) ∧ But (N + 2) w w' ∧ ∃ A c B k, RowAt w' (N + 2) 32 [.int .u64 (d0 : Int), .int .u64 (d1 : Int), .int .u64 (d2 : Int), .int .u64 (d3 : Int), .int .u64 (d4 : Int), .int .i64 n, .slice A on.length c, .bool f, .slice B l.length k] ∧ Bt w' (.agg #[.int .i64 n, .slice A on.length c]) n on ∧ Tk w' (.agg #[.bool f, .slice B l.length k]) f l ∧ Newer w.heap.size (.agg #[.int .i64 n, .slice A on.length c]) ∧ Newer w.heap.size (.agg #[.bool f, .slice B l.length k]) := by
  have a0 := ra.cell 0
  simp only [List.getElem?_cons_succ, List.getElem?_cons_zero] at a0
  go_enter Tryz.func37, Tryz.ntmps37
  go_wp2_with fail
  with_reducible refine hF.mono ?_
  rintro e w1 ⟨A, c, B, k, rfl, u0, u1, b1, n0, n1⟩
  have rv1 := rv.on b1
  have v0 := rv1.cell 0
  have fv0 := rv1.frozen 0
  have v1 := rv1.cell 1
  have fv1 := rv1.frozen 1
  have v2 := rv1.cell 2
  have fv2 := rv1.frozen 2
  have v3 := rv1.cell 3
  have fv3 := rv1.frozen 3
  have v4 := rv1.cell 4
  have fv4 := rv1.frozen 4
  have v5 := rv1.cell 5
  have fv5 := rv1.frozen 5
  have v6 := rv1.cell 6
  have fv6 := rv1.frozen 6
  have v7 := rv1.cell 7
  have fv7 := rv1.frozen 7
  have v8 := rv1.cell 8
  have fv8 := rv1.frozen 8
  simp only [List.getElem?_cons_succ, List.getElem?_cons_zero] at v0 v1 v2 v3 v4 v5 v6 v7 v8
  have HN := Lib.hid hN
  clear a0 hN
  go_wp2_with fail
  go_end0
  refine ⟨rfl, ((((((((((But.of_below b1).setCell 0 _).setCell 1 _).setCell 2 _).setCell 3 _).setCell 4 _).setCell 5 _).setCell 6 _).setCell 7 _).setCell 8 _), A, c, B, k, (((((((((rv1.set 0 _).set 1 _).set 2 _).set 3 _).set 4 _).set 5 _).set 6 _).set 7 _).set 8 _), ?_, ?_, n0, n1⟩
  · refine Bt.setNew ?_ n0 HN.out _; refine Bt.setNew ?_ n0 HN.out _; refine Bt.setNew ?_ n0 HN.out _; refine Bt.setNew ?_ n0 HN.out _; refine Bt.setNew ?_ n0 HN.out _; refine Bt.setNew ?_ n0 HN.out _; refine Bt.setNew ?_ n0 HN.out _; refine Bt.setNew ?_ n0 HN.out _; refine Bt.setNew ?_ n0 HN.out _; exact u0
  · refine Tk.setNew ?_ n1 HN.out _; refine Tk.setNew ?_ n1 HN.out _; refine Tk.setNew ?_ n1 HN.out _; refine Tk.setNew ?_ n1 HN.out _; refine Tk.setNew ?_ n1 HN.out _; refine Tk.setNew ?_ n1 HN.out _; refine Tk.setNew ?_ n1 HN.out _; refine Tk.setNew ?_ n1 HN.out _; refine Tk.setNew ?_ n1 HN.out _; exact u1
theorem UnvoteFn_no (N : Nat) (y : Int) (s : ByteArray) (w : World) (ra : RowAt w N 9 [.string s]) (hF : Calls Tryz.prog 38 #[.string s] w (Panics y w)) :
    Calls Tryz.prog 37 #[.pointer (some ⟨N, 0, none⟩), .pointer (some ⟨N + 2, 0, none⟩)] w (Panics y w) := by
  have a0 := ra.cell 0
  simp only [List.getElem?_cons_succ, List.getElem?_cons_zero] at a0
  go_enter Tryz.func37, Tryz.ntmps37
  go_wp2_with fail
  with_reducible refine hF.mono ?_
  rintro e w1 ⟨rfl, b1⟩
  exact ⟨rfl, rfl, b1⟩
set_option maxHeartbeats 8000000 in
set_option maxRecDepth 100000 in
theorem Unvote_by (s : ByteArray) (w : World) (d0 d1 d2 d3 d4 : Nat) (n : Int) (on : List Int) (f : Bool) (l : List Pr) (hF : ∀ W, Calls Tryz.prog 38 #[.string s] W fun e w' => ∃ A c B k, e = .returned (.agg #[.int .u64 (d0 : Int), .int .u64 (d1 : Int), .int .u64 (d2 : Int), .int .u64 (d3 : Int), .int .u64 (d4 : Int), .int .i64 n, .slice A on.length c, .bool f, .slice B l.length k]) ∧ Bt w' (.agg #[.int .i64 n, .slice A on.length c]) n on ∧ Tk w' (.agg #[.bool f, .slice B l.length k]) f l ∧ Below W.heap.size W w' ∧ Newer W.heap.size (.agg #[.int .i64 n, .slice A on.length c]) ∧ Newer W.heap.size (.agg #[.bool f, .slice B l.length k])) :
    Calls Tryz.prog 13 #[.string s] w fun e w' => ∃ A c B k, e = .returned (.tuple #[.agg #[.int .u64 (d0 : Int), .int .u64 (d1 : Int), .int .u64 (d2 : Int), .int .u64 (d3 : Int), .int .u64 (d4 : Int), .int .i64 n, .slice A on.length c, .bool f, .slice B l.length k], .int .i64 0]) ∧ Bt w' (.agg #[.int .i64 n, .slice A on.length c]) n on ∧ Tk w' (.agg #[.bool f, .slice B l.length k]) f l ∧ Below w.heap.size w w' := by
  have hmf : ∀ (fn : Fn) (first cap : Array Value) (w : World), (Instr.makeFunc fn first cap).run Tryz.prog w = .ok (.func fn first cap) w := fun _ _ _ _ => rfl
  obtain ⟨wA, hwA⟩ : ∃ wA, wA = ((w.alloc (.cells #[.string s] 9)).alloc (.cells #[.int .u64 0, .int .u64 0, .int .u64 0, .int .u64 0, .int .u64 0, .int .i64 0, .slice none 0 0, .bool false, .slice none 0 0] 32)).alloc (.cells #[.int .u64 0, .int .u64 0, .int .u64 0, .int .u64 0, .int .u64 0, .int .i64 0, .slice none 0 0, .bool false, .slice none 0 0] 32) := ⟨_, rfl⟩
  have bA : Below w.heap.size w wA := by rw [hwA]; exact (((Below.refl _ _).alloc (Nat.le_refl _) _).alloc (by simp) _).alloc (by simp <;> omega) _
  have hz : wA.heap.size = w.heap.size + 3 := by rw [hwA]; simp
  have ra : RowAt wA w.heap.size 9 [.string s] := by rw [hwA]; exact ((RowAt.new w 9 #[.string s]).alloc _).alloc _
  have rr : RowAt wA (w.heap.size + 1) 32 [.int .u64 0, .int .u64 0, .int .u64 0, .int .u64 0, .int .u64 0, .int .i64 0, .slice none 0 0, .bool false, .slice none 0 0] := by rw [hwA]; have := (RowAt.new (w.alloc (.cells #[.string s] 9)) 32 #[.int .u64 0, .int .u64 0, .int .u64 0, .int .u64 0, .int .u64 0, .int .i64 0, .slice none 0 0, .bool false, .slice none 0 0]).alloc (.cells #[.int .u64 0, .int .u64 0, .int .u64 0, .int .u64 0, .int .u64 0, .int .i64 0, .slice none 0 0, .bool false, .slice none 0 0] 32); simpa using this
  have rv : RowAt wA (w.heap.size + 2) 32 [.int .u64 0, .int .u64 0, .int .u64 0, .int .u64 0, .int .u64 0, .int .i64 0, .slice none 0 0, .bool false, .slice none 0 0] := by rw [hwA]; have := RowAt.new ((w.alloc (.cells #[.string s] 9)).alloc (.cells #[.int .u64 0, .int .u64 0, .int .u64 0, .int .u64 0, .int .u64 0, .int .i64 0, .slice none 0 0, .bool false, .slice none 0 0] 32)) 32 #[.int .u64 0, .int .u64 0, .int .u64 0, .int .u64 0, .int .u64 0, .int .i64 0, .slice none 0 0, .bool false, .slice none 0 0]; simpa using this
  have hlo : wA.heap.size < (wA.alloc (.cells #[.int .i64 0] 44)).heap.size := by simp
  have cT := try_ok 37 #[.pointer (some ⟨w.heap.size, 0, none⟩), .pointer (some ⟨w.heap.size + 2, 0, none⟩)] wA (w.heap.size + 2) (fun W => ∃ A c B k, RowAt W (w.heap.size + 2) 32 [.int .u64 (d0 : Int), .int .u64 (d1 : Int), .int .u64 (d2 : Int), .int .u64 (d3 : Int), .int .u64 (d4 : Int), .int .i64 n, .slice A on.length c, .bool f, .slice B l.length k] ∧ Bt W (.agg #[.int .i64 n, .slice A on.length c]) n on ∧ Tk W (.agg #[.bool f, .slice B l.length k]) f l ∧ Newer (wA.alloc (.cells #[.int .i64 0] 44)).heap.size (.agg #[.int .i64 n, .slice A on.length c]) ∧ Newer (wA.alloc (.cells #[.int .i64 0] 44)).heap.size (.agg #[.bool f, .slice B l.length k])) (by omega) (enters_of Tryz.func37 (by kernel_rfl) rfl)
    (UnvoteFn_ok w.heap.size s _ d0 d1 d2 d3 d4 n on f l (by simp; omega) (ra.alloc _) (rv.alloc _) (hF _)) (by
      rintro W ⟨A, c, B, k, h, u0, u1, n0, n1⟩
      exact ⟨A, c, B, k, h.far (by show w.heap.size + 2 ≠ wA.heap.size; omega) _, u0.setNew n0 hlo _, u1.setNew n1 hlo _, n0, n1⟩)
  have HW := Lib.hid hwA
  clear hwA hF
  go_enter Tryz.func13, Tryz.ntmps13
  go_wp2_with fail
  rw [← HW.out]
  with_reducible refine cT.mono ?_
  rintro e w1 ⟨rfl, b1, A, c, B, k, v1, u0, u1, n0, n1⟩
  have bw := But.below bA b1 (by omega) bA.size
  have r1 := b1.rowAt rr (by omega)
  have HL := Lib.hid (show w.heap.size + 1 < (wA.alloc (.cells #[.int .i64 0] 44)).heap.size by omega)
  clear hlo
  have cv0 := v1.cell 0
  have cv1 := v1.cell 1
  have cv2 := v1.cell 2
  have cv3 := v1.cell 3
  have cv4 := v1.cell 4
  have cv5 := v1.cell 5
  have cv6 := v1.cell 6
  have cv7 := v1.cell 7
  have cv8 := v1.cell 8
  simp only [List.getElem?_cons_succ, List.getElem?_cons_zero] at cv0 cv1 cv2 cv3 cv4 cv5 cv6 cv7 cv8
  have cr0 := r1.cell 0
  have fcr0 := r1.frozen 0
  have cr1 := r1.cell 1
  have fcr1 := r1.frozen 1
  have cr2 := r1.cell 2
  have fcr2 := r1.frozen 2
  have cr3 := r1.cell 3
  have fcr3 := r1.frozen 3
  have cr4 := r1.cell 4
  have fcr4 := r1.frozen 4
  have cr5 := r1.cell 5
  have fcr5 := r1.frozen 5
  have cr6 := r1.cell 6
  have fcr6 := r1.frozen 6
  have cr7 := r1.cell 7
  have fcr7 := r1.frozen 7
  have cr8 := r1.cell 8
  have fcr8 := r1.frozen 8
  simp only [List.getElem?_cons_succ, List.getElem?_cons_zero] at cr0 cr1 cr2 cr3 cr4 cr5 cr6 cr7 cr8
  clear cT ra rv rr b1 v1 r1 hz bA
  go_wp2_with fail
  refine bodyPost_ret (v := .tuple #[.agg #[.int .u64 (d0 : Int), .int .u64 (d1 : Int), .int .u64 (d2 : Int), .int .u64 (d3 : Int), .int .u64 (d4 : Int), .int .i64 n, .slice A on.length c, .bool f, .slice B l.length k], .int .i64 0]) (by simp [results, Tryz.results13, go_sem, *]) rfl ?_
  refine ⟨A, c, B, k, rfl, ?_, ?_, ?_⟩
  · refine Bt.setNew ?_ n0 HL.out _; refine Bt.setNew ?_ n0 HL.out _; refine Bt.setNew ?_ n0 HL.out _; refine Bt.setNew ?_ n0 HL.out _; refine Bt.setNew ?_ n0 HL.out _; refine Bt.setNew ?_ n0 HL.out _; refine Bt.setNew ?_ n0 HL.out _; refine Bt.setNew ?_ n0 HL.out _; refine Bt.setNew ?_ n0 HL.out _; exact u0
  · refine Tk.setNew ?_ n1 HL.out _; refine Tk.setNew ?_ n1 HL.out _; refine Tk.setNew ?_ n1 HL.out _; refine Tk.setNew ?_ n1 HL.out _; refine Tk.setNew ?_ n1 HL.out _; refine Tk.setNew ?_ n1 HL.out _; refine Tk.setNew ?_ n1 HL.out _; refine Tk.setNew ?_ n1 HL.out _; refine Tk.setNew ?_ n1 HL.out _; exact u1
  · refine Below.setCell ?_ (by show w.heap.size ≤ w.heap.size + 1; omega) _; refine Below.setCell ?_ (by show w.heap.size ≤ w.heap.size + 1; omega) _; refine Below.setCell ?_ (by show w.heap.size ≤ w.heap.size + 1; omega) _; refine Below.setCell ?_ (by show w.heap.size ≤ w.heap.size + 1; omega) _; refine Below.setCell ?_ (by show w.heap.size ≤ w.heap.size + 1; omega) _; refine Below.setCell ?_ (by show w.heap.size ≤ w.heap.size + 1; omega) _; refine Below.setCell ?_ (by show w.heap.size ≤ w.heap.size + 1; omega) _; refine Below.setCell ?_ (by show w.heap.size ≤ w.heap.size + 1; omega) _; refine Below.setCell ?_ (by show w.heap.size ≤ w.heap.size + 1; omega) _; exact bw
set_option maxHeartbeats 8000000 in
set_option maxRecDepth 100000 in
theorem Unvote_no (y : Int) (s : ByteArray) (w : World) (hF : ∀ W, Calls Tryz.prog 38 #[.string s] W (Panics y W)) :
    Calls Tryz.prog 13 #[.string s] w fun e w' => e = .returned (.tuple #[.agg #[.int .u64 0, .int .u64 0, .int .u64 0, .int .u64 0, .int .u64 0, .int .i64 0, .slice none 0 0, .bool false, .slice none 0 0], .int .i64 y]) ∧ Below w.heap.size w w' := by
  have hmf : ∀ (fn : Fn) (first cap : Array Value) (w : World), (Instr.makeFunc fn first cap).run Tryz.prog w = .ok (.func fn first cap) w := fun _ _ _ _ => rfl
  obtain ⟨wA, hwA⟩ : ∃ wA, wA = ((w.alloc (.cells #[.string s] 9)).alloc (.cells #[.int .u64 0, .int .u64 0, .int .u64 0, .int .u64 0, .int .u64 0, .int .i64 0, .slice none 0 0, .bool false, .slice none 0 0] 32)).alloc (.cells #[.int .u64 0, .int .u64 0, .int .u64 0, .int .u64 0, .int .u64 0, .int .i64 0, .slice none 0 0, .bool false, .slice none 0 0] 32) := ⟨_, rfl⟩
  have bA : Below w.heap.size w wA := by rw [hwA]; exact (((Below.refl _ _).alloc (Nat.le_refl _) _).alloc (by simp) _).alloc (by simp <;> omega) _
  have hz : wA.heap.size = w.heap.size + 3 := by rw [hwA]; simp
  have ra : RowAt wA w.heap.size 9 [.string s] := by rw [hwA]; exact ((RowAt.new w 9 #[.string s]).alloc _).alloc _
  have rr : RowAt wA (w.heap.size + 1) 32 [.int .u64 0, .int .u64 0, .int .u64 0, .int .u64 0, .int .u64 0, .int .i64 0, .slice none 0 0, .bool false, .slice none 0 0] := by rw [hwA]; have := (RowAt.new (w.alloc (.cells #[.string s] 9)) 32 #[.int .u64 0, .int .u64 0, .int .u64 0, .int .u64 0, .int .u64 0, .int .i64 0, .slice none 0 0, .bool false, .slice none 0 0]).alloc (.cells #[.int .u64 0, .int .u64 0, .int .u64 0, .int .u64 0, .int .u64 0, .int .i64 0, .slice none 0 0, .bool false, .slice none 0 0] 32); simpa using this
  have rv : RowAt wA (w.heap.size + 2) 32 [.int .u64 0, .int .u64 0, .int .u64 0, .int .u64 0, .int .u64 0, .int .i64 0, .slice none 0 0, .bool false, .slice none 0 0] := by rw [hwA]; have := RowAt.new ((w.alloc (.cells #[.string s] 9)).alloc (.cells #[.int .u64 0, .int .u64 0, .int .u64 0, .int .u64 0, .int .u64 0, .int .i64 0, .slice none 0 0, .bool false, .slice none 0 0] 32)) 32 #[.int .u64 0, .int .u64 0, .int .u64 0, .int .u64 0, .int .u64 0, .int .i64 0, .slice none 0 0, .bool false, .slice none 0 0]; simpa using this
  have cT := try_no 37 #[.pointer (some ⟨w.heap.size, 0, none⟩), .pointer (some ⟨w.heap.size + 2, 0, none⟩)] y wA (enters_of Tryz.func37 (by kernel_rfl) rfl) (UnvoteFn_no w.heap.size y s _ (ra.alloc _) (hF _))
  have HW := Lib.hid hwA
  clear hwA hF
  go_enter Tryz.func13, Tryz.ntmps13
  go_wp2_with fail
  rw [← HW.out]
  with_reducible refine cT.mono ?_
  rintro e w1 ⟨rfl, b1⟩
  have bw := bA.trans (b1.mono bA.size)
  have v1 := rv.on b1
  have r1 := rr.on b1
  have cv0 := v1.cell 0
  have cv1 := v1.cell 1
  have cv2 := v1.cell 2
  have cv3 := v1.cell 3
  have cv4 := v1.cell 4
  have cv5 := v1.cell 5
  have cv6 := v1.cell 6
  have cv7 := v1.cell 7
  have cv8 := v1.cell 8
  simp only [List.getElem?_cons_succ, List.getElem?_cons_zero] at cv0 cv1 cv2 cv3 cv4 cv5 cv6 cv7 cv8
  have cr0 := r1.cell 0
  have fcr0 := r1.frozen 0
  have cr1 := r1.cell 1
  have fcr1 := r1.frozen 1
  have cr2 := r1.cell 2
  have fcr2 := r1.frozen 2
  have cr3 := r1.cell 3
  have fcr3 := r1.frozen 3
  have cr4 := r1.cell 4
  have fcr4 := r1.frozen 4
  have cr5 := r1.cell 5
  have fcr5 := r1.frozen 5
  have cr6 := r1.cell 6
  have fcr6 := r1.frozen 6
  have cr7 := r1.cell 7
  have fcr7 := r1.frozen 7
  have cr8 := r1.cell 8
  have fcr8 := r1.frozen 8
  simp only [List.getElem?_cons_succ, List.getElem?_cons_zero] at cr0 cr1 cr2 cr3 cr4 cr5 cr6 cr7 cr8
  clear cT ra rv rr b1 v1 r1 hz bA
  go_wp2_with fail
  refine bodyPost_ret (v := .tuple #[.agg #[.int .u64 0, .int .u64 0, .int .u64 0, .int .u64 0, .int .u64 0, .int .i64 0, .slice none 0 0, .bool false, .slice none 0 0], .int .i64 y]) (by simp [results, Tryz.results13, go_sem, *]) rfl ?_
  refine ⟨rfl, ?_⟩
  · refine Below.setCell ?_ (by show w.heap.size ≤ w.heap.size + 1; omega) _; refine Below.setCell ?_ (by show w.heap.size ≤ w.heap.size + 1; omega) _; refine Below.setCell ?_ (by show w.heap.size ≤ w.heap.size + 1; omega) _; refine Below.setCell ?_ (by show w.heap.size ≤ w.heap.size + 1; omega) _; refine Below.setCell ?_ (by show w.heap.size ≤ w.heap.size + 1; omega) _; refine Below.setCell ?_ (by show w.heap.size ≤ w.heap.size + 1; omega) _; refine Below.setCell ?_ (by show w.heap.size ≤ w.heap.size + 1; omega) _; refine Below.setCell ?_ (by show w.heap.size ≤ w.heap.size + 1; omega) _; refine Below.setCell ?_ (by show w.heap.size ≤ w.heap.size + 1; omega) _; exact bw
set_option maxHeartbeats 8000000 in
set_option maxRecDepth 100000 in
theorem UnaggregateFn_ok (N : Nat) (s : ByteArray) (w : World) (a d0 d1 d2 d3 d4 : Nat) (n : Int) (on : List Int) (f h : Bool) (l m : List Pr) (hN : N + 2 < w.heap.size) (ra : RowAt w N 9 [.string s]) (rv : RowAt w (N + 2) 41 [.int .u64 0, .bool false, .slice none 0 0, .int .u64 0, .int .u64 0, .int .u64 0, .int .u64 0, .int .u64 0, .int .i64 0, .slice none 0 0, .bool false, .slice none 0 0]) (hF : Calls Tryz.prog 44 #[.string s] w fun e w' => ∃ C j A c B k, e = .returned (.agg #[.int .u64 (a : Int), .bool h, .slice C m.length j, .int .u64 (d0 : Int), .int .u64 (d1 : Int), .int .u64 (d2 : Int), .int .u64 (d3 : Int), .int .u64 (d4 : Int), .int .i64 n, .slice A on.length c, .bool f, .slice B l.length k]) ∧ Tk w' (.agg #[.bool h, .slice C m.length j]) h m ∧ Bt w' (.agg #[.int .i64 n, .slice A on.length c]) n on ∧ Tk w' (.agg #[.bool f, .slice B l.length k]) f l ∧ Below w.heap.size w w' ∧ Newer w.heap.size (.agg #[.bool h, .slice C m.length j]) ∧ Newer w.heap.size (.agg #[.int .i64 n, .slice A on.length c]) ∧ Newer w.heap.size (.agg #[.bool f, .slice B l.length k])) :
    Calls Tryz.prog 43 #[.pointer (some ⟨N, 0, none⟩), .pointer (some ⟨N + 2, 0, none⟩)] w fun e w' => e = .returned (.tuple #[]) ∧ But (N + 2) w w' ∧ ∃ C j A c B k, RowAt w' (N + 2) 41 [.int .u64 (a : Int), .bool h, .slice C m.length j, .int .u64 (d0 : Int), .int .u64 (d1 : Int), .int .u64 (d2 : Int), .int .u64 (d3 : Int), .int .u64 (d4 : Int), .int .i64 n, .slice A on.length c, .bool f, .slice B l.length k] ∧ Tk w' (.agg #[.bool h, .slice C m.length j]) h m ∧ Bt w' (.agg #[.int .i64 n, .slice A on.length c]) n on ∧ Tk w' (.agg #[.bool f, .slice B l.length k]) f l ∧ Newer w.heap.size (.agg #[.bool h, .slice C m.length j]) ∧ Newer w.heap.size (.agg #[.int .i64 n, .slice A on.length c]) ∧ Newer w.heap.size (.agg #[.bool f, .slice B l.length k]) := by
  have a0 := ra.cell 0
  simp only [List.getElem?_cons_succ, List.getElem?_cons_zero] at a0
  go_enter Tryz.func43, Tryz.ntmps43
  go_wp2_with fail
  with_reducible refine hF.mono ?_
  rintro e w1 ⟨C, j, A, c, B, k, rfl, u0, u1, u2, b1, n0, n1, n2⟩
  have rv1 := rv.on b1
  have v0 := rv1.cell 0
  have fv0 := rv1.frozen 0
  have v1 := rv1.cell 1
  have fv1 := rv1.frozen 1
  have v2 := rv1.cell 2
  have fv2 := rv1.frozen 2
  have v3 := rv1.cell 3
  have fv3 := rv1.frozen 3
  have v4 := rv1.cell 4
  have fv4 := rv1.frozen 4
  have v5 := rv1.cell 5
  have fv5 := rv1.frozen 5
  have v6 := rv1.cell 6
  have fv6 := rv1.frozen 6
  have v7 := rv1.cell 7
  have fv7 := rv1.frozen 7
  have v8 := rv1.cell 8
  have fv8 := rv1.frozen 8
  have v9 := rv1.cell 9
  have fv9 := rv1.frozen 9
  have v10 := rv1.cell 10
  have fv10 := rv1.frozen 10
  have v11 := rv1.cell 11
  have fv11 := rv1.frozen 11
  simp only [List.getElem?_cons_succ, List.getElem?_cons_zero] at v0 v1 v2 v3 v4 v5 v6 v7 v8 v9 v10 v11
  have HN := Lib.hid hN
  clear a0 hN
  go_wp2_with fail
  go_end0
  refine ⟨rfl, (((((((((((((But.of_below b1).setCell 0 _).setCell 1 _).setCell 2 _).setCell 3 _).setCell 4 _).setCell 5 _).setCell 6 _).setCell 7 _).setCell 8 _).setCell 9 _).setCell 10 _).setCell 11 _), C, j, A, c, B, k, ((((((((((((rv1.set 0 _).set 1 _).set 2 _).set 3 _).set 4 _).set 5 _).set 6 _).set 7 _).set 8 _).set 9 _).set 10 _).set 11 _), ?_, ?_, ?_, n0, n1, n2⟩
  · refine Tk.setNew ?_ n0 HN.out _; refine Tk.setNew ?_ n0 HN.out _; refine Tk.setNew ?_ n0 HN.out _; refine Tk.setNew ?_ n0 HN.out _; refine Tk.setNew ?_ n0 HN.out _; refine Tk.setNew ?_ n0 HN.out _; refine Tk.setNew ?_ n0 HN.out _; refine Tk.setNew ?_ n0 HN.out _; refine Tk.setNew ?_ n0 HN.out _; refine Tk.setNew ?_ n0 HN.out _; refine Tk.setNew ?_ n0 HN.out _; refine Tk.setNew ?_ n0 HN.out _; exact u0
  · refine Bt.setNew ?_ n1 HN.out _; refine Bt.setNew ?_ n1 HN.out _; refine Bt.setNew ?_ n1 HN.out _; refine Bt.setNew ?_ n1 HN.out _; refine Bt.setNew ?_ n1 HN.out _; refine Bt.setNew ?_ n1 HN.out _; refine Bt.setNew ?_ n1 HN.out _; refine Bt.setNew ?_ n1 HN.out _; refine Bt.setNew ?_ n1 HN.out _; refine Bt.setNew ?_ n1 HN.out _; refine Bt.setNew ?_ n1 HN.out _; refine Bt.setNew ?_ n1 HN.out _; exact u1
  · refine Tk.setNew ?_ n2 HN.out _; refine Tk.setNew ?_ n2 HN.out _; refine Tk.setNew ?_ n2 HN.out _; refine Tk.setNew ?_ n2 HN.out _; refine Tk.setNew ?_ n2 HN.out _; refine Tk.setNew ?_ n2 HN.out _; refine Tk.setNew ?_ n2 HN.out _; refine Tk.setNew ?_ n2 HN.out _; refine Tk.setNew ?_ n2 HN.out _; refine Tk.setNew ?_ n2 HN.out _; refine Tk.setNew ?_ n2 HN.out _; refine Tk.setNew ?_ n2 HN.out _; exact u2
theorem UnaggregateFn_no (N : Nat) (y : Int) (s : ByteArray) (w : World) (ra : RowAt w N 9 [.string s]) (hF : Calls Tryz.prog 44 #[.string s] w (Panics y w)) :
    Calls Tryz.prog 43 #[.pointer (some ⟨N, 0, none⟩), .pointer (some ⟨N + 2, 0, none⟩)] w (Panics y w) := by
  have a0 := ra.cell 0
  simp only [List.getElem?_cons_succ, List.getElem?_cons_zero] at a0
  go_enter Tryz.func43, Tryz.ntmps43
  go_wp2_with fail
  with_reducible refine hF.mono ?_
  rintro e w1 ⟨rfl, b1⟩
  exact ⟨rfl, rfl, b1⟩
set_option maxHeartbeats 8000000 in
set_option maxRecDepth 100000 in
theorem Unaggregate_by (s : ByteArray) (w : World) (a d0 d1 d2 d3 d4 : Nat) (n : Int) (on : List Int) (f h : Bool) (l m : List Pr) (hF : ∀ W, Calls Tryz.prog 44 #[.string s] W fun e w' => ∃ C j A c B k, e = .returned (.agg #[.int .u64 (a : Int), .bool h, .slice C m.length j, .int .u64 (d0 : Int), .int .u64 (d1 : Int), .int .u64 (d2 : Int), .int .u64 (d3 : Int), .int .u64 (d4 : Int), .int .i64 n, .slice A on.length c, .bool f, .slice B l.length k]) ∧ Tk w' (.agg #[.bool h, .slice C m.length j]) h m ∧ Bt w' (.agg #[.int .i64 n, .slice A on.length c]) n on ∧ Tk w' (.agg #[.bool f, .slice B l.length k]) f l ∧ Below W.heap.size W w' ∧ Newer W.heap.size (.agg #[.bool h, .slice C m.length j]) ∧ Newer W.heap.size (.agg #[.int .i64 n, .slice A on.length c]) ∧ Newer W.heap.size (.agg #[.bool f, .slice B l.length k])) :
    Calls Tryz.prog 15 #[.string s] w fun e w' => ∃ C j A c B k, e = .returned (.tuple #[.agg #[.int .u64 (a : Int), .bool h, .slice C m.length j, .int .u64 (d0 : Int), .int .u64 (d1 : Int), .int .u64 (d2 : Int), .int .u64 (d3 : Int), .int .u64 (d4 : Int), .int .i64 n, .slice A on.length c, .bool f, .slice B l.length k], .int .i64 0]) ∧ Tk w' (.agg #[.bool h, .slice C m.length j]) h m ∧ Bt w' (.agg #[.int .i64 n, .slice A on.length c]) n on ∧ Tk w' (.agg #[.bool f, .slice B l.length k]) f l ∧ Below w.heap.size w w' := by
  have hmf : ∀ (fn : Fn) (first cap : Array Value) (w : World), (Instr.makeFunc fn first cap).run Tryz.prog w = .ok (.func fn first cap) w := fun _ _ _ _ => rfl
  obtain ⟨wA, hwA⟩ : ∃ wA, wA = ((w.alloc (.cells #[.string s] 9)).alloc (.cells #[.int .u64 0, .bool false, .slice none 0 0, .int .u64 0, .int .u64 0, .int .u64 0, .int .u64 0, .int .u64 0, .int .i64 0, .slice none 0 0, .bool false, .slice none 0 0] 41)).alloc (.cells #[.int .u64 0, .bool false, .slice none 0 0, .int .u64 0, .int .u64 0, .int .u64 0, .int .u64 0, .int .u64 0, .int .i64 0, .slice none 0 0, .bool false, .slice none 0 0] 41) := ⟨_, rfl⟩
  have bA : Below w.heap.size w wA := by rw [hwA]; exact (((Below.refl _ _).alloc (Nat.le_refl _) _).alloc (by simp) _).alloc (by simp <;> omega) _
  have hz : wA.heap.size = w.heap.size + 3 := by rw [hwA]; simp
  have ra : RowAt wA w.heap.size 9 [.string s] := by rw [hwA]; exact ((RowAt.new w 9 #[.string s]).alloc _).alloc _
  have rr : RowAt wA (w.heap.size + 1) 41 [.int .u64 0, .bool false, .slice none 0 0, .int .u64 0, .int .u64 0, .int .u64 0, .int .u64 0, .int .u64 0, .int .i64 0, .slice none 0 0, .bool false, .slice none 0 0] := by rw [hwA]; have := (RowAt.new (w.alloc (.cells #[.string s] 9)) 41 #[.int .u64 0, .bool false, .slice none 0 0, .int .u64 0, .int .u64 0, .int .u64 0, .int .u64 0, .int .u64 0, .int .i64 0, .slice none 0 0, .bool false, .slice none 0 0]).alloc (.cells #[.int .u64 0, .bool false, .slice none 0 0, .int .u64 0, .int .u64 0, .int .u64 0, .int .u64 0, .int .u64 0, .int .i64 0, .slice none 0 0, .bool false, .slice none 0 0] 41); simpa using this
  have rv : RowAt wA (w.heap.size + 2) 41 [.int .u64 0, .bool false, .slice none 0 0, .int .u64 0, .int .u64 0, .int .u64 0, .int .u64 0, .int .u64 0, .int .i64 0, .slice none 0 0, .bool false, .slice none 0 0] := by rw [hwA]; have := RowAt.new ((w.alloc (.cells #[.string s] 9)).alloc (.cells #[.int .u64 0, .bool false, .slice none 0 0, .int .u64 0, .int .u64 0, .int .u64 0, .int .u64 0, .int .u64 0, .int .i64 0, .slice none 0 0, .bool false, .slice none 0 0] 41)) 41 #[.int .u64 0, .bool false, .slice none 0 0, .int .u64 0, .int .u64 0, .int .u64 0, .int .u64 0, .int .u64 0, .int .i64 0, .slice none 0 0, .bool false, .slice none 0 0]; simpa using this
  have hlo : wA.heap.size < (wA.alloc (.cells #[.int .i64 0] 44)).heap.size := by simp
  have cT := try_ok 43 #[.pointer (some ⟨w.heap.size, 0, none⟩), .pointer (some ⟨w.heap.size + 2, 0, none⟩)] wA (w.heap.size + 2) (fun W => ∃ C j A c B k, RowAt W (w.heap.size + 2) 41 [.int .u64 (a : Int), .bool h, .slice C m.length j, .int .u64 (d0 : Int), .int .u64 (d1 : Int), .int .u64 (d2 : Int), .int .u64 (d3 : Int), .int .u64 (d4 : Int), .int .i64 n, .slice A on.length c, .bool f, .slice B l.length k] ∧ Tk W (.agg #[.bool h, .slice C m.length j]) h m ∧ Bt W (.agg #[.int .i64 n, .slice A on.length c]) n on ∧ Tk W (.agg #[.bool f, .slice B l.length k]) f l ∧ Newer (wA.alloc (.cells #[.int .i64 0] 44)).heap.size (.agg #[.bool h, .slice C m.length j]) ∧ Newer (wA.alloc (.cells #[.int .i64 0] 44)).heap.size (.agg #[.int .i64 n, .slice A on.length c]) ∧ Newer (wA.alloc (.cells #[.int .i64 0] 44)).heap.size (.agg #[.bool f, .slice B l.length k])) (by omega) (enters_of Tryz.func43 (by kernel_rfl) rfl)
    (UnaggregateFn_ok w.heap.size s _ a d0 d1 d2 d3 d4 n on f h l m (by simp; omega) (ra.alloc _) (rv.alloc _) (hF _)) (by
      rintro W ⟨C, j, A, c, B, k, h, u0, u1, u2, n0, n1, n2⟩
      exact ⟨C, j, A, c, B, k, h.far (by show w.heap.size + 2 ≠ wA.heap.size; omega) _, u0.setNew n0 hlo _, u1.setNew n1 hlo _, u2.setNew n2 hlo _, n0, n1, n2⟩)
  have HW := Lib.hid hwA
  clear hwA hF
  go_enter Tryz.func15, Tryz.ntmps15
  go_wp2_with fail
  rw [← HW.out]
  with_reducible refine cT.mono ?_
  rintro e w1 ⟨rfl, b1, C, j, A, c, B, k, v1, u0, u1, u2, n0, n1, n2⟩
  have bw := But.below bA b1 (by omega) bA.size
  have r1 := b1.rowAt rr (by omega)
  have HL := Lib.hid (show w.heap.size + 1 < (wA.alloc (.cells #[.int .i64 0] 44)).heap.size by omega)
  clear hlo
  have cv0 := v1.cell 0
  have cv1 := v1.cell 1
  have cv2 := v1.cell 2
  have cv3 := v1.cell 3
  have cv4 := v1.cell 4
  have cv5 := v1.cell 5
  have cv6 := v1.cell 6
  have cv7 := v1.cell 7
  have cv8 := v1.cell 8
  have cv9 := v1.cell 9
  have cv10 := v1.cell 10
  have cv11 := v1.cell 11
  simp only [List.getElem?_cons_succ, List.getElem?_cons_zero] at cv0 cv1 cv2 cv3 cv4 cv5 cv6 cv7 cv8 cv9 cv10 cv11
  have cr0 := r1.cell 0
  have fcr0 := r1.frozen 0
  have cr1 := r1.cell 1
  have fcr1 := r1.frozen 1
  have cr2 := r1.cell 2
  have fcr2 := r1.frozen 2
  have cr3 := r1.cell 3
  have fcr3 := r1.frozen 3
  have cr4 := r1.cell 4
  have fcr4 := r1.frozen 4
  have cr5 := r1.cell 5
  have fcr5 := r1.frozen 5
  have cr6 := r1.cell 6
  have fcr6 := r1.frozen 6
  have cr7 := r1.cell 7
  have fcr7 := r1.frozen 7
  have cr8 := r1.cell 8
  have fcr8 := r1.frozen 8
  have cr9 := r1.cell 9
  have fcr9 := r1.frozen 9
  have cr10 := r1.cell 10
  have fcr10 := r1.frozen 10
  have cr11 := r1.cell 11
  have fcr11 := r1.frozen 11
  simp only [List.getElem?_cons_succ, List.getElem?_cons_zero] at cr0 cr1 cr2 cr3 cr4 cr5 cr6 cr7 cr8 cr9 cr10 cr11
  clear cT ra rv rr b1 v1 r1 hz bA
  go_wp2_with fail
  refine bodyPost_ret (v := .tuple #[.agg #[.int .u64 (a : Int), .bool h, .slice C m.length j, .int .u64 (d0 : Int), .int .u64 (d1 : Int), .int .u64 (d2 : Int), .int .u64 (d3 : Int), .int .u64 (d4 : Int), .int .i64 n, .slice A on.length c, .bool f, .slice B l.length k], .int .i64 0]) (by simp [results, Tryz.results15, go_sem, *]) rfl ?_
  refine ⟨C, j, A, c, B, k, rfl, ?_, ?_, ?_, ?_⟩
  · refine Tk.setNew ?_ n0 HL.out _; refine Tk.setNew ?_ n0 HL.out _; refine Tk.setNew ?_ n0 HL.out _; refine Tk.setNew ?_ n0 HL.out _; refine Tk.setNew ?_ n0 HL.out _; refine Tk.setNew ?_ n0 HL.out _; refine Tk.setNew ?_ n0 HL.out _; refine Tk.setNew ?_ n0 HL.out _; refine Tk.setNew ?_ n0 HL.out _; refine Tk.setNew ?_ n0 HL.out _; refine Tk.setNew ?_ n0 HL.out _; refine Tk.setNew ?_ n0 HL.out _; exact u0
  · refine Bt.setNew ?_ n1 HL.out _; refine Bt.setNew ?_ n1 HL.out _; refine Bt.setNew ?_ n1 HL.out _; refine Bt.setNew ?_ n1 HL.out _; refine Bt.setNew ?_ n1 HL.out _; refine Bt.setNew ?_ n1 HL.out _; refine Bt.setNew ?_ n1 HL.out _; refine Bt.setNew ?_ n1 HL.out _; refine Bt.setNew ?_ n1 HL.out _; refine Bt.setNew ?_ n1 HL.out _; refine Bt.setNew ?_ n1 HL.out _; refine Bt.setNew ?_ n1 HL.out _; exact u1
  · refine Tk.setNew ?_ n2 HL.out _; refine Tk.setNew ?_ n2 HL.out _; refine Tk.setNew ?_ n2 HL.out _; refine Tk.setNew ?_ n2 HL.out _; refine Tk.setNew ?_ n2 HL.out _; refine Tk.setNew ?_ n2 HL.out _; refine Tk.setNew ?_ n2 HL.out _; refine Tk.setNew ?_ n2 HL.out _; refine Tk.setNew ?_ n2 HL.out _; refine Tk.setNew ?_ n2 HL.out _; refine Tk.setNew ?_ n2 HL.out _; refine Tk.setNew ?_ n2 HL.out _; exact u2
  · refine Below.setCell ?_ (by show w.heap.size ≤ w.heap.size + 1; omega) _; refine Below.setCell ?_ (by show w.heap.size ≤ w.heap.size + 1; omega) _; refine Below.setCell ?_ (by show w.heap.size ≤ w.heap.size + 1; omega) _; refine Below.setCell ?_ (by show w.heap.size ≤ w.heap.size + 1; omega) _; refine Below.setCell ?_ (by show w.heap.size ≤ w.heap.size + 1; omega) _; refine Below.setCell ?_ (by show w.heap.size ≤ w.heap.size + 1; omega) _; refine Below.setCell ?_ (by show w.heap.size ≤ w.heap.size + 1; omega) _; refine Below.setCell ?_ (by show w.heap.size ≤ w.heap.size + 1; omega) _; refine Below.setCell ?_ (by show w.heap.size ≤ w.heap.size + 1; omega) _; refine Below.setCell ?_ (by show w.heap.size ≤ w.heap.size + 1; omega) _; refine Below.setCell ?_ (by show w.heap.size ≤ w.heap.size + 1; omega) _; refine Below.setCell ?_ (by show w.heap.size ≤ w.heap.size + 1; omega) _; exact bw
set_option maxHeartbeats 8000000 in
set_option maxRecDepth 100000 in
theorem Unaggregate_no (y : Int) (s : ByteArray) (w : World) (hF : ∀ W, Calls Tryz.prog 44 #[.string s] W (Panics y W)) :
    Calls Tryz.prog 15 #[.string s] w fun e w' => e = .returned (.tuple #[.agg #[.int .u64 0, .bool false, .slice none 0 0, .int .u64 0, .int .u64 0, .int .u64 0, .int .u64 0, .int .u64 0, .int .i64 0, .slice none 0 0, .bool false, .slice none 0 0], .int .i64 y]) ∧ Below w.heap.size w w' := by
  have hmf : ∀ (fn : Fn) (first cap : Array Value) (w : World), (Instr.makeFunc fn first cap).run Tryz.prog w = .ok (.func fn first cap) w := fun _ _ _ _ => rfl
  obtain ⟨wA, hwA⟩ : ∃ wA, wA = ((w.alloc (.cells #[.string s] 9)).alloc (.cells #[.int .u64 0, .bool false, .slice none 0 0, .int .u64 0, .int .u64 0, .int .u64 0, .int .u64 0, .int .u64 0, .int .i64 0, .slice none 0 0, .bool false, .slice none 0 0] 41)).alloc (.cells #[.int .u64 0, .bool false, .slice none 0 0, .int .u64 0, .int .u64 0, .int .u64 0, .int .u64 0, .int .u64 0, .int .i64 0, .slice none 0 0, .bool false, .slice none 0 0] 41) := ⟨_, rfl⟩
  have bA : Below w.heap.size w wA := by rw [hwA]; exact (((Below.refl _ _).alloc (Nat.le_refl _) _).alloc (by simp) _).alloc (by simp <;> omega) _
  have hz : wA.heap.size = w.heap.size + 3 := by rw [hwA]; simp
  have ra : RowAt wA w.heap.size 9 [.string s] := by rw [hwA]; exact ((RowAt.new w 9 #[.string s]).alloc _).alloc _
  have rr : RowAt wA (w.heap.size + 1) 41 [.int .u64 0, .bool false, .slice none 0 0, .int .u64 0, .int .u64 0, .int .u64 0, .int .u64 0, .int .u64 0, .int .i64 0, .slice none 0 0, .bool false, .slice none 0 0] := by rw [hwA]; have := (RowAt.new (w.alloc (.cells #[.string s] 9)) 41 #[.int .u64 0, .bool false, .slice none 0 0, .int .u64 0, .int .u64 0, .int .u64 0, .int .u64 0, .int .u64 0, .int .i64 0, .slice none 0 0, .bool false, .slice none 0 0]).alloc (.cells #[.int .u64 0, .bool false, .slice none 0 0, .int .u64 0, .int .u64 0, .int .u64 0, .int .u64 0, .int .u64 0, .int .i64 0, .slice none 0 0, .bool false, .slice none 0 0] 41); simpa using this
  have rv : RowAt wA (w.heap.size + 2) 41 [.int .u64 0, .bool false, .slice none 0 0, .int .u64 0, .int .u64 0, .int .u64 0, .int .u64 0, .int .u64 0, .int .i64 0, .slice none 0 0, .bool false, .slice none 0 0] := by rw [hwA]; have := RowAt.new ((w.alloc (.cells #[.string s] 9)).alloc (.cells #[.int .u64 0, .bool false, .slice none 0 0, .int .u64 0, .int .u64 0, .int .u64 0, .int .u64 0, .int .u64 0, .int .i64 0, .slice none 0 0, .bool false, .slice none 0 0] 41)) 41 #[.int .u64 0, .bool false, .slice none 0 0, .int .u64 0, .int .u64 0, .int .u64 0, .int .u64 0, .int .u64 0, .int .i64 0, .slice none 0 0, .bool false, .slice none 0 0]; simpa using this
  have cT := try_no 43 #[.pointer (some ⟨w.heap.size, 0, none⟩), .pointer (some ⟨w.heap.size + 2, 0, none⟩)] y wA (enters_of Tryz.func43 (by kernel_rfl) rfl) (UnaggregateFn_no w.heap.size y s _ (ra.alloc _) (hF _))
  have HW := Lib.hid hwA
  clear hwA hF
  go_enter Tryz.func15, Tryz.ntmps15
  go_wp2_with fail
  rw [← HW.out]
  with_reducible refine cT.mono ?_
  rintro e w1 ⟨rfl, b1⟩
  have bw := bA.trans (b1.mono bA.size)
  have v1 := rv.on b1
  have r1 := rr.on b1
  have cv0 := v1.cell 0
  have cv1 := v1.cell 1
  have cv2 := v1.cell 2
  have cv3 := v1.cell 3
  have cv4 := v1.cell 4
  have cv5 := v1.cell 5
  have cv6 := v1.cell 6
  have cv7 := v1.cell 7
  have cv8 := v1.cell 8
  have cv9 := v1.cell 9
  have cv10 := v1.cell 10
  have cv11 := v1.cell 11
  simp only [List.getElem?_cons_succ, List.getElem?_cons_zero] at cv0 cv1 cv2 cv3 cv4 cv5 cv6 cv7 cv8 cv9 cv10 cv11
  have cr0 := r1.cell 0
  have fcr0 := r1.frozen 0
  have cr1 := r1.cell 1
  have fcr1 := r1.frozen 1
  have cr2 := r1.cell 2
  have fcr2 := r1.frozen 2
  have cr3 := r1.cell 3
  have fcr3 := r1.frozen 3
  have cr4 := r1.cell 4
  have fcr4 := r1.frozen 4
  have cr5 := r1.cell 5
  have fcr5 := r1.frozen 5
  have cr6 := r1.cell 6
  have fcr6 := r1.frozen 6
  have cr7 := r1.cell 7
  have fcr7 := r1.frozen 7
  have cr8 := r1.cell 8
  have fcr8 := r1.frozen 8
  have cr9 := r1.cell 9
  have fcr9 := r1.frozen 9
  have cr10 := r1.cell 10
  have fcr10 := r1.frozen 10
  have cr11 := r1.cell 11
  have fcr11 := r1.frozen 11
  simp only [List.getElem?_cons_succ, List.getElem?_cons_zero] at cr0 cr1 cr2 cr3 cr4 cr5 cr6 cr7 cr8 cr9 cr10 cr11
  clear cT ra rv rr b1 v1 r1 hz bA
  go_wp2_with fail
  refine bodyPost_ret (v := .tuple #[.agg #[.int .u64 0, .bool false, .slice none 0 0, .int .u64 0, .int .u64 0, .int .u64 0, .int .u64 0, .int .u64 0, .int .i64 0, .slice none 0 0, .bool false, .slice none 0 0], .int .i64 y]) (by simp [results, Tryz.results15, go_sem, *]) rfl ?_
  refine ⟨rfl, ?_⟩
  · refine Below.setCell ?_ (by show w.heap.size ≤ w.heap.size + 1; omega) _; refine Below.setCell ?_ (by show w.heap.size ≤ w.heap.size + 1; omega) _; refine Below.setCell ?_ (by show w.heap.size ≤ w.heap.size + 1; omega) _; refine Below.setCell ?_ (by show w.heap.size ≤ w.heap.size + 1; omega) _; refine Below.setCell ?_ (by show w.heap.size ≤ w.heap.size + 1; omega) _; refine Below.setCell ?_ (by show w.heap.size ≤ w.heap.size + 1; omega) _; refine Below.setCell ?_ (by show w.heap.size ≤ w.heap.size + 1; omega) _; refine Below.setCell ?_ (by show w.heap.size ≤ w.heap.size + 1; omega) _; refine Below.setCell ?_ (by show w.heap.size ≤ w.heap.size + 1; omega) _; refine Below.setCell ?_ (by show w.heap.size ≤ w.heap.size + 1; omega) _; refine Below.setCell ?_ (by show w.heap.size ≤ w.heap.size + 1; omega) _; refine Below.setCell ?_ (by show w.heap.size ≤ w.heap.size + 1; omega) _; exact bw
end Go.Proofs.YtieheieiolobaaaGreatDoor

namespace Go.Proofs.YtieheieiolobaaaGreatDoor
open Go.RowKit

set_option maxHeartbeats 8000000 in
set_option maxRecDepth 100000 in
theorem readRecord_no (s : ByteArray) (w : World) (h : ((s.size : Int) == 24) = false) : Calls Tryz.prog 46 #[.string s] w (Panics 2 w) := by
  go_enter Tryz.func46, Tryz.ntmps46
  go_wp2_with fail
  with_reducible refine (wdemand_no _ _).mono ?_
  rintro e w1 ⟨rfl, rfl⟩
  exact ⟨rfl, rfl, (Below.refl _ _).alloc (Nat.le_refl _) _⟩
set_option maxHeartbeats 8000000 in
set_option maxRecDepth 100000 in
theorem readRecord_ok (s0 : ByteArray) (w : World) (h24 : s0.size = 24) : Calls Tryz.prog 46 #[.string s0] w fun e w' => e = .returned (.agg #[.int .u64 (num8 s0 : Int), .int .u64 (num8 (left8 s0) : Int), .int .u64 (num8 (left8 (left8 s0)) : Int)]) ∧ Below w.heap.size w w' := by
  obtain ⟨s1, hs1⟩ : ∃ s, left8 s0 = s := ⟨_, rfl⟩
  have hz1 : s1.size = 16 := by rw [← hs1, left8_size]; omega
  obtain ⟨x0, hx0⟩ : ∃ x, num8 s0 = x := ⟨_, rfl⟩
  obtain ⟨s2, hs2⟩ : ∃ s, left8 s1 = s := ⟨_, rfl⟩
  have hz2 : s2.size = 8 := by rw [← hs2, left8_size]; omega
  obtain ⟨x1, hx1⟩ : ∃ x, num8 s1 = x := ⟨_, rfl⟩
  obtain ⟨s3, hs3⟩ : ∃ s, left8 s2 = s := ⟨_, rfl⟩
  have hz3 : s3.size = 0 := by rw [← hs3, left8_size]; omega
  obtain ⟨x2, hx2⟩ : ∃ x, num8 s2 = x := ⟨_, rfl⟩
  rw [hs1, hs2]
  rw [hx0, hx1, hx2]
  have n0 := fun (g : Nat) (W : World) (l : List Value) (h : RowAt W g 103 (.string s0 :: l)) => number_row g _ s0 l W h (by omega) (by omega)
  rw [hs1, hx0] at n0
  have n1 := fun (g : Nat) (W : World) (l : List Value) (h : RowAt W g 103 (.string s1 :: l)) => number_row g _ s1 l W h (by omega) (by omega)
  rw [hs2, hx1] at n1
  have n2 := fun (g : Nat) (W : World) (l : List Value) (h : RowAt W g 103 (.string s2 :: l)) => number_row g _ s2 l W h (by omega) (by omega)
  rw [hs3, hx2] at n2
  have hlen : ((s0.size : Int) == 24) = true := by rw [h24]; rfl
  clear hs1 hx0 hz1 hs2 hx1 hz2 hs3 hx2 hz3 h24
  obtain ⟨w0, hw0⟩ : ∃ w0, w0 = (((w).alloc (.cells #[.int .u64 0, .int .u64 0, .int .u64 0] 37)).alloc (.cells #[.string s0, .slice none 0 0] 103)).alloc (.cells #[.int .u64 0, .int .u64 0, .int .u64 0] 37) := ⟨_, rfl⟩
  have b0 : Below w.heap.size w w0 := by rw [hw0]; exact (((Below.refl _ _).alloc (Nat.le_refl _) _).alloc (by simp) _).alloc (by simp <;> omega) _
  have r0 : RowAt w0 w.heap.size 37 [.int .u64 0, .int .u64 0, .int .u64 0] := by rw [hw0]; exact ((RowAt.new w 37 #[.int .u64 0, .int .u64 0, .int .u64 0]).alloc _).alloc _
  have m0 : RowAt w0 (w.heap.size + 1) 103 [.string s0, .slice none 0 0] := by rw [hw0]; have := (RowAt.new ((w).alloc (.cells #[.int .u64 0, .int .u64 0, .int .u64 0] 37)) 103 #[.string s0, .slice none 0 0]).alloc (.cells #[.int .u64 0, .int .u64 0, .int .u64 0] 37); simpa using this
  have d0 : RowAt w0 (w.heap.size + 2) 37 [.int .u64 0, .int .u64 0, .int .u64 0] := by rw [hw0]; have := RowAt.new (((w).alloc (.cells #[.int .u64 0, .int .u64 0, .int .u64 0] 37)).alloc (.cells #[.string s0, .slice none 0 0] 103)) 37 #[.int .u64 0, .int .u64 0, .int .u64 0]; simpa using this
  have HW := Lib.hid hw0
  clear hw0
  go_enter Tryz.func46, Tryz.ntmps46
  go_wp2_with fail
  with_reducible refine (wdemand_yes _ _).mono ?_
  rintro e w_ ⟨rfl, rfl⟩
  go_wp2_with fail
  rw [← HW.out]
  with_reducible refine (n0 _ _ _ m0).mono ?_
  rintro e y0 ⟨rfl, m1_, b1_⟩
  have r1_ := b1_.rowAt r0 (by omega)
  have d1_ := b1_.rowAt d0 (by omega)
  have r1 := r1_.far (p := ⟨w.heap.size + 2, 0, none⟩) (by simp) (.int .u64 (x0 : Int))
  have d1 : RowAt _ _ _ [.int .u64 (x0 : Int), .int .u64 0, .int .u64 0] := d1_.set 0 (.int .u64 (x0 : Int))
  have m1 := m1_.far (p := ⟨w.heap.size + 2, 0, none⟩) (by simp) (.int .u64 (x0 : Int))
  have b1 : Below w.heap.size w (y0.setCell ⟨w.heap.size + 2, 0, none⟩ (.int .u64 (x0 : Int))) := (But.below b0 b1_ (by omega) b0.size).setCell (by simp) _
  have c0 := d1_.cell 0
  have f0 := d1_.frozen 0
  simp only [List.getElem?_cons_succ, List.getElem?_cons_zero] at c0
  clear r0 d0 m0 b0 r1_ d1_ m1_ b1_ n0
  go_wp2_with fail
  with_reducible refine (n1 _ _ _ m1).mono ?_
  rintro e y1 ⟨rfl, m2_, b2_⟩
  have r2_ := b2_.rowAt r1 (by omega)
  have d2_ := b2_.rowAt d1 (by omega)
  have r2 := r2_.far (p := ⟨w.heap.size + 2, 1, none⟩) (by simp) (.int .u64 (x1 : Int))
  have d2 : RowAt _ _ _ [.int .u64 (x0 : Int), .int .u64 (x1 : Int), .int .u64 0] := d2_.set 1 (.int .u64 (x1 : Int))
  have m2 := m2_.far (p := ⟨w.heap.size + 2, 1, none⟩) (by simp) (.int .u64 (x1 : Int))
  have b2 : Below w.heap.size w (y1.setCell ⟨w.heap.size + 2, 1, none⟩ (.int .u64 (x1 : Int))) := (But.below b1 b2_ (by omega) b1.size).setCell (by simp) _
  have c1 := d2_.cell 1
  have f1 := d2_.frozen 1
  simp only [List.getElem?_cons_succ, List.getElem?_cons_zero] at c1
  clear r1 d1 m1 b1 r2_ d2_ m2_ b2_ n1
  go_wp2_with fail
  with_reducible refine (n2 _ _ _ m2).mono ?_
  rintro e y2 ⟨rfl, m3_, b3_⟩
  have r3_ := b3_.rowAt r2 (by omega)
  have d3_ := b3_.rowAt d2 (by omega)
  have r3 := r3_.far (p := ⟨w.heap.size + 2, 2, none⟩) (by simp) (.int .u64 (x2 : Int))
  have d3 : RowAt _ _ _ [.int .u64 (x0 : Int), .int .u64 (x1 : Int), .int .u64 (x2 : Int)] := d3_.set 2 (.int .u64 (x2 : Int))
  have m3 := m3_.far (p := ⟨w.heap.size + 2, 2, none⟩) (by simp) (.int .u64 (x2 : Int))
  have b3 : Below w.heap.size w (y2.setCell ⟨w.heap.size + 2, 2, none⟩ (.int .u64 (x2 : Int))) := (But.below b2 b3_ (by omega) b2.size).setCell (by simp) _
  have cr0 := r3_.cell 0
  have fr0 := r3_.frozen 0
  have cd0 := d3_.cell 0
  have fd0 := d3_.frozen 0
  have cr1 := r3_.cell 1
  have fr1 := r3_.frozen 1
  have cd1 := d3_.cell 1
  have fd1 := d3_.frozen 1
  have cr2 := r3_.cell 2
  have fr2 := r3_.frozen 2
  have cd2 := d3_.cell 2
  have fd2 := d3_.frozen 2
  simp only [List.getElem?_cons_succ, List.getElem?_cons_zero] at cr0 cd0 cr1 cd1 cr2 cd2
  clear r2 d2 m2 b2 r3_ d3_ m3_ b3_ n2
  go_wp2_with fail
  refine bodyPost_ret (v := .agg #[.int .u64 (x0 : Int), .int .u64 (x1 : Int), .int .u64 (x2 : Int)]) (by simp [results, Tryz.results46, go_sem, *]) rfl ?_
  refine ⟨rfl, ?_⟩
  refine Below.setCell ?_ (by show w.heap.size ≤ w.heap.size; exact Nat.le_refl _) _; refine Below.setCell ?_ (by show w.heap.size ≤ w.heap.size; exact Nat.le_refl _) _; refine Below.setCell ?_ (by show w.heap.size ≤ w.heap.size; exact Nat.le_refl _) _; exact b3
set_option maxHeartbeats 8000000 in
set_option maxRecDepth 100000 in
theorem UnrecordFn_ok (N : Nat) (s : ByteArray) (w : World) (a b c : Nat) (hN : N + 2 < w.heap.size) (ra : RowAt w N 9 [.string s]) (rv : RowAt w (N + 2) 37 [.int .u64 0, .int .u64 0, .int .u64 0]) (hF : Calls Tryz.prog 46 #[.string s] w fun e w' => e = .returned (.agg #[.int .u64 (a : Int), .int .u64 (b : Int), .int .u64 (c : Int)]) ∧ Below w.heap.size w w') :
    Calls Tryz.prog 45 #[.pointer (some ⟨N, 0, none⟩), .pointer (some ⟨N + 2, 0, none⟩)] w fun e w' => e = .returned (.tuple #[]) ∧ But (N + 2) w w' ∧ RowAt w' (N + 2) 37 [.int .u64 (a : Int), .int .u64 (b : Int), .int .u64 (c : Int)] := by
  have a0 := ra.cell 0
  simp only [List.getElem?_cons_succ, List.getElem?_cons_zero] at a0
  go_enter Tryz.func45, Tryz.ntmps45
  go_wp2_with fail
  with_reducible refine hF.mono ?_
  rintro e w1 ⟨rfl, b1⟩
  have rv1 := rv.on b1
  have v0 := rv1.cell 0
  have fv0 := rv1.frozen 0
  have v1 := rv1.cell 1
  have fv1 := rv1.frozen 1
  have v2 := rv1.cell 2
  have fv2 := rv1.frozen 2
  simp only [List.getElem?_cons_succ, List.getElem?_cons_zero] at v0 v1 v2
  have HN := Lib.hid hN
  clear a0 hN
  go_wp2_with fail
  go_end0
  refine ⟨rfl, ((((But.of_below b1).setCell 0 _).setCell 1 _).setCell 2 _), (((rv1.set 0 _).set 1 _).set 2 _)⟩
theorem UnrecordFn_no (N : Nat) (y : Int) (s : ByteArray) (w : World) (ra : RowAt w N 9 [.string s]) (hF : Calls Tryz.prog 46 #[.string s] w (Panics y w)) :
    Calls Tryz.prog 45 #[.pointer (some ⟨N, 0, none⟩), .pointer (some ⟨N + 2, 0, none⟩)] w (Panics y w) := by
  have a0 := ra.cell 0
  simp only [List.getElem?_cons_succ, List.getElem?_cons_zero] at a0
  go_enter Tryz.func45, Tryz.ntmps45
  go_wp2_with fail
  with_reducible refine hF.mono ?_
  rintro e w1 ⟨rfl, b1⟩
  exact ⟨rfl, rfl, b1⟩
set_option maxHeartbeats 8000000 in
set_option maxRecDepth 100000 in
theorem Unrecord_by (s : ByteArray) (w : World) (a b c : Nat) (hF : ∀ W, Calls Tryz.prog 46 #[.string s] W fun e w' => e = .returned (.agg #[.int .u64 (a : Int), .int .u64 (b : Int), .int .u64 (c : Int)]) ∧ Below W.heap.size W w') :
    Calls Tryz.prog 17 #[.string s] w fun e w' => e = .returned (.tuple #[.agg #[.int .u64 (a : Int), .int .u64 (b : Int), .int .u64 (c : Int)], .int .i64 0]) ∧ Below w.heap.size w w' := by
  have hmf : ∀ (fn : Fn) (first cap : Array Value) (w : World), (Instr.makeFunc fn first cap).run Tryz.prog w = .ok (.func fn first cap) w := fun _ _ _ _ => rfl
  obtain ⟨wA, hwA⟩ : ∃ wA, wA = ((w.alloc (.cells #[.string s] 9)).alloc (.cells #[.int .u64 0, .int .u64 0, .int .u64 0] 37)).alloc (.cells #[.int .u64 0, .int .u64 0, .int .u64 0] 37) := ⟨_, rfl⟩
  have bA : Below w.heap.size w wA := by rw [hwA]; exact (((Below.refl _ _).alloc (Nat.le_refl _) _).alloc (by simp) _).alloc (by simp <;> omega) _
  have hz : wA.heap.size = w.heap.size + 3 := by rw [hwA]; simp
  have ra : RowAt wA w.heap.size 9 [.string s] := by rw [hwA]; exact ((RowAt.new w 9 #[.string s]).alloc _).alloc _
  have rr : RowAt wA (w.heap.size + 1) 37 [.int .u64 0, .int .u64 0, .int .u64 0] := by rw [hwA]; have := (RowAt.new (w.alloc (.cells #[.string s] 9)) 37 #[.int .u64 0, .int .u64 0, .int .u64 0]).alloc (.cells #[.int .u64 0, .int .u64 0, .int .u64 0] 37); simpa using this
  have rv : RowAt wA (w.heap.size + 2) 37 [.int .u64 0, .int .u64 0, .int .u64 0] := by rw [hwA]; have := RowAt.new ((w.alloc (.cells #[.string s] 9)).alloc (.cells #[.int .u64 0, .int .u64 0, .int .u64 0] 37)) 37 #[.int .u64 0, .int .u64 0, .int .u64 0]; simpa using this
  have hlo : wA.heap.size < (wA.alloc (.cells #[.int .i64 0] 44)).heap.size := by simp
  have cT := try_ok 45 #[.pointer (some ⟨w.heap.size, 0, none⟩), .pointer (some ⟨w.heap.size + 2, 0, none⟩)] wA (w.heap.size + 2) (fun W => RowAt W (w.heap.size + 2) 37 [.int .u64 (a : Int), .int .u64 (b : Int), .int .u64 (c : Int)]) (by omega) (enters_of Tryz.func45 (by kernel_rfl) rfl)
    (UnrecordFn_ok w.heap.size s _ a b c (by simp; omega) (ra.alloc _) (rv.alloc _) (hF _)) (by
      exact fun W h => h.far (by show w.heap.size + 2 ≠ wA.heap.size; omega) _)
  have HW := Lib.hid hwA
  clear hwA hF
  go_enter Tryz.func17, Tryz.ntmps17
  go_wp2_with fail
  rw [← HW.out]
  with_reducible refine cT.mono ?_
  rintro e w1 ⟨rfl, b1, v1⟩
  have bw := But.below bA b1 (by omega) bA.size
  have r1 := b1.rowAt rr (by omega)
  have HL := Lib.hid (show w.heap.size + 1 < (wA.alloc (.cells #[.int .i64 0] 44)).heap.size by omega)
  clear hlo
  have cv0 := v1.cell 0
  have cv1 := v1.cell 1
  have cv2 := v1.cell 2
  simp only [List.getElem?_cons_succ, List.getElem?_cons_zero] at cv0 cv1 cv2
  have cr0 := r1.cell 0
  have fcr0 := r1.frozen 0
  have cr1 := r1.cell 1
  have fcr1 := r1.frozen 1
  have cr2 := r1.cell 2
  have fcr2 := r1.frozen 2
  simp only [List.getElem?_cons_succ, List.getElem?_cons_zero] at cr0 cr1 cr2
  clear cT ra rv rr b1 v1 r1 hz bA
  go_wp2_with fail
  refine bodyPost_ret (v := .tuple #[.agg #[.int .u64 (a : Int), .int .u64 (b : Int), .int .u64 (c : Int)], .int .i64 0]) (by simp [results, Tryz.results17, go_sem, *]) rfl ?_
  refine ⟨rfl, ?_⟩
  · refine Below.setCell ?_ (by show w.heap.size ≤ w.heap.size + 1; omega) _; refine Below.setCell ?_ (by show w.heap.size ≤ w.heap.size + 1; omega) _; refine Below.setCell ?_ (by show w.heap.size ≤ w.heap.size + 1; omega) _; exact bw
set_option maxHeartbeats 8000000 in
set_option maxRecDepth 100000 in
theorem Unrecord_no (y : Int) (s : ByteArray) (w : World) (hF : ∀ W, Calls Tryz.prog 46 #[.string s] W (Panics y W)) :
    Calls Tryz.prog 17 #[.string s] w fun e w' => e = .returned (.tuple #[.agg #[.int .u64 0, .int .u64 0, .int .u64 0], .int .i64 y]) ∧ Below w.heap.size w w' := by
  have hmf : ∀ (fn : Fn) (first cap : Array Value) (w : World), (Instr.makeFunc fn first cap).run Tryz.prog w = .ok (.func fn first cap) w := fun _ _ _ _ => rfl
  obtain ⟨wA, hwA⟩ : ∃ wA, wA = ((w.alloc (.cells #[.string s] 9)).alloc (.cells #[.int .u64 0, .int .u64 0, .int .u64 0] 37)).alloc (.cells #[.int .u64 0, .int .u64 0, .int .u64 0] 37) := ⟨_, rfl⟩
  have bA : Below w.heap.size w wA := by rw [hwA]; exact (((Below.refl _ _).alloc (Nat.le_refl _) _).alloc (by simp) _).alloc (by simp <;> omega) _
  have hz : wA.heap.size = w.heap.size + 3 := by rw [hwA]; simp
  have ra : RowAt wA w.heap.size 9 [.string s] := by rw [hwA]; exact ((RowAt.new w 9 #[.string s]).alloc _).alloc _
  have rr : RowAt wA (w.heap.size + 1) 37 [.int .u64 0, .int .u64 0, .int .u64 0] := by rw [hwA]; have := (RowAt.new (w.alloc (.cells #[.string s] 9)) 37 #[.int .u64 0, .int .u64 0, .int .u64 0]).alloc (.cells #[.int .u64 0, .int .u64 0, .int .u64 0] 37); simpa using this
  have rv : RowAt wA (w.heap.size + 2) 37 [.int .u64 0, .int .u64 0, .int .u64 0] := by rw [hwA]; have := RowAt.new ((w.alloc (.cells #[.string s] 9)).alloc (.cells #[.int .u64 0, .int .u64 0, .int .u64 0] 37)) 37 #[.int .u64 0, .int .u64 0, .int .u64 0]; simpa using this
  have cT := try_no 45 #[.pointer (some ⟨w.heap.size, 0, none⟩), .pointer (some ⟨w.heap.size + 2, 0, none⟩)] y wA (enters_of Tryz.func45 (by kernel_rfl) rfl) (UnrecordFn_no w.heap.size y s _ (ra.alloc _) (hF _))
  have HW := Lib.hid hwA
  clear hwA hF
  go_enter Tryz.func17, Tryz.ntmps17
  go_wp2_with fail
  rw [← HW.out]
  with_reducible refine cT.mono ?_
  rintro e w1 ⟨rfl, b1⟩
  have bw := bA.trans (b1.mono bA.size)
  have v1 := rv.on b1
  have r1 := rr.on b1
  have cv0 := v1.cell 0
  have cv1 := v1.cell 1
  have cv2 := v1.cell 2
  simp only [List.getElem?_cons_succ, List.getElem?_cons_zero] at cv0 cv1 cv2
  have cr0 := r1.cell 0
  have fcr0 := r1.frozen 0
  have cr1 := r1.cell 1
  have fcr1 := r1.frozen 1
  have cr2 := r1.cell 2
  have fcr2 := r1.frozen 2
  simp only [List.getElem?_cons_succ, List.getElem?_cons_zero] at cr0 cr1 cr2
  clear cT ra rv rr b1 v1 r1 hz bA
  go_wp2_with fail
  refine bodyPost_ret (v := .tuple #[.agg #[.int .u64 0, .int .u64 0, .int .u64 0], .int .i64 y]) (by simp [results, Tryz.results17, go_sem, *]) rfl ?_
  refine ⟨rfl, ?_⟩
  · refine Below.setCell ?_ (by show w.heap.size ≤ w.heap.size + 1; omega) _; refine Below.setCell ?_ (by show w.heap.size ≤ w.heap.size + 1; omega) _; refine Below.setCell ?_ (by show w.heap.size ≤ w.heap.size + 1; omega) _; exact bw
end Go.Proofs.YtieheieiolobaaaGreatDoor
