/- turned: a text with a byte in place of one.
   The statements' own small functions of layer 6: awake.
   Root of data; data that are unlike in one byte have unlike roots.
   The walk of the law WireRoots. -/
import Derived.Test.YtblpdhnifleioaaDoorWirT
import Derived.Test.YtblpdhnifleioaaDoorKeepW
import Derived.Test.YtblpdhnifleioaaDoorChuX
import Derived.Test.YtblpdhnifleioaaDoorLagL
import Derived.Deep.QuietTactic
import Derived.BigQuiet
namespace Go.Proofs.YtblpdhnifleioaaDoor
open Go.RowKit

/-- A text as long as s, in memory as it was. -/
def SameLong (s : ByteArray) (w : World) (e : Ending) (w' : World) : Prop := ∃ t : ByteArray, e = .returned (.string t) ∧ t.size = s.size ∧ Below w.heap.size w w'
end Go.Proofs.YtblpdhnifleioaaDoor

namespace Go.Proofs.YtblpdhnifleioaaDoor
open Go.RowKit

def zeroT : Text := voteB [0, 0, 0, 0, 0] 0 [] false []
def aggT : Text := aggB 3 false [] zeroT
theorem zero_is : IsVote zeroT 0 0 0 0 0 0 [] false [] := ⟨rfl, by decide, by decide, by decide, by decide, by decide, by decide, by decide, (fun _ h => by cases h)⟩
theorem agg_is : IsAgg aggT 3 false [] 0 0 0 0 0 0 [] false [] := ⟨rfl, by decide, by decide, (fun _ h => by cases h), zero_is, by decide⟩
theorem Bt.empty (W : World) (n : Int) : Bt W (.agg #[.int .i64 n, .slice none 0 0]) n [] := ⟨_, rfl, Elems.nil _ _ _⟩
theorem zero_len : zeroT.length = 50 := by decide
theorem list_ext {a b : ByteArray} (h : a.data.toList = b.data.toList) : a = b := by
  cases a; cases b; simp at h; simp [h]
/-- What Unvote and Unaggregate read of the bytes of zero votes. -/
def ZeroAns (w : World) (e : Ending) (w' : World) : Prop := ∃ A c B k, e = .returned (.tuple #[.agg #[.int .u64 0, .int .u64 0, .int .u64 0, .int .u64 0, .int .u64 0, .int .i64 0, .slice A 0 c, .bool false, .slice B 0 k], .int .i64 0]) ∧ Bt w' (.agg #[.int .i64 0, .slice A 0 c]) 0 [] ∧ Tk w' (.agg #[.bool false, .slice B 0 k]) false [] ∧ Below w.heap.size w w'
def ZeroAgg (w : World) (e : Ending) (w' : World) : Prop := ∃ C j A' c' B' k', e = .returned (.tuple #[.agg #[.int .u64 3, .bool false, .slice C 0 j, .int .u64 0, .int .u64 0, .int .u64 0, .int .u64 0, .int .u64 0, .int .i64 0, .slice A' 0 c', .bool false, .slice B' 0 k'], .int .i64 0]) ∧ Tk w' (.agg #[.bool false, .slice C 0 j]) false [] ∧ Bt w' (.agg #[.int .i64 0, .slice A' 0 c']) 0 [] ∧ Tk w' (.agg #[.bool false, .slice B' 0 k']) false [] ∧ Below w.heap.size w w'
theorem vote_zero (S : ByteArray) (hS : S.data.toList = zeroT) (W : World) : Calls Tryd.prog 7 #[.agg #[.int .u64 0, .int .u64 0, .int .u64 0, .int .u64 0, .int .u64 0, .int .i64 0, .slice none 0 0, .bool false, .slice none 0 0]] W fun e w' => e = .returned (.tuple #[.string S, .int .i64 0]) ∧ Below W.heap.size W w' :=
  Vote_ok 0 0 0 0 0 0 [] false [] none none 0 0 S W hS (by decide) (by decide) (Bt.empty W 0) (Tk.empty W) (by decide) (by decide)
theorem unvote_zero (S : ByteArray) (hS : S.data.toList = zeroT) (W : World) : Calls Tryd.prog 8 #[.string S] W (ZeroAns W) :=
  (Unvote_ok (s := S) (d0 := 0) (d1 := 0) (d2 := 0) (d3 := 0) (d4 := 0) (n := 0) (on := []) (f := false) (l := []) (by rw [hS]; exact zero_is) W).mono fun e w' ⟨A, c, B, k, h1, h2, h3, h4⟩ => ⟨A, c, B, k, h1, h2, h3, h4⟩
theorem unvote_short (S : ByteArray) (hS : S.data.toList = zeroT) (W : World) : Calls Tryd.prog 8 #[.string (S.extract 0 30)] W fun e w' => e = .returned (.tuple #[.agg #[.int .u64 0, .int .u64 0, .int .u64 0, .int .u64 0, .int .u64 0, .int .i64 0, .slice none 0 0, .bool false, .slice none 0 0], .int .i64 3]) ∧ Below W.heap.size W w' :=
  Unvote_no 3 (S.extract 0 30) W fun W => readVote_split (S.extract 0 30) W ⟨#[]⟩ [] 3 (by
    have e : (S.extract 0 30).data.toList = zeroT.take 30 := by rw [← hS]; simp
    rw [e]; decide) (by decide)
theorem vote_minus (W : World) : Calls Tryd.prog 7 #[.agg #[.int .u64 0, .int .u64 0, .int .u64 0, .int .u64 0, .int .u64 0, .int .i64 (-1), .slice none 0 0, .bool false, .slice none 0 0]] W fun e w' => e = .returned (.tuple #[.string ⟨#[]⟩, .int .i64 1]) ∧ Below W.heap.size W w' :=
  Vote_arg 0 0 0 0 0 (-1) [] false [] none none 0 0 W (by decide) (Bt.empty W (-1)) (Tk.empty W) (by decide) (by decide)
theorem agg_three (S : ByteArray) (hS : S.data.toList = aggT) (W : World) : Calls Tryd.prog 9 #[.agg #[.int .u64 3, .bool false, .slice none 0 0, .int .u64 0, .int .u64 0, .int .u64 0, .int .u64 0, .int .u64 0, .int .i64 0, .slice none 0 0, .bool false, .slice none 0 0]] W fun e w' => e = .returned (.tuple #[.string S, .int .i64 0]) ∧ Below W.heap.size W w' :=
  Aggregate_ok 3 0 0 0 0 0 0 [] false false [] [] none none none 0 0 0 S W hS (by decide) (by decide) (by decide) (by decide) (Bt.empty W 0) (Tk.empty W) (Tk.empty W) (by decide) (by decide) (by decide)
theorem unagg_three (S : ByteArray) (hS : S.data.toList = aggT) (W : World) : Calls Tryd.prog 10 #[.string S] W (ZeroAgg W) :=
  (Unaggregate_ok (s := S) (a := 3) (h := false) (m := []) (d0 := 0) (d1 := 0) (d2 := 0) (d3 := 0) (d4 := 0) (n := 0) (on := []) (f := false) (l := []) (by rw [hS]; exact agg_is) W).mono fun e w' ⟨C, j, A, c, B, k, h1, h2, h3, h4, h5⟩ => ⟨C, j, A, c, B, k, h1, h2, h3, h4, h5⟩
theorem record_123 (S : ByteArray) (hS : S = ⟨(wordsB [1, 2, 3]).toArray⟩) (W : World) : Calls Tryd.prog 12 #[.agg #[.int .u64 1, .int .u64 2, .int .u64 3]] W fun e w' => e = .returned (.string S) ∧ Below W.heap.size W w' := by
  subst hS; exact Record_any 1 2 3 W
theorem unrecord_123 (S : ByteArray) (hS : S = ⟨(wordsB [1, 2, 3]).toArray⟩) (W : World) : Calls Tryd.prog 11 #[.string S] W fun e w' => e = .returned (.tuple #[.agg #[.int .u64 1, .int .u64 2, .int .u64 3], .int .i64 0]) ∧ Below W.heap.size W w' :=
  Unrecord_ok S 1 2 3 W (by rw [hS]) (by decide) (by decide) (by decide)
theorem unrecord_none (W : World) : Calls Tryd.prog 11 #[.string ⟨#[]⟩] W fun e w' => e = .returned (.tuple #[.agg #[.int .u64 0, .int .u64 0, .int .u64 0], .int .i64 2]) ∧ Below W.heap.size W w' :=
  Unrecord_bad ⟨#[]⟩ W (by decide)
theorem same_zero (A B : Option Addr) (c k : Nat) (W : World) (tB : Bt W (.agg #[.int .i64 0, .slice A 0 c]) 0 []) (tT : Tk W (.agg #[.bool false, .slice B 0 k]) false []) : Calls Tryd.prog 13 #[.agg #[.int .u64 0, .int .u64 0, .int .u64 0, .int .u64 0, .int .u64 0, .int .i64 0, .slice A 0 c, .bool false, .slice B 0 k], .agg #[.int .u64 0, .int .u64 0, .int .u64 0, .int .u64 0, .int .u64 0, .int .i64 0, .slice none 0 0, .bool false, .slice none 0 0]] W fun e w' => e = .returned (.bool true) ∧ Below W.heap.size W w' :=
  SameVote_eq 0 0 0 0 0 0 0 0 0 0 0 0 [] [] false false [] [] A B none none c k 0 0 W true (by decide) tB (Bt.empty W 0) tT (Tk.empty W) (by decide) (by decide) (by decide) (by decide)
theorem same_three (C A' B' : Option Addr) (j c' k' : Nat) (W : World) (tM : Tk W (.agg #[.bool false, .slice C 0 j]) false []) (tB : Bt W (.agg #[.int .i64 0, .slice A' 0 c']) 0 []) (tT : Tk W (.agg #[.bool false, .slice B' 0 k']) false []) : Calls Tryd.prog 14 #[.agg #[.int .u64 3, .bool false, .slice C 0 j, .int .u64 0, .int .u64 0, .int .u64 0, .int .u64 0, .int .u64 0, .int .i64 0, .slice A' 0 c', .bool false, .slice B' 0 k'], .agg #[.int .u64 3, .bool false, .slice none 0 0, .int .u64 0, .int .u64 0, .int .u64 0, .int .u64 0, .int .u64 0, .int .i64 0, .slice none 0 0, .bool false, .slice none 0 0]] W fun e w' => e = .returned (.bool true) ∧ Below W.heap.size W w' :=
  SameAgg_eq 3 3 0 0 0 0 0 0 0 0 0 0 0 0 [] [] false false false false [] [] [] [] A' B' none none C none c' k' 0 0 j 0 W true (by decide) tB (Bt.empty W 0) tT (Tk.empty W) (by decide) (by decide) (by decide) (by decide) tM (Tk.empty W) (by decide) (by decide)

set_option maxHeartbeats 4000000 in
set_option maxRecDepth 100000 in
theorem awake_wire (w : World) : Calls Tryd.prog 4 #[] w fun e w' => e = .returned (.bool true) ∧ Below w.heap.size w w' := by
  obtain ⟨S, hS⟩ := ba_of zeroT
  obtain ⟨S2, hS2⟩ := ba_of aggT
  obtain ⟨S3, hS3⟩ : ∃ S3 : ByteArray, S3 = ⟨(wordsB [1, 2, 3]).toArray⟩ := ⟨_, rfl⟩
  have hsz : S.size = 50 := by rw [← list_len, hS, zero_len]
  have c1 := vote_zero S hS
  have c2 := unvote_zero S hS
  have c3 := unvote_short S hS
  have c4 := vote_minus
  have c5 := agg_three S2 hS2
  have c6 := unagg_three S2 hS2
  have c7 := record_123 S3 hS3
  have c8 := unrecord_123 S3 hS3
  have HS := Lib.hid hS
  clear hS hS2 hS3
  go_enter Tryd.func4, Tryd.ntmps4
  go_wp2_with fail
  with_reducible refine (c1 _).mono ?_
  rintro e w1 ⟨rfl, b1⟩
  go_wp2_with fail
  with_reducible refine (c2 _).mono ?_
  rintro e w2 ⟨A, c, B, k, rfl, tB, tT, b2⟩
  have H2 := ((Held.refl w).step b1).step b2
  have H2b := H2.alloc #[.int .u64 0, .int .u64 0, .int .u64 0, .int .u64 0, .int .u64 0, .int .i64 0, .slice A 0 c, .bool false, .slice B 0 k] 39
  have tB2 := tB.alloc (.cells #[.int .u64 0, .int .u64 0, .int .u64 0, .int .u64 0, .int .u64 0, .int .i64 0, .slice A 0 c, .bool false, .slice B 0 k] 39)
  have tT2 := tT.alloc (.cells #[.int .u64 0, .int .u64 0, .int .u64 0, .int .u64 0, .int .u64 0, .int .i64 0, .slice A 0 c, .bool false, .slice B 0 k] 39)
  clear H2 tB tT b1 b2
  go_wp2_with fail
  have e30 : (min 50 30 : Int).toNat = 30 := by decide
  rw [e30]
  clear e30
  with_reducible refine (c3 _).mono ?_
  rintro e w3 ⟨rfl, b3⟩
  have H3 := (H2b.step b3).alloc #[.int .u64 0, .int .u64 0, .int .u64 0, .int .u64 0, .int .u64 0, .int .i64 0, .slice none 0 0, .bool false, .slice none 0 0] 39
  have tB3 := (tB2.on b3).alloc (.cells #[.int .u64 0, .int .u64 0, .int .u64 0, .int .u64 0, .int .u64 0, .int .i64 0, .slice none 0 0, .bool false, .slice none 0 0] 39)
  have tT3 := (tT2.on b3).alloc (.cells #[.int .u64 0, .int .u64 0, .int .u64 0, .int .u64 0, .int .u64 0, .int .i64 0, .slice none 0 0, .bool false, .slice none 0 0] 39)
  clear H2b tB2 tT2 b3
  go_wp2_with fail
  with_reducible refine (c4 _).mono ?_
  rintro e w4 ⟨rfl, b4⟩
  have H4 := H3.step b4
  have tB4 := tB3.on b4
  have tT4 := tT3.on b4
  clear H3 tB3 tT3 b4
  go_wp2_with fail
  with_reducible refine (c5 _).mono ?_
  rintro e w5 ⟨rfl, b5⟩
  have H5 := H4.step b5
  have tB5 := tB4.on b5
  have tT5 := tT4.on b5
  clear H4 tB4 tT4 b5
  go_wp2_with fail
  with_reducible refine (c6 _).mono ?_
  rintro e w6 ⟨C, j, A', c', B', k', rfl, sM, sB, sT, b6⟩
  have H6 := (H5.step b6).alloc #[.int .u64 3, .bool false, .slice C 0 j, .int .u64 0, .int .u64 0, .int .u64 0, .int .u64 0, .int .u64 0, .int .i64 0, .slice A' 0 c', .bool false, .slice B' 0 k'] 44
  have tB6 := (tB5.on b6).alloc (.cells #[.int .u64 3, .bool false, .slice C 0 j, .int .u64 0, .int .u64 0, .int .u64 0, .int .u64 0, .int .u64 0, .int .i64 0, .slice A' 0 c', .bool false, .slice B' 0 k'] 44)
  have tT6 := (tT5.on b6).alloc (.cells #[.int .u64 3, .bool false, .slice C 0 j, .int .u64 0, .int .u64 0, .int .u64 0, .int .u64 0, .int .u64 0, .int .i64 0, .slice A' 0 c', .bool false, .slice B' 0 k'] 44)
  have sM6 := sM.alloc (.cells #[.int .u64 3, .bool false, .slice C 0 j, .int .u64 0, .int .u64 0, .int .u64 0, .int .u64 0, .int .u64 0, .int .i64 0, .slice A' 0 c', .bool false, .slice B' 0 k'] 44)
  have sB6 := sB.alloc (.cells #[.int .u64 3, .bool false, .slice C 0 j, .int .u64 0, .int .u64 0, .int .u64 0, .int .u64 0, .int .u64 0, .int .i64 0, .slice A' 0 c', .bool false, .slice B' 0 k'] 44)
  have sT6 := sT.alloc (.cells #[.int .u64 3, .bool false, .slice C 0 j, .int .u64 0, .int .u64 0, .int .u64 0, .int .u64 0, .int .u64 0, .int .i64 0, .slice A' 0 c', .bool false, .slice B' 0 k'] 44)
  clear H5 tB5 tT5 b6 sM sB sT
  go_wp2_with fail
  with_reducible refine (c7 _).mono ?_
  rintro e w7 ⟨rfl, b7⟩
  have H7 := H6.step b7
  have tB7 := tB6.on b7
  have tT7 := tT6.on b7
  have sM7 := sM6.on b7
  have sB7 := sB6.on b7
  have sT7 := sT6.on b7
  clear H6 tB6 tT6 b7 sM6 sB6 sT6
  go_wp2_with fail
  with_reducible refine (c8 _).mono ?_
  rintro e w8 ⟨rfl, b8⟩
  have H8 := (H7.step b8).alloc #[.int .u64 1, .int .u64 2, .int .u64 3] 48
  have tB8 := (tB7.on b8).alloc (.cells #[.int .u64 1, .int .u64 2, .int .u64 3] 48)
  have tT8 := (tT7.on b8).alloc (.cells #[.int .u64 1, .int .u64 2, .int .u64 3] 48)
  have sM8 := (sM7.on b8).alloc (.cells #[.int .u64 1, .int .u64 2, .int .u64 3] 48)
  have sB8 := (sB7.on b8).alloc (.cells #[.int .u64 1, .int .u64 2, .int .u64 3] 48)
  have sT8 := (sT7.on b8).alloc (.cells #[.int .u64 1, .int .u64 2, .int .u64 3] 48)
  clear H7 tB7 tT7 b8 sM7 sB7 sT7
  go_wp2_with fail
  with_reducible refine (unrecord_none _).mono ?_
  rintro e w9 ⟨rfl, b9⟩
  have H9 := (H8.step b9).alloc #[.int .u64 0, .int .u64 0, .int .u64 0] 48
  have tB9 := (tB8.on b9).alloc (.cells #[.int .u64 0, .int .u64 0, .int .u64 0] 48)
  have tT9 := (tT8.on b9).alloc (.cells #[.int .u64 0, .int .u64 0, .int .u64 0] 48)
  have sM9 := (sM8.on b9).alloc (.cells #[.int .u64 0, .int .u64 0, .int .u64 0] 48)
  have sB9 := (sB8.on b9).alloc (.cells #[.int .u64 0, .int .u64 0, .int .u64 0] 48)
  have sT9 := (sT8.on b9).alloc (.cells #[.int .u64 0, .int .u64 0, .int .u64 0] 48)
  clear H8 tB8 tT8 b9 sM8 sB8 sT8
  go_upto_region 9 with (fail)
  generalize (w9.alloc (.cells #[.int .u64 0, .int .u64 0, .int .u64 0] 48)) = wz at *
  have hmk := fun W : World => (by kernel_rfl : (Instr.makeSlice 52 (.int .i64 40) (.int .i64 40)).run Tryd.prog W = .ok (.slice (some ⟨W.heap.size, 0, none⟩) 40 40) (W.alloc (.cells (Array.replicate 40 (.int .u8 0)) 5)))
  have hcv := run_convert_bytes_back (P := Tryd.prog) (wz.alloc (.cells (Array.replicate 40 (.int .u8 0)) 5)) 52 9 5 ⟨wz.heap.size, 0, none⟩ 40 (List.replicate 40 0) Tryd.underlying52 Tryd.underlying5 Tryd.underlying9 (fun j hj => by
    have hj1 : j < 40 := by simpa using hj
    have h1 := (RowAt.new wz 5 (Array.replicate 40 (.int .u8 0))).cell j
    have e1 : (⟨wz.heap.size, 0, none⟩ : Addr).add j = ⟨wz.heap.size, j, none⟩ := by unfold Addr.add; split <;> simp_all
    rw [e1, h1]
    rw [Array.toList_replicate, List.getElem?_replicate, if_pos hj1, List.getElem_replicate]; rfl)
  simp only [List.length_replicate] at hcv
  obtain ⟨Z40, hZ⟩ : ∃ Z40 : ByteArray, Z40 = ⟨(List.replicate 40 (0 : UInt8)).toArray⟩ := ⟨_, rfl⟩
  rw [← hZ] at hcv
  have hcmp : (S.toList == (Z40 ++ (⟨#[48, 0, 0, 0, 49, 0, 0, 0, 1, 0]⟩ : ByteArray)).toList) = true := by
    have e : S = Z40 ++ (⟨#[48, 0, 0, 0, 49, 0, 0, 0, 1, 0]⟩ : ByteArray) := list_ext (by rw [HS.out, hZ, ByteArray.data_append, Array.toList_append]; decide)
    rw [← e]; exact beq_self_eq_true _
  have hzs : Z40.size = 40 := by rw [hZ]; rfl
  clear hZ
  have HQ := H9.step ((Below.refl _ _).alloc (Nat.le_refl _) (.cells (Array.replicate 40 (.int .u8 0)) 5))
  have tBQ := tB9.alloc (.cells (Array.replicate 40 (.int .u8 0)) 5)
  have tTQ := tT9.alloc (.cells (Array.replicate 40 (.int .u8 0)) 5)
  have sMQ := sM9.alloc (.cells (Array.replicate 40 (.int .u8 0)) 5)
  have sBQ := sB9.alloc (.cells (Array.replicate 40 (.int .u8 0)) 5)
  have sTQ := sT9.alloc (.cells (Array.replicate 40 (.int .u8 0)) 5)
  have Rv : RowAt _ w2.heap.size 39 [.int .u64 0, .int .u64 0, .int .u64 0, .int .u64 0, .int .u64 0, .int .i64 0, .slice A 0 c, .bool false, .slice B 0 k] := HQ.2 (w2.heap.size, 39, [.int .u64 0, .int .u64 0, .int .u64 0, .int .u64 0, .int .u64 0, .int .i64 0, .slice A 0 c, .bool false, .slice B 0 k]) (by simp)
  have Ra : RowAt _ w6.heap.size 44 [.int .u64 3, .bool false, .slice C 0 j, .int .u64 0, .int .u64 0, .int .u64 0, .int .u64 0, .int .u64 0, .int .i64 0, .slice A' 0 c', .bool false, .slice B' 0 k'] := HQ.2 (w6.heap.size, 44, [.int .u64 3, .bool false, .slice C 0 j, .int .u64 0, .int .u64 0, .int .u64 0, .int .u64 0, .int .u64 0, .int .i64 0, .slice A' 0 c', .bool false, .slice B' 0 k']) (by simp)
  have Rr : RowAt _ w8.heap.size 48 [.int .u64 1, .int .u64 2, .int .u64 3] := HQ.2 (w8.heap.size, 48, [.int .u64 1, .int .u64 2, .int .u64 3]) (by simp)
  have v0 := Rv.cell 0
  have v1 := Rv.cell 1
  have v2 := Rv.cell 2
  have v3 := Rv.cell 3
  have v4 := Rv.cell 4
  have v5 := Rv.cell 5
  have v6 := Rv.cell 6
  have v7 := Rv.cell 7
  have v8 := Rv.cell 8
  simp only [List.getElem?_cons_succ, List.getElem?_cons_zero] at v0 v1 v2 v3 v4 v5 v6 v7 v8
  go_wp2_with fail
  with_reducible refine (same_zero _ _ _ _ _ tBQ tTQ).mono ?_
  rintro e wA ⟨rfl, bA⟩
  replace Ra := Ra.on bA
  replace Rr := Rr.on bA
  have sM := sMQ.on bA
  have sB := sBQ.on bA
  have sT := sTQ.on bA
  have bb := HQ.1.trans (bA.mono HQ.1.size)
  clear v0 v1 v2 v3 v4 v5 v6 v7 v8 Rv sMQ sBQ sTQ tBQ tTQ HQ hmk hcv hcmp bA
  have u0 := Ra.cell 0
  have u1 := Ra.cell 1
  have u2 := Ra.cell 2
  have u3 := Ra.cell 3
  have u4 := Ra.cell 4
  have u5 := Ra.cell 5
  have u6 := Ra.cell 6
  have u7 := Ra.cell 7
  have u8 := Ra.cell 8
  have u9 := Ra.cell 9
  have u10 := Ra.cell 10
  have u11 := Ra.cell 11
  simp only [List.getElem?_cons_succ, List.getElem?_cons_zero] at u0 u1 u2 u3 u4 u5 u6 u7 u8 u9 u10 u11
  go_wp2_with fail
  with_reducible refine (same_three _ _ _ _ _ _ _ sM sB sT).mono ?_
  rintro e wB ⟨rfl, bB⟩
  replace Rr := Rr.on bB
  replace bb := bb.trans (bB.mono bb.size)
  clear u0 u1 u2 u3 u4 u5 u6 u7 u8 u9 u10 u11 Ra sM sB sT bB
  have u0 := Rr.cell 0
  have u1 := Rr.cell 1
  have u2 := Rr.cell 2
  simp only [List.getElem?_cons_succ, List.getElem?_cons_zero] at u0 u1 u2
  go_wp2_with fail
  go_ret
  exact ⟨rfl, bb⟩
end Go.Proofs.YtblpdhnifleioaaDoor

namespace Go.Proofs.YtblpdhnifleioaaDoor
open Go.RowKit

def rootH (ws : List Nat) : Nat := moreH 14695981039346656037 (wordsB ws)
theorem rootH_lt (ws : List Nat) : rootH ws < 18446744073709551616 := moreH_lt (by decide) _
set_option maxHeartbeats 1000000 in
theorem Root_any (d0 d1 d2 d3 d4 : Nat) (w : World) (hT : Tab w) :
    Calls Tryd.prog 6 #[.agg #[.int .u64 (d0 : Int), .int .u64 (d1 : Int), .int .u64 (d2 : Int), .int .u64 (d3 : Int), .int .u64 (d4 : Int)]] w fun e w' => e = .returned (.int .u64 (rootH [d0, d1, d2, d3, d4] : Int)) ∧ Below w.heap.size w w' := by
  have c1 := fun W (hW : Tab W) => Sum_any ⟨(wordsB [d0, d1, d2, d3, d4]).toArray⟩ W (by rw [← list_len]; simp [wordsB_length]) hW
  have b0 : Below w.heap.size w (w.alloc (.cells #[.int .u64 (d0 : Int), .int .u64 (d1 : Int), .int .u64 (d2 : Int), .int .u64 (d3 : Int), .int .u64 (d4 : Int)] 24)) := (Below.refl _ _).alloc (Nat.le_refl _) _
  go_enter Tryd.func6, Tryd.ntmps6
  go_wp2_with fail
  with_reducible refine (bytesOfData_any d0 d1 d2 d3 d4 _).mono ?_
  rintro e w1 ⟨rfl, b1⟩
  have bw := b0.trans (b1.mono b0.size)
  have hT1 := hT.on bw
  go_wp2_with fail
  refine (c1 _ hT1).mono ?_
  rintro e w2 ⟨rfl, b2⟩
  go_wp2_with fail
  go_ret
  exact ⟨by simp [rootH], bw.trans (b2.mono bw.size)⟩
theorem words_set : ∀ (ds : List Nat) (i j c : Nat), i < ds.length → j < 8 → c < 256 → ∃ (k : Nat) (y : UInt8), wordsB (ds.set i (ds.getD i 0 ^^^ (c * 256 ^ j))) = (wordsB ds).set k y
  | [], i, _, _, h, _, _ => absurd h (by simp)
  | a :: ds, 0, j, c, _, hj, hc => ⟨j, _, by
      show wordsB ((a ^^^ (c * 256 ^ j)) :: ds) = _
      rw [wordsB_cons, wordsB_cons, leBytes_xor a c j hc hj, List.set_append_left _ _ (by rw [leBytes_length]; exact hj)]⟩
  | a :: ds, i + 1, j, c, h, hj, hc => by
      obtain ⟨k, y, e⟩ := words_set ds i j c (by simpa using h) hj hc
      refine ⟨8 + k, y, ?_⟩
      show wordsB (a :: ds.set i (ds.getD i 0 ^^^ (c * 256 ^ j))) = _
      rw [wordsB_cons, wordsB_cons, e, List.set_append_right _ _ (by rw [leBytes_length]; omega), leBytes_length]
      congr 2
      omega
theorem xor_zero_iff (a c j : Nat) (ha : a < 18446744073709551616) (hc : c < 256) (hj : j < 8) : a = a ^^^ (c * 256 ^ j) ↔ c = 0 := by
  constructor
  · intro h
    have h2 : a ^^^ a = a ^^^ (a ^^^ (c * 256 ^ j)) := by rw [← h]
    rw [Nat.xor_self, ← Nat.xor_assoc, Nat.xor_self, Nat.zero_xor] at h2
    have hp : 0 < 256 ^ j := Nat.pow_pos (by decide)
    rcases Nat.eq_zero_or_pos c with h0 | h0
    · exact h0
    · have := Nat.mul_pos h0 hp
      omega
  · rintro rfl; simp
theorem words_inj' : ∀ (ds es : List Nat), ds.length = es.length → (∀ x ∈ ds, x < 18446744073709551616) → (∀ x ∈ es, x < 18446744073709551616) → wordsB ds = wordsB es → ds = es
  | [], [], _, _, _, _ => rfl
  | [], _ :: _, h, _, _, _ => by cases h
  | _ :: _, [], h, _, _, _ => by cases h
  | a :: ds, b :: es, h, hd, he, hw => by
    rw [wordsB_cons, wordsB_cons] at hw
    obtain ⟨h1, h2⟩ := List.append_inj hw (by rw [leBytes_length, leBytes_length])
    have e1 : a = b := by
      have q1 := num_bytes (hd a (by simp))
      have q2 := num_bytes (he b (by simp))
      rw [← q1, ← q2, h1]
    rw [e1, words_inj' ds es (by simpa using h) (fun x hx => hd x (List.mem_cons_of_mem _ hx)) (fun x hx => he x (List.mem_cons_of_mem _ hx)) h2]
theorem root_one (ds : List Nat) (i j c : Nat) (hi : i < ds.length) (hj : j < 8) (hc : c < 256) (hd : ∀ x ∈ ds, x < 18446744073709551616) : rootH ds = rootH (ds.set i (ds.getD i 0 ^^^ (c * 256 ^ j))) ↔ c = 0 := by
  obtain ⟨k, y, e⟩ := words_set ds i j c hi hj hc
  unfold rootH
  rw [e, more_set (by decide), ← e]
  have ha : ds.getD i 0 < 18446744073709551616 := by
    have h1 : ds.getD i 0 = ds[i] := by simp [List.getD, hi]
    rw [h1]; exact hd _ (List.getElem_mem hi)
  rw [← xor_zero_iff (ds.getD i 0) c j ha hc hj]
  constructor
  · intro h
    have hx : ds.getD i 0 ^^^ (c * 256 ^ j) < 18446744073709551616 := by
      apply xor_lt64 ha
      have h1 : 256 ^ j ≤ 256 ^ 7 := Nat.pow_le_pow_right (by omega) (by omega)
      have h3 : (256 : Nat) ^ 7 = 72057594037927936 := by decide
      have h4 : c * 256 ^ j ≤ 255 * 256 ^ 7 := Nat.mul_le_mul (by omega) h1
      omega
    have h2 := words_inj' ds _ (by simp) hd (fun x hm => by
      rcases List.mem_or_eq_of_mem_set hm with h | rfl
      · exact hd _ h
      · exact hx) h
    have h3 : ds.getD i 0 = (ds.set i (ds.getD i 0 ^^^ (c * 256 ^ j))).getD i 0 := by rw [← h2]
    exact h3.trans (by simp [List.getD, hi])
  · intro h
    have h1 : ds.getD i 0 = ds[i] := by simp [List.getD, hi]
    rw [show ds.getD i 0 ^^^ (c * 256 ^ j) = ds[i] from h.symm.trans h1, List.set_getElem_self]
end Go.Proofs.YtblpdhnifleioaaDoor

namespace Go.Proofs.YtblpdhnifleioaaDoor
open Go.RowKit

theorem five_later {W : World} {G : Nat} {t : TypeId} {c0 c1 c2 c3 c4 : Value} (h : RowAt W G t [c0, c1, c2, c3, c4]) :
    (∀ p : Later W, p.W.cell? ⟨G, 0, none⟩ = some c0) ∧ (∀ p : Later W, p.W.cell? ⟨G, 1, none⟩ = some c1) ∧ (∀ p : Later W, p.W.cell? ⟨G, 2, none⟩ = some c2) ∧ (∀ p : Later W, p.W.cell? ⟨G, 3, none⟩ = some c3) ∧ (∀ p : Later W, p.W.cell? ⟨G, 4, none⟩ = some c4) :=
  ⟨fun p => by rw [(h.below p.h h.lt).cell]; rfl, fun p => by rw [(h.below p.h h.lt).cell]; rfl, fun p => by rw [(h.below p.h h.lt).cell]; rfl, fun p => by rw [(h.below p.h h.lt).cell]; rfl, fun p => by rw [(h.below p.h h.lt).cell]; rfl⟩
set_option maxHeartbeats 4000000 in
set_option maxRecDepth 100000 in
theorem roots_walk (d0 d1 d2 d3 d4 X p : Nat) (y z : Int) (c : UInt8) (Q : Bool) (w : World) (hT : Tab w) (hp : p < 8)
    (h0 : d0 < 18446744073709551616) (h1 : d1 < 18446744073709551616) (h2 : d2 < 18446744073709551616) (h3 : d3 < 18446744073709551616) (h4 : d4 < 18446744073709551616)
    (hX : IntKind.u64.wrap (IntKind.u64.wrap (c.toNat : Int) * 2 ^ (8 * p)) = (X : Int)) (hXl : X < 18446744073709551616) (hQ : ((c.toNat : Int) == 0) = Q)
    (cZ : ∀ W, Calls Tryd.prog 5 #[.int .i64 z, .int .i64 8] W fun e w' => e = .returned (.int .i64 (p : Int)) ∧ W = w') (m : Nat) (hm : m < 5)
    (cY : ∀ W, Calls Tryd.prog 5 #[.int .i64 y, .int .i64 5] W fun e w' => e = .returned (.int .i64 (m : Int)) ∧ W = w')
    (hR : ∀ i, i < 5 → ((rootH [d0, d1, d2, d3, d4] : Int) == (rootH ([d0, d1, d2, d3, d4].set i ([d0, d1, d2, d3, d4].getD i 0 ^^^ X)) : Int)) = Q) :
    Calls Tryd.prog 3 #[.agg #[.int .u64 (d0 : Int), .int .u64 (d1 : Int), .int .u64 (d2 : Int), .int .u64 (d3 : Int), .int .u64 (d4 : Int)], .int .i64 y, .int .i64 z, .int .u8 (c.toNat : Int)] w fun e w' => e = .returned (.bool true) ∧ Below w.heap.size w w' := by
  have b0 : Below w.heap.size w (w.alloc (.cells #[.int .u64 (d0 : Int), .int .u64 (d1 : Int), .int .u64 (d2 : Int), .int .u64 (d3 : Int), .int .u64 (d4 : Int)] 24)) := (Below.refl _ _).alloc (Nat.le_refl _) _
  have hm5 : m = 0 ∨ m = 1 ∨ m = 2 ∨ m = 3 ∨ m = 4 := by omega
  have RD : RowAt (w.alloc (.cells #[.int .u64 (d0 : Int), .int .u64 (d1 : Int), .int .u64 (d2 : Int), .int .u64 (d3 : Int), .int .u64 (d4 : Int)] 24)) w.heap.size 24 [.int .u64 (d0 : Int), .int .u64 (d1 : Int), .int .u64 (d2 : Int), .int .u64 (d3 : Int), .int .u64 (d4 : Int)] := RowAt.new w 24 #[.int .u64 (d0 : Int), .int .u64 (d1 : Int), .int .u64 (d2 : Int), .int .u64 (d3 : Int), .int .u64 (d4 : Int)]
  go_enter Tryd.func3, Tryd.ntmps3
  go_wp2_with fail
  with_reducible refine (awake_wire _).mono ?_
  rintro e w1 ⟨rfl, b1⟩
  have bw := b0.trans (b1.mono b0.size)
  replace RD := RD.on b1
  have HT := Lib.hid (hT.on bw)
  have a0 := RD.cell 0
  have a1 := RD.cell 1
  have a2 := RD.cell 2
  have a3 := RD.cell 3
  have a4 := RD.cell 4
  simp only [List.getElem?_cons_succ, List.getElem?_cons_zero] at a0 a1 a2 a3 a4
  have HR := Lib.hid hR
  have HQ := Lib.hid hQ
  clear hR hQ b0 b1 hT
  have hzw : w.heap.size < w1.heap.size := RD.lt
  rcases hm5 with rfl | rfl | rfl | rfl | rfl
  · have hxor := u64_xor_nat d0 X h0 hXl
    go_wp2_with (first | ((with_reducible refine (cZ _).mono ?_); rintro e w_ ⟨rfl, rfl⟩) | ((with_reducible refine (cY _).mono ?_); rintro e w_ ⟨rfl, rfl⟩))
    have bw2 : Below w.heap.size w (w1.alloc (.cells #[.int .u64 ((d0 ^^^ X : Nat) : Int), .int .u64 (d1 : Int), .int .u64 (d2 : Int), .int .u64 (d3 : Int), .int .u64 (d4 : Int)] 24)) := bw.alloc bw.size _
    have RO := RowAt.new w1 24 #[.int .u64 ((d0 ^^^ X : Nat) : Int), .int .u64 (d1 : Int), .int .u64 (d2 : Int), .int .u64 (d3 : Int), .int .u64 (d4 : Int)]
    have RD2 := RD.alloc (.cells #[.int .u64 ((d0 ^^^ X : Nat) : Int), .int .u64 (d1 : Int), .int .u64 (d2 : Int), .int .u64 (d3 : Int), .int .u64 (d4 : Int)] 24)
    have T2 := HT.out.on ((Below.refl _ w1).alloc (Nat.le_refl _) (.cells #[.int .u64 ((d0 ^^^ X : Nat) : Int), .int .u64 (d1 : Int), .int .u64 (d2 : Int), .int .u64 (d3 : Int), .int .u64 (d4 : Int)] 24))
    generalize (w1.alloc (.cells #[.int .u64 ((d0 ^^^ X : Nat) : Int), .int .u64 (d1 : Int), .int .u64 (d2 : Int), .int .u64 (d3 : Int), .int .u64 (d4 : Int)] 24)) = w2 at *
    obtain ⟨l0, l1, l2, l3, l4⟩ := five_later RD2
    obtain ⟨k0, k1, k2, k3, k4⟩ := five_later RO
    have r1 := fun q : Later w2 => later_of (p := q) (Root_any d0 d1 d2 d3 d4 q.W (T2.on q.h))
    have r2 := fun q : Later w2 => later_of (p := q) (Root_any (d0 ^^^ X) d1 d2 d3 d4 q.W (T2.on q.h))
    have hcmp : ((rootH [d0, d1, d2, d3, d4] : Int) == (rootH [d0 ^^^ X, d1, d2, d3, d4] : Int)) = Q := HR.out 0 (by decide)
    have hQ := HQ.out
    refine wp_region_later (by kernel_rfl) (by kernel_rfl) ?_
    repeat (go_big_quiet_step (first | with_reducible exact r1 _ | with_reducible exact r2 _))
    refine wpQuiet_nil ?_
    intro _ hw'
    obtain ⟨pq, rfl⟩ := hw'
    go_wp2
    go_ret
    exact ⟨rfl, bw2.trans (pq.h.mono bw2.size)⟩
  · have hxor := u64_xor_nat d1 X h1 hXl
    go_wp2_with (first | ((with_reducible refine (cZ _).mono ?_); rintro e w_ ⟨rfl, rfl⟩) | ((with_reducible refine (cY _).mono ?_); rintro e w_ ⟨rfl, rfl⟩))
    have bw2 : Below w.heap.size w (w1.alloc (.cells #[.int .u64 (d0 : Int), .int .u64 ((d1 ^^^ X : Nat) : Int), .int .u64 (d2 : Int), .int .u64 (d3 : Int), .int .u64 (d4 : Int)] 24)) := bw.alloc bw.size _
    have RO := RowAt.new w1 24 #[.int .u64 (d0 : Int), .int .u64 ((d1 ^^^ X : Nat) : Int), .int .u64 (d2 : Int), .int .u64 (d3 : Int), .int .u64 (d4 : Int)]
    have RD2 := RD.alloc (.cells #[.int .u64 (d0 : Int), .int .u64 ((d1 ^^^ X : Nat) : Int), .int .u64 (d2 : Int), .int .u64 (d3 : Int), .int .u64 (d4 : Int)] 24)
    have T2 := HT.out.on ((Below.refl _ w1).alloc (Nat.le_refl _) (.cells #[.int .u64 (d0 : Int), .int .u64 ((d1 ^^^ X : Nat) : Int), .int .u64 (d2 : Int), .int .u64 (d3 : Int), .int .u64 (d4 : Int)] 24))
    generalize (w1.alloc (.cells #[.int .u64 (d0 : Int), .int .u64 ((d1 ^^^ X : Nat) : Int), .int .u64 (d2 : Int), .int .u64 (d3 : Int), .int .u64 (d4 : Int)] 24)) = w2 at *
    obtain ⟨l0, l1, l2, l3, l4⟩ := five_later RD2
    obtain ⟨k0, k1, k2, k3, k4⟩ := five_later RO
    have r1 := fun q : Later w2 => later_of (p := q) (Root_any d0 d1 d2 d3 d4 q.W (T2.on q.h))
    have r2 := fun q : Later w2 => later_of (p := q) (Root_any d0 (d1 ^^^ X) d2 d3 d4 q.W (T2.on q.h))
    have hcmp : ((rootH [d0, d1, d2, d3, d4] : Int) == (rootH [d0, d1 ^^^ X, d2, d3, d4] : Int)) = Q := HR.out 1 (by decide)
    have hQ := HQ.out
    refine wp_region_later (by kernel_rfl) (by kernel_rfl) ?_
    repeat (go_big_quiet_step (first | with_reducible exact r1 _ | with_reducible exact r2 _))
    refine wpQuiet_nil ?_
    intro _ hw'
    obtain ⟨pq, rfl⟩ := hw'
    go_wp2
    go_ret
    exact ⟨rfl, bw2.trans (pq.h.mono bw2.size)⟩
  · have hxor := u64_xor_nat d2 X h2 hXl
    go_wp2_with (first | ((with_reducible refine (cZ _).mono ?_); rintro e w_ ⟨rfl, rfl⟩) | ((with_reducible refine (cY _).mono ?_); rintro e w_ ⟨rfl, rfl⟩))
    have bw2 : Below w.heap.size w (w1.alloc (.cells #[.int .u64 (d0 : Int), .int .u64 (d1 : Int), .int .u64 ((d2 ^^^ X : Nat) : Int), .int .u64 (d3 : Int), .int .u64 (d4 : Int)] 24)) := bw.alloc bw.size _
    have RO := RowAt.new w1 24 #[.int .u64 (d0 : Int), .int .u64 (d1 : Int), .int .u64 ((d2 ^^^ X : Nat) : Int), .int .u64 (d3 : Int), .int .u64 (d4 : Int)]
    have RD2 := RD.alloc (.cells #[.int .u64 (d0 : Int), .int .u64 (d1 : Int), .int .u64 ((d2 ^^^ X : Nat) : Int), .int .u64 (d3 : Int), .int .u64 (d4 : Int)] 24)
    have T2 := HT.out.on ((Below.refl _ w1).alloc (Nat.le_refl _) (.cells #[.int .u64 (d0 : Int), .int .u64 (d1 : Int), .int .u64 ((d2 ^^^ X : Nat) : Int), .int .u64 (d3 : Int), .int .u64 (d4 : Int)] 24))
    generalize (w1.alloc (.cells #[.int .u64 (d0 : Int), .int .u64 (d1 : Int), .int .u64 ((d2 ^^^ X : Nat) : Int), .int .u64 (d3 : Int), .int .u64 (d4 : Int)] 24)) = w2 at *
    obtain ⟨l0, l1, l2, l3, l4⟩ := five_later RD2
    obtain ⟨k0, k1, k2, k3, k4⟩ := five_later RO
    have r1 := fun q : Later w2 => later_of (p := q) (Root_any d0 d1 d2 d3 d4 q.W (T2.on q.h))
    have r2 := fun q : Later w2 => later_of (p := q) (Root_any d0 d1 (d2 ^^^ X) d3 d4 q.W (T2.on q.h))
    have hcmp : ((rootH [d0, d1, d2, d3, d4] : Int) == (rootH [d0, d1, d2 ^^^ X, d3, d4] : Int)) = Q := HR.out 2 (by decide)
    have hQ := HQ.out
    refine wp_region_later (by kernel_rfl) (by kernel_rfl) ?_
    repeat (go_big_quiet_step (first | with_reducible exact r1 _ | with_reducible exact r2 _))
    refine wpQuiet_nil ?_
    intro _ hw'
    obtain ⟨pq, rfl⟩ := hw'
    go_wp2
    go_ret
    exact ⟨rfl, bw2.trans (pq.h.mono bw2.size)⟩
  · have hxor := u64_xor_nat d3 X h3 hXl
    go_wp2_with (first | ((with_reducible refine (cZ _).mono ?_); rintro e w_ ⟨rfl, rfl⟩) | ((with_reducible refine (cY _).mono ?_); rintro e w_ ⟨rfl, rfl⟩))
    have bw2 : Below w.heap.size w (w1.alloc (.cells #[.int .u64 (d0 : Int), .int .u64 (d1 : Int), .int .u64 (d2 : Int), .int .u64 ((d3 ^^^ X : Nat) : Int), .int .u64 (d4 : Int)] 24)) := bw.alloc bw.size _
    have RO := RowAt.new w1 24 #[.int .u64 (d0 : Int), .int .u64 (d1 : Int), .int .u64 (d2 : Int), .int .u64 ((d3 ^^^ X : Nat) : Int), .int .u64 (d4 : Int)]
    have RD2 := RD.alloc (.cells #[.int .u64 (d0 : Int), .int .u64 (d1 : Int), .int .u64 (d2 : Int), .int .u64 ((d3 ^^^ X : Nat) : Int), .int .u64 (d4 : Int)] 24)
    have T2 := HT.out.on ((Below.refl _ w1).alloc (Nat.le_refl _) (.cells #[.int .u64 (d0 : Int), .int .u64 (d1 : Int), .int .u64 (d2 : Int), .int .u64 ((d3 ^^^ X : Nat) : Int), .int .u64 (d4 : Int)] 24))
    generalize (w1.alloc (.cells #[.int .u64 (d0 : Int), .int .u64 (d1 : Int), .int .u64 (d2 : Int), .int .u64 ((d3 ^^^ X : Nat) : Int), .int .u64 (d4 : Int)] 24)) = w2 at *
    obtain ⟨l0, l1, l2, l3, l4⟩ := five_later RD2
    obtain ⟨k0, k1, k2, k3, k4⟩ := five_later RO
    have r1 := fun q : Later w2 => later_of (p := q) (Root_any d0 d1 d2 d3 d4 q.W (T2.on q.h))
    have r2 := fun q : Later w2 => later_of (p := q) (Root_any d0 d1 d2 (d3 ^^^ X) d4 q.W (T2.on q.h))
    have hcmp : ((rootH [d0, d1, d2, d3, d4] : Int) == (rootH [d0, d1, d2, d3 ^^^ X, d4] : Int)) = Q := HR.out 3 (by decide)
    have hQ := HQ.out
    refine wp_region_later (by kernel_rfl) (by kernel_rfl) ?_
    repeat (go_big_quiet_step (first | with_reducible exact r1 _ | with_reducible exact r2 _))
    refine wpQuiet_nil ?_
    intro _ hw'
    obtain ⟨pq, rfl⟩ := hw'
    go_wp2
    go_ret
    exact ⟨rfl, bw2.trans (pq.h.mono bw2.size)⟩
  · have hxor := u64_xor_nat d4 X h4 hXl
    go_wp2_with (first | ((with_reducible refine (cZ _).mono ?_); rintro e w_ ⟨rfl, rfl⟩) | ((with_reducible refine (cY _).mono ?_); rintro e w_ ⟨rfl, rfl⟩))
    have bw2 : Below w.heap.size w (w1.alloc (.cells #[.int .u64 (d0 : Int), .int .u64 (d1 : Int), .int .u64 (d2 : Int), .int .u64 (d3 : Int), .int .u64 ((d4 ^^^ X : Nat) : Int)] 24)) := bw.alloc bw.size _
    have RO := RowAt.new w1 24 #[.int .u64 (d0 : Int), .int .u64 (d1 : Int), .int .u64 (d2 : Int), .int .u64 (d3 : Int), .int .u64 ((d4 ^^^ X : Nat) : Int)]
    have RD2 := RD.alloc (.cells #[.int .u64 (d0 : Int), .int .u64 (d1 : Int), .int .u64 (d2 : Int), .int .u64 (d3 : Int), .int .u64 ((d4 ^^^ X : Nat) : Int)] 24)
    have T2 := HT.out.on ((Below.refl _ w1).alloc (Nat.le_refl _) (.cells #[.int .u64 (d0 : Int), .int .u64 (d1 : Int), .int .u64 (d2 : Int), .int .u64 (d3 : Int), .int .u64 ((d4 ^^^ X : Nat) : Int)] 24))
    generalize (w1.alloc (.cells #[.int .u64 (d0 : Int), .int .u64 (d1 : Int), .int .u64 (d2 : Int), .int .u64 (d3 : Int), .int .u64 ((d4 ^^^ X : Nat) : Int)] 24)) = w2 at *
    obtain ⟨l0, l1, l2, l3, l4⟩ := five_later RD2
    obtain ⟨k0, k1, k2, k3, k4⟩ := five_later RO
    have r1 := fun q : Later w2 => later_of (p := q) (Root_any d0 d1 d2 d3 d4 q.W (T2.on q.h))
    have r2 := fun q : Later w2 => later_of (p := q) (Root_any d0 d1 d2 d3 (d4 ^^^ X) q.W (T2.on q.h))
    have hcmp : ((rootH [d0, d1, d2, d3, d4] : Int) == (rootH [d0, d1, d2, d3, d4 ^^^ X] : Int)) = Q := HR.out 4 (by decide)
    have hQ := HQ.out
    refine wp_region_later (by kernel_rfl) (by kernel_rfl) ?_
    repeat (go_big_quiet_step (first | with_reducible exact r1 _ | with_reducible exact r2 _))
    refine wpQuiet_nil ?_
    intro _ hw'
    obtain ⟨pq, rfl⟩ := hw'
    go_wp2
    go_ret
    exact ⟨rfl, bw2.trans (pq.h.mono bw2.size)⟩

theorem roots_calls (d0 d1 d2 d3 d4 : Nat) (h0 : d0 < 18446744073709551616) (h1 : d1 < 18446744073709551616) (h2 : d2 < 18446744073709551616) (h3 : d3 < 18446744073709551616) (h4 : d4 < 18446744073709551616) (y : Int) (wy : (Lit.int .i64 y).wf = true) (z : Int) (wz : (Lit.int .i64 z).wf = true) (ch : Int) (wc : (Lit.int .u8 ch).wf = true) (w : World) (hT : Tab w) :
    Calls Tryd.prog 3 #[.agg #[.int .u64 (d0 : Int), .int .u64 (d1 : Int), .int .u64 (d2 : Int), .int .u64 (d3 : Int), .int .u64 (d4 : Int)], .int .i64 y, .int .i64 z, .int .u8 ch] w fun e w' => e = .returned (.bool true) ∧ Below w.heap.size w w' := by
  obtain ⟨c, rfl⟩ : ∃ c : UInt8, ch = (c.toNat : Int) := by
    have e1 : IntKind.u8.min = 0 := by rfl
    have e2 : IntKind.u8.max = 255 := by rfl
    simp [Lit.wf, e1, e2] at wc
    exact ⟨UInt8.ofNat ch.toNat, by simp; omega⟩
  have iy : I64 y := by
    have e1 : IntKind.i64.min = -9223372036854775808 := by rfl
    have e2 : IntKind.i64.max = 9223372036854775807 := by rfl
    simp [Lit.wf, e1, e2] at wy
    exact wy
  have iz : I64 z := by
    have e1 : IntKind.i64.min = -9223372036854775808 := by rfl
    have e2 : IntKind.i64.max = 9223372036854775807 := by rfl
    simp [Lit.wf, e1, e2] at wz
    exact wz
  have hp := pickN_lt z 8 (by decide)
  have hm := pickN_lt y 5 (by decide)
  have cZ := fun W => pick6_any z 8 W iz (by decide) (by decide)
  have cY := fun W => pick6_any y 5 W iy (by decide) (by decide)
  generalize pickN z 8 = p at hp cZ
  generalize pickN y 5 = m at hm cY
  have hp8 : p < 8 := by omega
  have hc := c.toNat_lt
  have hx : c.toNat * 256 ^ p < 18446744073709551616 := by
    have h1 : 256 ^ p ≤ 256 ^ 7 := Nat.pow_le_pow_right (by omega) (by omega)
    have h3 : (256 : Nat) ^ 7 = 72057594037927936 := by decide
    have h4 : c.toNat * 256 ^ p ≤ 255 * 256 ^ 7 := Nat.mul_le_mul (by omega) h1
    omega
  refine roots_walk d0 d1 d2 d3 d4 _ p y z c _ w hT hp8 h0 h1 h2 h3 h4 (byte_shift c p hp8) hx rfl cZ m (by omega) cY fun i hi => ?_
  have key := root_one [d0, d1, d2, d3, d4] i p c.toNat hi hp8 (by omega) (by
    intro x hx
    simp only [List.mem_cons, List.not_mem_nil, or_false] at hx
    omega)
  rw [Bool.eq_iff_iff, beq_iff_eq, beq_iff_eq, Int.ofNat_inj, key]
  omega
end Go.Proofs.YtblpdhnifleioaaDoor
