/- turned: a text with a byte in place of one.
   The statements' own small functions of layer 6: awake.
   What Vote and Aggregate make of raw numbers, named.
   Votes with unlike numbers have unlike bytes (plain). -/
import Derived.Test.YtieheieiolobaaaGreatDoorWirT
import Derived.Test.YtieheieiolobaaaGreatDoorKeepW
namespace Go.Proofs.YtieheieiolobaaaGreatDoor
open Go.RowKit

/-- A text as long as s, in memory as it was. -/
def SameLong (s : ByteArray) (w : World) (e : Ending) (w' : World) : Prop := ∃ t : ByteArray, e = .returned (.string t) ∧ t.size = s.size ∧ Below w.heap.size w w'
set_option maxHeartbeats 2000000 in
set_option maxRecDepth 100000 in
theorem turned_any (s : ByteArray) (x : Int) (c : UInt8) (w : World) (hx : I64 x) (hs : s.size ≤ 1000000) :
    Calls Tryz.prog 11 #[.string s, .int .i64 x, .int .u8 (c.toNat : Int)] w (SameLong s w) := by
  rcases Nat.eq_zero_or_pos s.size with h0 | hpos
  · have hz : ((s.size : Int) == 0) = true := by rw [beq_iff_eq]; omega
    clear h0
    go_enter Tryz.func11, Tryz.ntmps11
    go_wp2
    go_ret
    exact ⟨s, rfl, rfl, Below.refl _ _⟩
  · have hz : ((s.size : Int) == 0) = false := by rw [beq_eq_false_iff_ne]; omega
    have hP := fun W => pick6_any x (s.size : Int) W hx (by omega) (by omega)
    have hk := pickN_lt x (s.size : Int) (by omega)
    generalize pickN x (s.size : Int) = k at hP hk
    have hk' : k < s.size := by omega
    have k0 : (0 : Int) ≤ (k : Int) := by omega
    have k1 : (k : Int) ≤ (s.size : Int) := by omega
    have k2 : (k : Int) + 1 ≤ (s.size : Int) := by omega
    go_enter Tryz.func11, Tryz.ntmps11
    go_wp2_with ((with_reducible refine (hP _).mono ?_); rintro e w1 ⟨rfl, rfl⟩)
    have q0 : IntKind.i64.wrap ((k : Int) + 1) = (k : Int) + 1 := IntWalk.i64_in _ (by omega)
    have q1 : 0 ≤ (k : Int) + 1 := by omega
    have q2 : ((k : Int) + 1).toNat = k + 1 := by omega
    have hcv := run_convert_bytes_back (P := Tryz.prog) (w.alloc (.cells #[.int .u8 (c.toNat : Int)] 5)).drew 63 9 5 ⟨w.heap.size, 0, none⟩ 1 [c] Tryz.underlying63 Tryz.underlying5 Tryz.underlying9 (fun j hj => by
      have hj1 : j < 1 := hj
      obtain rfl : j = 0 := by omega
      simp [Addr.add])
    simp only [List.length_cons, List.length_nil, Nat.zero_add] at hcv
    go_region_with (fail)
    all_goals
      go_wp2
      go_ret
      exact ⟨s.extract 0 k ++ ⟨#[c]⟩ ++ s.extract (k + 1) s.size, rfl, by rw [ByteArray.size_append, ByteArray.size_append, ByteArray.size_extract, ByteArray.size_extract]; show _ + 1 + _ = _; omega, ((Below.refl _ _).alloc (Nat.le_refl _) _).drew⟩
end Go.Proofs.YtieheieiolobaaaGreatDoor

namespace Go.Proofs.YtieheieiolobaaaGreatDoor
open Go.RowKit

def zeroT : Text := voteB [0, 0, 0, 0, 0] 0 [] false []
def aggT : Text := aggB 3 false [] zeroT
theorem zero_is : IsVote zeroT 0 0 0 0 0 0 [] false [] := ⟨rfl, by decide, by decide, by decide, by decide, by decide, by decide, by decide, (fun _ h => by cases h)⟩
theorem agg_is : IsAgg aggT 3 false [] 0 0 0 0 0 0 [] false [] := ⟨rfl, by decide, by decide, (fun _ h => by cases h), zero_is, by decide⟩
theorem Bt.empty (W : World) (n : Int) : Bt W (.agg #[.int .i64 n, .slice none 0 0]) n [] := ⟨_, rfl, Elems.nil _ _ _⟩
theorem zero_len : zeroT.length = 50 := by decide
theorem list_ext {a b : ByteArray} (h : a.data.toList = b.data.toList) : a = b := by
  cases a; cases b; simp at h; simp [h]
/-- What Unvote and Unaggregate read of the bytes of zero votes. -/
def ZeroAns (w : World) (e : Ending) (w' : World) : Prop := ∃ A c B k, e = .returned (.tuple #[.agg #[.int .u64 0, .int .u64 0, .int .u64 0, .int .u64 0, .int .u64 0, .int .i64 0, .slice A 0 c, .bool false, .slice B 0 k], .int .i64 0]) ∧ Bt w' (.agg #[.int .i64 0, .slice A 0 c]) 0 [] ∧ Tk w' (.agg #[.bool false, .slice B 0 k]) false [] ∧ Below w.heap.size w w'
def ZeroAgg (w : World) (e : Ending) (w' : World) : Prop := ∃ C j A' c' B' k', e = .returned (.tuple #[.agg #[.int .u64 3, .bool false, .slice C 0 j, .int .u64 0, .int .u64 0, .int .u64 0, .int .u64 0, .int .u64 0, .int .i64 0, .slice A' 0 c', .bool false, .slice B' 0 k'], .int .i64 0]) ∧ Tk w' (.agg #[.bool false, .slice C 0 j]) false [] ∧ Bt w' (.agg #[.int .i64 0, .slice A' 0 c']) 0 [] ∧ Tk w' (.agg #[.bool false, .slice B' 0 k']) false [] ∧ Below w.heap.size w w'
theorem vote_zero (S : ByteArray) (hS : S.data.toList = zeroT) (W : World) : Calls Tryz.prog 7 #[.agg #[.int .u64 0, .int .u64 0, .int .u64 0, .int .u64 0, .int .u64 0, .int .i64 0, .slice none 0 0, .bool false, .slice none 0 0]] W fun e w' => e = .returned (.tuple #[.string S, .int .i64 0]) ∧ Below W.heap.size W w' :=
  Vote_ok 0 0 0 0 0 0 [] false [] none none 0 0 S W hS (by decide) (by decide) (Bt.empty W 0) (Tk.empty W) (by decide) (by decide)
theorem unvote_zero (S : ByteArray) (hS : S.data.toList = zeroT) (W : World) : Calls Tryz.prog 13 #[.string S] W (ZeroAns W) :=
  (Unvote_ok (s := S) (d0 := 0) (d1 := 0) (d2 := 0) (d3 := 0) (d4 := 0) (n := 0) (on := []) (f := false) (l := []) (by rw [hS]; exact zero_is) W).mono fun e w' ⟨A, c, B, k, h1, h2, h3, h4⟩ => ⟨A, c, B, k, h1, h2, h3, h4⟩
theorem unvote_short (S : ByteArray) (hS : S.data.toList = zeroT) (W : World) : Calls Tryz.prog 13 #[.string (S.extract 0 30)] W fun e w' => e = .returned (.tuple #[.agg #[.int .u64 0, .int .u64 0, .int .u64 0, .int .u64 0, .int .u64 0, .int .i64 0, .slice none 0 0, .bool false, .slice none 0 0], .int .i64 3]) ∧ Below W.heap.size W w' :=
  Unvote_no 3 (S.extract 0 30) W fun W => readVote_split (S.extract 0 30) W ⟨#[]⟩ [] 3 (by
    have e : (S.extract 0 30).data.toList = zeroT.take 30 := by rw [← hS]; simp
    rw [e]; decide) (by decide)
theorem vote_minus (W : World) : Calls Tryz.prog 7 #[.agg #[.int .u64 0, .int .u64 0, .int .u64 0, .int .u64 0, .int .u64 0, .int .i64 (-1), .slice none 0 0, .bool false, .slice none 0 0]] W fun e w' => e = .returned (.tuple #[.string ⟨#[]⟩, .int .i64 1]) ∧ Below W.heap.size W w' :=
  Vote_arg 0 0 0 0 0 (-1) [] false [] none none 0 0 W (by decide) (Bt.empty W (-1)) (Tk.empty W) (by decide) (by decide)
theorem agg_three (S : ByteArray) (hS : S.data.toList = aggT) (W : World) : Calls Tryz.prog 9 #[.agg #[.int .u64 3, .bool false, .slice none 0 0, .int .u64 0, .int .u64 0, .int .u64 0, .int .u64 0, .int .u64 0, .int .i64 0, .slice none 0 0, .bool false, .slice none 0 0]] W fun e w' => e = .returned (.tuple #[.string S, .int .i64 0]) ∧ Below W.heap.size W w' :=
  Aggregate_ok 3 0 0 0 0 0 0 [] false false [] [] none none none 0 0 0 S W hS (by decide) (by decide) (by decide) (by decide) (Bt.empty W 0) (Tk.empty W) (Tk.empty W) (by decide) (by decide) (by decide)
theorem unagg_three (S : ByteArray) (hS : S.data.toList = aggT) (W : World) : Calls Tryz.prog 15 #[.string S] W (ZeroAgg W) :=
  (Unaggregate_ok (s := S) (a := 3) (h := false) (m := []) (d0 := 0) (d1 := 0) (d2 := 0) (d3 := 0) (d4 := 0) (n := 0) (on := []) (f := false) (l := []) (by rw [hS]; exact agg_is) W).mono fun e w' ⟨C, j, A, c, B, k, h1, h2, h3, h4, h5⟩ => ⟨C, j, A, c, B, k, h1, h2, h3, h4, h5⟩
theorem record_123 (S : ByteArray) (hS : S = ⟨(wordsB [1, 2, 3]).toArray⟩) (W : World) : Calls Tryz.prog 23 #[.agg #[.int .u64 1, .int .u64 2, .int .u64 3]] W fun e w' => e = .returned (.string S) ∧ Below W.heap.size W w' := by
  subst hS; exact Record_any 1 2 3 W
theorem unrecord_123 (S : ByteArray) (hS : S = ⟨(wordsB [1, 2, 3]).toArray⟩) (W : World) : Calls Tryz.prog 17 #[.string S] W fun e w' => e = .returned (.tuple #[.agg #[.int .u64 1, .int .u64 2, .int .u64 3], .int .i64 0]) ∧ Below W.heap.size W w' :=
  Unrecord_ok S 1 2 3 W (by rw [hS]) (by decide) (by decide) (by decide)
theorem unrecord_none (W : World) : Calls Tryz.prog 17 #[.string ⟨#[]⟩] W fun e w' => e = .returned (.tuple #[.agg #[.int .u64 0, .int .u64 0, .int .u64 0], .int .i64 2]) ∧ Below W.heap.size W w' :=
  Unrecord_bad ⟨#[]⟩ W (by decide)
theorem same_zero (A B : Option Addr) (c k : Nat) (W : World) (tB : Bt W (.agg #[.int .i64 0, .slice A 0 c]) 0 []) (tT : Tk W (.agg #[.bool false, .slice B 0 k]) false []) : Calls Tryz.prog 19 #[.agg #[.int .u64 0, .int .u64 0, .int .u64 0, .int .u64 0, .int .u64 0, .int .i64 0, .slice A 0 c, .bool false, .slice B 0 k], .agg #[.int .u64 0, .int .u64 0, .int .u64 0, .int .u64 0, .int .u64 0, .int .i64 0, .slice none 0 0, .bool false, .slice none 0 0]] W fun e w' => e = .returned (.bool true) ∧ Below W.heap.size W w' :=
  SameVote_eq 0 0 0 0 0 0 0 0 0 0 0 0 [] [] false false [] [] A B none none c k 0 0 W true (by decide) tB (Bt.empty W 0) tT (Tk.empty W) (by decide) (by decide) (by decide) (by decide)
theorem same_three (C A' B' : Option Addr) (j c' k' : Nat) (W : World) (tM : Tk W (.agg #[.bool false, .slice C 0 j]) false []) (tB : Bt W (.agg #[.int .i64 0, .slice A' 0 c']) 0 []) (tT : Tk W (.agg #[.bool false, .slice B' 0 k']) false []) : Calls Tryz.prog 20 #[.agg #[.int .u64 3, .bool false, .slice C 0 j, .int .u64 0, .int .u64 0, .int .u64 0, .int .u64 0, .int .u64 0, .int .i64 0, .slice A' 0 c', .bool false, .slice B' 0 k'], .agg #[.int .u64 3, .bool false, .slice none 0 0, .int .u64 0, .int .u64 0, .int .u64 0, .int .u64 0, .int .u64 0, .int .i64 0, .slice none 0 0, .bool false, .slice none 0 0]] W fun e w' => e = .returned (.bool true) ∧ Below W.heap.size W w' :=
  SameAgg_eq 3 3 0 0 0 0 0 0 0 0 0 0 0 0 [] [] false false false false [] [] [] [] A' B' none none C none c' k' 0 0 j 0 W true (by decide) tB (Bt.empty W 0) tT (Tk.empty W) (by decide) (by decide) (by decide) (by decide) tM (Tk.empty W) (by decide) (by decide)

set_option maxHeartbeats 4000000 in
set_option maxRecDepth 100000 in
theorem awake_wire (w : World) : Calls Tryz.prog 4 #[] w fun e w' => e = .returned (.bool true) ∧ Below w.heap.size w w' := by
  obtain ⟨S, hS⟩ := ba_of zeroT
  obtain ⟨S2, hS2⟩ := ba_of aggT
  obtain ⟨S3, hS3⟩ : ∃ S3 : ByteArray, S3 = ⟨(wordsB [1, 2, 3]).toArray⟩ := ⟨_, rfl⟩
  have hsz : S.size = 50 := by rw [← list_len, hS, zero_len]
  have c1 := vote_zero S hS
  have c2 := unvote_zero S hS
  have c3 := unvote_short S hS
  have c4 := vote_minus
  have c5 := agg_three S2 hS2
  have c6 := unagg_three S2 hS2
  have c7 := record_123 S3 hS3
  have c8 := unrecord_123 S3 hS3
  have HS := Lib.hid hS
  clear hS hS2 hS3
  go_enter Tryz.func4, Tryz.ntmps4
  go_wp2_with fail
  with_reducible refine (c1 _).mono ?_
  rintro e w1 ⟨rfl, b1⟩
  go_wp2_with fail
  with_reducible refine (c2 _).mono ?_
  rintro e w2 ⟨A, c, B, k, rfl, tB, tT, b2⟩
  have H2 := ((Held.refl w).step b1).step b2
  have H2b := H2.alloc #[.int .u64 0, .int .u64 0, .int .u64 0, .int .u64 0, .int .u64 0, .int .i64 0, .slice A 0 c, .bool false, .slice B 0 k] 32
  have tB2 := tB.alloc (.cells #[.int .u64 0, .int .u64 0, .int .u64 0, .int .u64 0, .int .u64 0, .int .i64 0, .slice A 0 c, .bool false, .slice B 0 k] 32)
  have tT2 := tT.alloc (.cells #[.int .u64 0, .int .u64 0, .int .u64 0, .int .u64 0, .int .u64 0, .int .i64 0, .slice A 0 c, .bool false, .slice B 0 k] 32)
  clear H2 tB tT b1 b2
  go_wp2_with fail
  have e30 : (min 50 30 : Int).toNat = 30 := by decide
  rw [e30]
  clear e30
  with_reducible refine (c3 _).mono ?_
  rintro e w3 ⟨rfl, b3⟩
  have H3 := (H2b.step b3).alloc #[.int .u64 0, .int .u64 0, .int .u64 0, .int .u64 0, .int .u64 0, .int .i64 0, .slice none 0 0, .bool false, .slice none 0 0] 32
  have tB3 := (tB2.on b3).alloc (.cells #[.int .u64 0, .int .u64 0, .int .u64 0, .int .u64 0, .int .u64 0, .int .i64 0, .slice none 0 0, .bool false, .slice none 0 0] 32)
  have tT3 := (tT2.on b3).alloc (.cells #[.int .u64 0, .int .u64 0, .int .u64 0, .int .u64 0, .int .u64 0, .int .i64 0, .slice none 0 0, .bool false, .slice none 0 0] 32)
  clear H2b tB2 tT2 b3
  go_wp2_with fail
  with_reducible refine (c4 _).mono ?_
  rintro e w4 ⟨rfl, b4⟩
  have H4 := H3.step b4
  have tB4 := tB3.on b4
  have tT4 := tT3.on b4
  clear H3 tB3 tT3 b4
  go_wp2_with fail
  with_reducible refine (c5 _).mono ?_
  rintro e w5 ⟨rfl, b5⟩
  have H5 := H4.step b5
  have tB5 := tB4.on b5
  have tT5 := tT4.on b5
  clear H4 tB4 tT4 b5
  go_wp2_with fail
  with_reducible refine (c6 _).mono ?_
  rintro e w6 ⟨C, j, A', c', B', k', rfl, sM, sB, sT, b6⟩
  have H6 := (H5.step b6).alloc #[.int .u64 3, .bool false, .slice C 0 j, .int .u64 0, .int .u64 0, .int .u64 0, .int .u64 0, .int .u64 0, .int .i64 0, .slice A' 0 c', .bool false, .slice B' 0 k'] 41
  have tB6 := (tB5.on b6).alloc (.cells #[.int .u64 3, .bool false, .slice C 0 j, .int .u64 0, .int .u64 0, .int .u64 0, .int .u64 0, .int .u64 0, .int .i64 0, .slice A' 0 c', .bool false, .slice B' 0 k'] 41)
  have tT6 := (tT5.on b6).alloc (.cells #[.int .u64 3, .bool false, .slice C 0 j, .int .u64 0, .int .u64 0, .int .u64 0, .int .u64 0, .int .u64 0, .int .i64 0, .slice A' 0 c', .bool false, .slice B' 0 k'] 41)
  have sM6 := sM.alloc (.cells #[.int .u64 3, .bool false, .slice C 0 j, .int .u64 0, .int .u64 0, .int .u64 0, .int .u64 0, .int .u64 0, .int .i64 0, .slice A' 0 c', .bool false, .slice B' 0 k'] 41)
  have sB6 := sB.alloc (.cells #[.int .u64 3, .bool false, .slice C 0 j, .int .u64 0, .int .u64 0, .int .u64 0, .int .u64 0, .int .u64 0, .int .i64 0, .slice A' 0 c', .bool false, .slice B' 0 k'] 41)
  have sT6 := sT.alloc (.cells #[.int .u64 3, .bool false, .slice C 0 j, .int .u64 0, .int .u64 0, .int .u64 0, .int .u64 0, .int .u64 0, .int .i64 0, .slice A' 0 c', .bool false, .slice B' 0 k'] 41)
  clear H5 tB5 tT5 b6 sM sB sT
  go_wp2_with fail
  with_reducible refine (c7 _).mono ?_
  rintro e w7 ⟨rfl, b7⟩
  have H7 := H6.step b7
  have tB7 := tB6.on b7
  have tT7 := tT6.on b7
  have sM7 := sM6.on b7
  have sB7 := sB6.on b7
  have sT7 := sT6.on b7
  clear H6 tB6 tT6 b7 sM6 sB6 sT6
  go_wp2_with fail
  with_reducible refine (c8 _).mono ?_
  rintro e w8 ⟨rfl, b8⟩
  have H8 := (H7.step b8).alloc #[.int .u64 1, .int .u64 2, .int .u64 3] 37
  have tB8 := (tB7.on b8).alloc (.cells #[.int .u64 1, .int .u64 2, .int .u64 3] 37)
  have tT8 := (tT7.on b8).alloc (.cells #[.int .u64 1, .int .u64 2, .int .u64 3] 37)
  have sM8 := (sM7.on b8).alloc (.cells #[.int .u64 1, .int .u64 2, .int .u64 3] 37)
  have sB8 := (sB7.on b8).alloc (.cells #[.int .u64 1, .int .u64 2, .int .u64 3] 37)
  have sT8 := (sT7.on b8).alloc (.cells #[.int .u64 1, .int .u64 2, .int .u64 3] 37)
  clear H7 tB7 tT7 b8 sM7 sB7 sT7
  go_wp2_with fail
  with_reducible refine (unrecord_none _).mono ?_
  rintro e w9 ⟨rfl, b9⟩
  have H9 := (H8.step b9).alloc #[.int .u64 0, .int .u64 0, .int .u64 0] 37
  have tB9 := (tB8.on b9).alloc (.cells #[.int .u64 0, .int .u64 0, .int .u64 0] 37)
  have tT9 := (tT8.on b9).alloc (.cells #[.int .u64 0, .int .u64 0, .int .u64 0] 37)
  have sM9 := (sM8.on b9).alloc (.cells #[.int .u64 0, .int .u64 0, .int .u64 0] 37)
  have sB9 := (sB8.on b9).alloc (.cells #[.int .u64 0, .int .u64 0, .int .u64 0] 37)
  have sT9 := (sT8.on b9).alloc (.cells #[.int .u64 0, .int .u64 0, .int .u64 0] 37)
  clear H8 tB8 tT8 b9 sM8 sB8 sT8
  go_upto_region 9 with (fail)
  generalize (w9.alloc (.cells #[.int .u64 0, .int .u64 0, .int .u64 0] 37)) = wz at *
  have hmk := fun W : World => (by kernel_rfl : (Instr.makeSlice 63 (.int .i64 40) (.int .i64 40)).run Tryz.prog W = .ok (.slice (some ⟨W.heap.size, 0, none⟩) 40 40) (W.alloc (.cells (Array.replicate 40 (.int .u8 0)) 5)))
  have hcv := run_convert_bytes_back (P := Tryz.prog) (wz.alloc (.cells (Array.replicate 40 (.int .u8 0)) 5)) 63 9 5 ⟨wz.heap.size, 0, none⟩ 40 (List.replicate 40 0) Tryz.underlying63 Tryz.underlying5 Tryz.underlying9 (fun j hj => by
    have hj1 : j < 40 := by simpa using hj
    have h1 := (RowAt.new wz 5 (Array.replicate 40 (.int .u8 0))).cell j
    have e1 : (⟨wz.heap.size, 0, none⟩ : Addr).add j = ⟨wz.heap.size, j, none⟩ := by unfold Addr.add; split <;> simp_all
    rw [e1, h1]
    rw [Array.toList_replicate, List.getElem?_replicate, if_pos hj1, List.getElem_replicate]; rfl)
  simp only [List.length_replicate] at hcv
  obtain ⟨Z40, hZ⟩ : ∃ Z40 : ByteArray, Z40 = ⟨(List.replicate 40 (0 : UInt8)).toArray⟩ := ⟨_, rfl⟩
  rw [← hZ] at hcv
  have hcmp : (S.toList == (Z40 ++ (⟨#[48, 0, 0, 0, 49, 0, 0, 0, 1, 0]⟩ : ByteArray)).toList) = true := by
    have e : S = Z40 ++ (⟨#[48, 0, 0, 0, 49, 0, 0, 0, 1, 0]⟩ : ByteArray) := list_ext (by rw [HS.out, hZ, ByteArray.data_append, Array.toList_append]; decide)
    rw [← e]; exact beq_self_eq_true _
  have hzs : Z40.size = 40 := by rw [hZ]; rfl
  clear hZ
  have HQ := H9.step ((Below.refl _ _).alloc (Nat.le_refl _) (.cells (Array.replicate 40 (.int .u8 0)) 5))
  have tBQ := tB9.alloc (.cells (Array.replicate 40 (.int .u8 0)) 5)
  have tTQ := tT9.alloc (.cells (Array.replicate 40 (.int .u8 0)) 5)
  have sMQ := sM9.alloc (.cells (Array.replicate 40 (.int .u8 0)) 5)
  have sBQ := sB9.alloc (.cells (Array.replicate 40 (.int .u8 0)) 5)
  have sTQ := sT9.alloc (.cells (Array.replicate 40 (.int .u8 0)) 5)
  have Rv : RowAt _ w2.heap.size 32 [.int .u64 0, .int .u64 0, .int .u64 0, .int .u64 0, .int .u64 0, .int .i64 0, .slice A 0 c, .bool false, .slice B 0 k] := HQ.2 (w2.heap.size, 32, [.int .u64 0, .int .u64 0, .int .u64 0, .int .u64 0, .int .u64 0, .int .i64 0, .slice A 0 c, .bool false, .slice B 0 k]) (by simp)
  have Ra : RowAt _ w6.heap.size 41 [.int .u64 3, .bool false, .slice C 0 j, .int .u64 0, .int .u64 0, .int .u64 0, .int .u64 0, .int .u64 0, .int .i64 0, .slice A' 0 c', .bool false, .slice B' 0 k'] := HQ.2 (w6.heap.size, 41, [.int .u64 3, .bool false, .slice C 0 j, .int .u64 0, .int .u64 0, .int .u64 0, .int .u64 0, .int .u64 0, .int .i64 0, .slice A' 0 c', .bool false, .slice B' 0 k']) (by simp)
  have Rr : RowAt _ w8.heap.size 37 [.int .u64 1, .int .u64 2, .int .u64 3] := HQ.2 (w8.heap.size, 37, [.int .u64 1, .int .u64 2, .int .u64 3]) (by simp)
  have v0 := Rv.cell 0
  have v1 := Rv.cell 1
  have v2 := Rv.cell 2
  have v3 := Rv.cell 3
  have v4 := Rv.cell 4
  have v5 := Rv.cell 5
  have v6 := Rv.cell 6
  have v7 := Rv.cell 7
  have v8 := Rv.cell 8
  simp only [List.getElem?_cons_succ, List.getElem?_cons_zero] at v0 v1 v2 v3 v4 v5 v6 v7 v8
  go_wp2_with fail
  with_reducible refine (same_zero _ _ _ _ _ tBQ tTQ).mono ?_
  rintro e wA ⟨rfl, bA⟩
  replace Ra := Ra.on bA
  replace Rr := Rr.on bA
  have sM := sMQ.on bA
  have sB := sBQ.on bA
  have sT := sTQ.on bA
  have bb := HQ.1.trans (bA.mono HQ.1.size)
  clear v0 v1 v2 v3 v4 v5 v6 v7 v8 Rv sMQ sBQ sTQ tBQ tTQ HQ hmk hcv hcmp bA
  have u0 := Ra.cell 0
  have u1 := Ra.cell 1
  have u2 := Ra.cell 2
  have u3 := Ra.cell 3
  have u4 := Ra.cell 4
  have u5 := Ra.cell 5
  have u6 := Ra.cell 6
  have u7 := Ra.cell 7
  have u8 := Ra.cell 8
  have u9 := Ra.cell 9
  have u10 := Ra.cell 10
  have u11 := Ra.cell 11
  simp only [List.getElem?_cons_succ, List.getElem?_cons_zero] at u0 u1 u2 u3 u4 u5 u6 u7 u8 u9 u10 u11
  go_wp2_with fail
  with_reducible refine (same_three _ _ _ _ _ _ _ sM sB sT).mono ?_
  rintro e wB ⟨rfl, bB⟩
  replace Rr := Rr.on bB
  replace bb := bb.trans (bB.mono bb.size)
  clear u0 u1 u2 u3 u4 u5 u6 u7 u8 u9 u10 u11 Ra sM sB sT bB
  have u0 := Rr.cell 0
  have u1 := Rr.cell 1
  have u2 := Rr.cell 2
  simp only [List.getElem?_cons_succ, List.getElem?_cons_zero] at u0 u1 u2
  go_wp2_with fail
  go_ret
  exact ⟨rfl, bb⟩
end Go.Proofs.YtieheieiolobaaaGreatDoor

namespace Go.Proofs.YtieheieiolobaaaGreatDoor
open Go.RowKit

theorem take_list (s : ByteArray) (n : Nat) : (s.extract 0 n).data.toList = s.data.toList.take n := by simp
theorem i64_wf {a : Int} (h : (Lit.int .i64 a).wf = true) : I64 a := by
  have e1 : IntKind.i64.min = -9223372036854775808 := by rfl
  have e2 : IntKind.i64.max = 9223372036854775807 := by rfl
  simp [Lit.wf, e1, e2] at h
  exact h
theorem Elems.up {enc : Int → Value} {w W : World} {v : Value} {xs : List Int} (h : Elems enc w w.heap.size v xs) (hb : Below w.heap.size w W) : Elems enc W W.heap.size v xs := h.on hb
structure RightVote (d0 d1 d2 d3 d4 N : Nat) (ON : List Int) (l : List Pr) : Prop where
  h0 : d0 < 18446744073709551616
  h1 : d1 < 18446744073709551616
  h2 : d2 < 18446744073709551616
  h3 : d3 < 18446744073709551616
  h4 : d4 < 18446744073709551616
  hr : rightB N ON = true
  ht : rightT l = true
  fit : Fit l
  hN : N ≤ 40
  h9 : ON.length ≤ 2000
  h9l : l.length ≤ 30
theorem RightVote.is {d0 d1 d2 d3 d4 N : Nat} {ON : List Int} {l : List Pr} (h : RightVote d0 d1 d2 d3 d4 N ON l) (f : Bool) : IsVote (voteB [d0, d1, d2, d3, d4] N ON f l) d0 d1 d2 d3 d4 N ON f l :=
  ⟨rfl, h.h0, h.h1, h.h2, h.h3, h.h4, h.hr, h.ht, h.fit⟩
theorem RightVote.len {d0 d1 d2 d3 d4 N : Nat} {ON : List Int} {l : List Pr} (h : RightVote d0 d1 d2 d3 d4 N ON l) (f : Bool) : (voteB [d0, d1, d2, d3, d4] N ON f l).length = 48 + N / 8 + 1 + 1 + 16 * l.length ∧ (voteB [d0, d1, d2, d3, d4] N ON f l).length ≤ 600 := by
  rw [voteB_length, listOf_length]
  have := h.hN; have := h.h9l
  simp
  omega
theorem RightVote.fits {d0 d1 d2 d3 d4 N : Nat} {ON : List Int} {l m : List Pr} (h : RightVote d0 d1 d2 d3 d4 N ON l) (f : Bool) (hm : m.length ≤ 30) : 16 + (1 + 16 * m.length) + (voteB [d0, d1, d2, d3, d4] N ON f l).length ≤ 65536 := by
  have := (h.len f).2
  omega
theorem RightVote.agg {d0 d1 d2 d3 d4 N y : Nat} {ON : List Int} {l m : List Pr} {g : Bool} (h : RightVote d0 d1 d2 d3 d4 N ON l) (f : Bool) (hy : y < 18446744073709551616) (hm : rightT m = true) (fm : Fit m) (h9 : m.length ≤ 30) :
    IsAgg (aggB y g m (voteB [d0, d1, d2, d3, d4] N ON f l)) y g m d0 d1 d2 d3 d4 N ON f l := ⟨rfl, hy, hm, fm, h.is f, h.fits f h9⟩
theorem raw_right (x0 x1 x2 x3 x4 n : Int) (on pr : List Int) : ∃ d0 d1 d2 d3 d4 N : Nat, ∃ ON l, RightVote d0 d1 d2 d3 d4 N ON l ∧ pickN x0 300 = d0 ∧ pickN x1 9 = d1 ∧ pickN x2 4 = d2 ∧ pickN x3 20 = d3 ∧ pickN x4 20 = d4 ∧ pickOf n 40 = (N : Int) ∧ pickSet N on = ON ∧ tokL pr = l := by
  obtain ⟨hp0, hp1⟩ := pickOf_bd n 40 (by decide)
  obtain ⟨N, hN⟩ := Int.eq_ofNat_of_zero_le hp0
  have l0 := pickN_lt x0 300 (by decide)
  have l1 := pickN_lt x1 9 (by decide)
  have l2 := pickN_lt x2 4 (by decide)
  have l3 := pickN_lt x3 20 (by decide)
  have l4 := pickN_lt x4 20 (by decide)
  exact ⟨_, _, _, _, _, N, _, _, ⟨by omega, by omega, by omega, by omega, by omega, pickSet_right N on (by omega), tokL_right pr, tokL_fit pr, by omega, Nat.le_trans (pickTo_length N on N) (by omega), tokL_length pr⟩, rfl, rfl, rfl, rfl, rfl, hN, rfl, rfl⟩
theorem raw_vote {w : World} {x0 x1 x2 x3 x4 n : Int} {on pr : List Int} {A B : Option Addr} {c k : Nat} (b : Bool) (b0 : I64 x0) (b1 : I64 x1) (b2 : I64 x2) (b3 : I64 x3) (b4 : I64 x4) (bn : I64 n) (ho : Ints w w.heap.size (.slice A on.length c) on) (io : ∀ r ∈ on, I64 r) (hp : Ints w w.heap.size (.slice B pr.length k) pr) (ip : ∀ r ∈ pr, I64 r) (h9 : pr.length ≤ maxLen) :
    ∃ d0 d1 d2 d3 d4 N : Nat, ∃ ON l, RightVote d0 d1 d2 d3 d4 N ON l ∧ ∀ W, Below w.heap.size w W → Calls Tryz.prog 5 #[.agg #[.int .i64 x0, .int .i64 x1, .int .i64 x2, .int .i64 x3, .int .i64 x4, .int .i64 n, .slice A on.length c, .slice B pr.length k, .bool b]] W (VoteAns d0 d1 d2 d3 d4 N ON b l W) := by
  obtain ⟨d0, d1, d2, d3, d4, N, ON, l, hR, e0, e1, e2, e3, e4, eN, eO, el⟩ := raw_right x0 x1 x2 x3 x4 n on pr
  exact ⟨d0, d1, d2, d3, d4, N, ON, l, hR, fun W hb => rawVote_any x0 x1 x2 x3 x4 n on pr A B c k b W b0 b1 b2 b3 b4 bn (ho.on hb) io (hp.on hb) ip h9 d0 d1 d2 d3 d4 N e0 e1 e2 e3 e4 eN ON eO l el⟩
theorem raw_agg {w : World} {x0 x1 x2 x3 x4 n y : Int} {on pr po : List Int} {A B C : Option Addr} {c k j : Nat} (b : Bool) (by_ : I64 y) (b0 : I64 x0) (b1 : I64 x1) (b2 : I64 x2) (b3 : I64 x3) (b4 : I64 x4) (bn : I64 n) (ho : Ints w w.heap.size (.slice A on.length c) on) (io : ∀ r ∈ on, I64 r) (hp : Ints w w.heap.size (.slice B pr.length k) pr) (ip : ∀ r ∈ pr, I64 r) (h9 : pr.length ≤ maxLen) (hq : Ints w w.heap.size (.slice C po.length j) po) (iq : ∀ r ∈ po, I64 r) (h9q : po.length ≤ maxLen) :
    ∃ d0 d1 d2 d3 d4 N y0 : Nat, ∃ ON l, ∃ g : Bool, ∃ m, RightVote d0 d1 d2 d3 d4 N ON l ∧ y0 < 18446744073709551616 ∧ rightT m = true ∧ Fit m ∧ m.length ≤ 30 ∧ ∀ W, Below w.heap.size w W → Calls Tryz.prog 6 #[.agg #[.int .i64 x0, .int .i64 x1, .int .i64 x2, .int .i64 x3, .int .i64 x4, .int .i64 n, .slice A on.length c, .slice B pr.length k, .bool b], .int .i64 y, .slice C po.length j] W (AggAns y0 g m d0 d1 d2 d3 d4 N ON b l W) := by
  obtain ⟨d0, d1, d2, d3, d4, N, ON, l, hR, e0, e1, e2, e3, e4, eN, eO, el⟩ := raw_right x0 x1 x2 x3 x4 n on pr
  have ly := pickN_lt y 100 (by decide)
  exact ⟨d0, d1, d2, d3, d4, N, _, ON, l, _, _, hR, by omega, tokL_right po, tokL_fit po, tokL_length po, fun W hb => rawAgg_any y x0 x1 x2 x3 x4 n on pr po A B C c k j b W by_ b0 b1 b2 b3 b4 bn (ho.on hb) io (hp.on hb) ip h9 (hq.on hb) iq h9q _ d0 d1 d2 d3 d4 N _ rfl rfl e0 e1 e2 e3 e4 eN ON eO l _ el rfl⟩

/- the bytes of votes and aggregates -/
theorem aggB_drop (a : Nat) (h : Bool) (m : List Pr) (v : Text) : (aggB a h m v).drop (16 + (1 + 16 * m.length)) = v := by
  unfold aggB wholeOf
  have e : (wordsB [a] ++ placesOf ((wordsB [a]).length + 4 * [encB h m, v].length) [encB h m, v] ++ [encB h m, v].flatten) = (wordsB [a] ++ placesOf ((wordsB [a]).length + 4 * [encB h m, v].length) [encB h m, v] ++ encB h m) ++ v := by simp
  rw [e]
  apply List.drop_left'
  rw [List.length_append, List.length_append, placesOf_length, wordsB_length, encB_length]
  simp
theorem voteB_take (ws : List Nat) (n : Int) (on : List Int) (f : Bool) (l : List Pr) : (voteB ws n on f l).take (8 * ws.length) = wordsB ws := by
  unfold voteB wholeOf
  rw [List.append_assoc]
  exact List.take_left' (wordsB_length ws)
end Go.Proofs.YtieheieiolobaaaGreatDoor

namespace Go.Proofs.YtieheieiolobaaaGreatDoor
open Go.RowKit

theorem words_inj : ∀ (ds es : List Nat), ds.length = es.length → (∀ x ∈ ds, x < 18446744073709551616) → (∀ x ∈ es, x < 18446744073709551616) → wordsB ds = wordsB es → ds = es
  | [], [], _, _, _, _ => rfl
  | [], _ :: _, h, _, _, _ => by cases h
  | _ :: _, [], h, _, _, _ => by cases h
  | a :: ds, b :: es, h, hd, he, hw => by
    rw [wordsB_cons, wordsB_cons] at hw
    obtain ⟨h1, h2⟩ := List.append_inj hw (by rw [leBytes_length, leBytes_length])
    have e1 : a = b := by
      have q1 := num_bytes (hd a (by simp))
      have q2 := num_bytes (he b (by simp))
      rw [← q1, ← q2, h1]
    rw [e1, words_inj ds es (by simpa using h) (fun x hx => hd x (List.mem_cons_of_mem _ hx)) (fun x hx => he x (List.mem_cons_of_mem _ hx)) h2]
theorem sameV_iff (ds es : List Nat) (n m : Int) (on om : List Int) (f g : Bool) (l k : List Pr) : sameV ds es n on m om f g l k = true ↔ (ds = es ∧ n = m ∧ on = om ∧ f = g ∧ l = k) := by
  unfold sameV sameB sameT
  cases f <;> cases g <;> simp
  all_goals
    intro _
    rw [and_assoc]
theorem sameV_refl (ds : List Nat) (n : Int) (on : List Int) (f : Bool) (l : List Pr) : sameV ds ds n on n on f f l l = true := (sameV_iff ..).2 ⟨rfl, rfl, rfl, rfl, rfl⟩
theorem isVote_inj {s : Text} {d0 d1 d2 d3 d4 e0 e1 e2 e3 e4 : Nat} {n m : Int} {on om : List Int} {f g : Bool} {l k : List Pr} (h : IsVote s d0 d1 d2 d3 d4 n on f l) (q : IsVote s e0 e1 e2 e3 e4 m om g k) :
    [d0, d1, d2, d3, d4] = [e0, e1, e2, e3, e4] ∧ n = m ∧ on = om ∧ f = g ∧ l = k := by
  have e := h.split.symm.trans q.split
  have e1 := congrArg Prod.fst e
  have e2 := congrArg (fun x => x.2.1) e
  simp only [List.cons.injEq, and_true] at e2
  have u := (h.unlist.symm.trans (by rw [e2.1])).trans q.unlist
  have d := (h.dec.symm.trans (by rw [e2.2])).trans q.dec
  simp only [Prod.mk.injEq, and_true, true_and] at u d
  refine ⟨words_inj _ _ rfl ?_ ?_ e1, u.1, u.2, d.1, d.2⟩
  · have := h.h0; have := h.h1; have := h.h2; have := h.h3; have := h.h4
    intro x hx
    simp only [List.mem_cons, List.not_mem_nil, or_false] at hx
    omega
  · have := q.h0; have := q.h1; have := q.h2; have := q.h3; have := q.h4
    intro x hx
    simp only [List.mem_cons, List.not_mem_nil, or_false] at hx
    omega
theorem texts_same {S T : ByteArray} {d0 d1 d2 d3 d4 e0 e1 e2 e3 e4 : Nat} {n m : Int} {on om : List Int} {f g : Bool} {l k : List Pr} (hS : IsVote S.data.toList d0 d1 d2 d3 d4 n on f l) (hT : IsVote T.data.toList e0 e1 e2 e3 e4 m om g k) :
    (S.toList == T.toList) = sameV [d0, d1, d2, d3, d4] [e0, e1, e2, e3, e4] n on m om f g l k := by
  rw [Bool.eq_iff_iff, beq_iff_eq, sameV_iff, ByteArray.toList_eq, ByteArray.toList_eq]
  constructor
  · intro h
    rw [h] at hS
    exact isVote_inj hS hT
  · rintro ⟨h1, rfl, rfl, rfl, rfl⟩
    rw [hS.eq, hT.eq, h1]
theorem record_size (a b c : Nat) : (⟨(wordsB [a, b, c]).toArray⟩ : ByteArray).size = 24 := by
  rw [← list_len]; simp [wordsB_length]
end Go.Proofs.YtieheieiolobaaaGreatDoor
