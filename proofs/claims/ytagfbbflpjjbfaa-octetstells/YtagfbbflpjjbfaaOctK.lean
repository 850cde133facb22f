/- awake: the first calls, whose answers are fixed. -/
import Derived.Test.YtagfbbflpjjbfaaOctJ
namespace Go.Proofs.Ytagfbbflpjjbfaa
open Go.RowKit

theorem txts_inj {a b : List ByteArray} (h : txts a = txts b) : a = b := by
  unfold txts at h
  exact (List.map_inj_right (fun x y e => WideShapes.bytes_inj e)).1 h

def exParts : List ByteArray := [⟨#[98, 99]⟩, ⟨#[]⟩]
def exWhole : Text := [97, 9, 0, 0, 0, 11, 0, 0, 0, 98, 99]
theorem ex_join : joinOf [97] (txts exParts) = (exWhole, 0) := by decide +kernel
theorem ex_split : splitOf exWhole 1 2 = ([97], txts exParts, 0) := by decide +kernel
theorem ex_take1 : takeOf ⟨#[1, 2, 120]⟩ 2 = (513, ⟨#[120]⟩, 0) := by decide +kernel
theorem ex_take2 : takeOf ⟨#[97]⟩ 2 = (0, ⟨#[]⟩, 3) := by decide +kernel
theorem ex_take3 : takeOf ⟨#[97]⟩ 9 = (0, ⟨#[]⟩, 1) := by decide +kernel
theorem ex_split2 : splitOf [97, 98, 99, 100] 5 0 = ([], [], 3) := by decide +kernel
theorem ex_put : putOf 513 2 = [1, 2] := by decide +kernel

theorem exJoin (v : Value) (w : World) (hv : Strs w w.heap.size v exParts) :
    Calls Try.prog 15 #[.string ⟨#[97]⟩, v] w fun e w' => e = .returned (.tuple #[.string ⟨#[97, 9, 0, 0, 0, 11, 0, 0, 0, 98, 99]⟩, .int .i64 0]) ∧ Below w.heap.size w w' := by
  have h := Join_any ⟨#[97]⟩ exParts v w hv (by decide) (by decide)
  rw [ex_join] at h
  exact h
theorem exSplit (w : World) :
    Calls Try.prog 17 #[.string ⟨#[97, 9, 0, 0, 0, 11, 0, 0, 0, 98, 99]⟩, .int .i64 1, .int .i64 2] w fun e w' => ∃ A c, e = .returned (.tuple #[.string ⟨#[97]⟩, .slice A 2 c, .int .i64 0]) ∧ Strs w' w'.heap.size (.slice A 2 c) exParts ∧ Below w.heap.size w w' := by
  have h := Split_any ⟨#[97, 9, 0, 0, 0, 11, 0, 0, 0, 98, 99]⟩ 1 2 w
  have e : (⟨#[97, 9, 0, 0, 0, 11, 0, 0, 0, 98, 99]⟩ : ByteArray).data.toList = exWhole := rfl
  rw [e, ex_split] at h
  refine h.mono fun e w' ⟨v, qs, he, hv, _, hq, hb⟩ => ?_
  have hq2 := txts_inj hq
  subst hq2
  obtain ⟨A, c, rfl, _⟩ := hv.form
  exact ⟨A, c, he, hv, hb⟩
theorem exTake1 (w : World) : Calls Try.prog 11 #[.string ⟨#[1, 2, 120]⟩, .int .i64 2] w fun e w' => e = .returned (.tuple #[.int .u64 513, .string ⟨#[120]⟩, .int .i64 0]) ∧ Below w.heap.size w w' := by
  have h := Take_any ⟨#[1, 2, 120]⟩ 2 w (by decide)
  rw [ex_take1] at h; exact h
theorem exTake2 (w : World) : Calls Try.prog 11 #[.string ⟨#[97]⟩, .int .i64 2] w fun e w' => e = .returned (.tuple #[.int .u64 0, .string ⟨#[]⟩, .int .i64 3]) ∧ Below w.heap.size w w' := by
  have h := Take_any ⟨#[97]⟩ 2 w (by decide)
  rw [ex_take2] at h; exact h
theorem exTake3 (w : World) : Calls Try.prog 11 #[.string ⟨#[97]⟩, .int .i64 9] w fun e w' => e = .returned (.tuple #[.int .u64 0, .string ⟨#[]⟩, .int .i64 1]) ∧ Below w.heap.size w w' := by
  have h := Take_any ⟨#[97]⟩ 9 w (by decide)
  rw [ex_take3] at h; exact h
theorem exSplit2 (w : World) :
    Calls Try.prog 17 #[.string ⟨#[97, 98, 99, 100]⟩, .int .i64 5, .int .i64 0] w fun e w' => ∃ A n c, e = .returned (.tuple #[.string ⟨#[]⟩, .slice A n c, .int .i64 3]) ∧ Below w.heap.size w w' := by
  have h := Split_any ⟨#[97, 98, 99, 100]⟩ 5 0 w
  have e : (⟨#[97, 98, 99, 100]⟩ : ByteArray).data.toList = [97, 98, 99, 100] := rfl
  rw [e, ex_split2] at h
  refine h.mono fun e w' ⟨v, qs, he, hv, _, hq, hb⟩ => ?_
  obtain ⟨A, c, rfl, _⟩ := hv.form
  exact ⟨A, _, c, he, hb⟩
theorem exPut (w : World) : Calls Try.prog 13 #[.int .u64 513, .int .i64 2] w fun e w' => e = .returned (.string ⟨#[1, 2]⟩) ∧ Below w.heap.size w w' := by
  have h := Put_any 513 2 w
  rw [ex_put] at h; exact h
theorem exTexts (va vb : Value) (w : World) (ha : Strs w w.heap.size va exParts) (hb : Strs w w.heap.size vb exParts) :
    Calls Try.prog 19 #[va, vb] w fun e w' => e = .returned (.bool true) ∧ Below w.heap.size w w' := by
  have h := Texts_any exParts exParts va vb w ha hb (by decide)
  simpa using h
theorem built_ex (w : World) : Strs (w.alloc (.cells #[.string ⟨#[98, 99]⟩, .string ⟨#[]⟩] 9)) (w.alloc (.cells #[.string ⟨#[98, 99]⟩, .string ⟨#[]⟩] 9)).heap.size (.slice (some ⟨w.heap.size, 0, none⟩) 2 2) exParts :=
  Strs.row (ss := exParts) (RowAt.new w 9 #[.string ⟨#[98, 99]⟩, .string ⟨#[]⟩])

set_option maxHeartbeats 1000000 in
set_option maxRecDepth 100000 in
theorem awake_any (w : World) :
    Calls Try.prog 8 #[] w fun e w' => e = .returned (.bool true) ∧ Below w.heap.size w w' := by
  go_enter Try.func8, Try.ntmps8
  go_wp2_with fail
  with_reducible refine (exJoin _ _ (built_ex w)).mono ?_
  rintro e w1 ⟨rfl, hb1⟩
  have hw1 : Below w.heap.size w w1 := ((Below.refl _ w).alloc (Nat.le_refl _) _).trans (hb1.mono (by simp))
  clear hb1
  go_wp2_with fail
  with_reducible refine (exSplit _).mono ?_
  rintro e w2 ⟨A, c, rfl, hv, hb2⟩
  have hw2 : Below w.heap.size w w2 := hw1.trans (hb2.mono hw1.size)
  clear hb2 hw1
  go_wp2_with fail
  with_reducible refine (exTake1 _).mono ?_
  rintro e w3 ⟨rfl, hb3⟩
  have hw3 : Below w.heap.size w w3 := hw2.trans (hb3.mono hw2.size)
  have hv3 := (hv.below hb3 (Nat.le_refl _)).more hb3.size
  clear hb3 hw2 hv
  go_wp2_with fail
  with_reducible refine (exTake2 _).mono ?_
  rintro e w4 ⟨rfl, hb4⟩
  have hw4 : Below w.heap.size w w4 := hw3.trans (hb4.mono hw3.size)
  have hv4 := (hv3.below hb4 (Nat.le_refl _)).more hb4.size
  clear hb4 hw3 hv3
  go_wp2_with fail
  with_reducible refine (exTake3 _).mono ?_
  rintro e w5 ⟨rfl, hb5⟩
  have hw5 : Below w.heap.size w w5 := hw4.trans (hb5.mono hw4.size)
  have hv5 := (hv4.below hb5 (Nat.le_refl _)).more hb5.size
  clear hb5 hw4 hv4
  go_wp2_with fail
  with_reducible refine (exSplit2 _).mono ?_
  rintro e w6 ⟨A', n', c', rfl, hb6⟩
  have hw6 : Below w.heap.size w w6 := hw5.trans (hb6.mono hw5.size)
  have hv6 := (hv5.below hb6 (Nat.le_refl _)).more hb6.size
  clear hb6 hw5 hv5
  go_wp2_with fail
  with_reducible refine (exTexts _ _ _ (strs_alloc hv6 _) (built_ex w6)).mono ?_
  rintro e w7 ⟨rfl, hb7⟩
  have hw7 : Below w.heap.size w w7 := (hw6.alloc hw6.size _).trans (hb7.mono (by have := hw6.size; simp; omega))
  clear hb7 hw6 hv6
  go_wp2_with fail
  with_reducible refine (exPut _).mono ?_
  rintro e w8 ⟨rfl, hb8⟩
  have hw8 : Below w.heap.size w w8 := hw7.trans (hb8.mono hw7.size)
  clear hb8 hw7
  go_wp2_with fail
  go_ret
  exact ⟨rfl, hw8⟩
end Go.Proofs.Ytagfbbflpjjbfaa
