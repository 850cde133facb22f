/- What the laws of package churn call first. -/
import Derived.Test.YtkbihgflfldllaaDoorChuD
namespace Go.Proofs.YtkbihgflfldllaaDoor
open Go.RowKit

theorem aw_s0 (W : World) (h : Tab W) : Calls Tryd.prog 13 #[.string ⟨#[]⟩] W fun e w' => e = .returned (.int .u64 14695981039346656037) ∧ Below W.heap.size W w' := Sum_any ⟨#[]⟩ W (by decide) h
theorem aw_sa (W : World) (h : Tab W) : Calls Tryd.prog 13 #[.string ⟨#[97]⟩] W fun e w' => e = .returned (.int .u64 12638187200555641996) ∧ Below W.heap.size W w' := by
  have := Sum_any ⟨#[97]⟩ W (by decide) h
  rwa [show moreH 14695981039346656037 (⟨#[97]⟩ : ByteArray).data.toList = 12638187200555641996 by decide] at this
theorem aw_ba (W : World) (h : Tab W) : Calls Tryd.prog 11 #[.int .u64 12638187200555641996, .string ⟨#[97]⟩] W fun e w' => e = .returned (.int .u64 14695981039346656037) ∧ Below W.heap.size W w' := by
  have := Back_any 12638187200555641996 ⟨#[97]⟩ W (by decide) h
  rwa [show backH 12638187200555641996 (⟨#[97]⟩ : ByteArray).data.toList = 14695981039346656037 by decide] at this
theorem aw_f0 (W : World) (h : Tab W) : Calls Tryd.prog 15 #[.slice none 0 0] W fun e w' => e = .returned (.int .u64 14695981039346656037) ∧ Below W.heap.size W w' :=
  Fold_any [] (.slice none 0 0) W (Elems.nil _ _ _) (by decide) h
theorem aw_d0 (v : Value) (W : World) : Calls Tryd.prog 17 #[.int .i64 0, v] W fun e w' => e = .returned (.int .i64 0) ∧ W = w' := Draw_no 0 v W (by decide)
theorem aw_m0 (W : World) (h : Tab W) : Calls Tryd.prog 9 #[.int .u64 7, .string ⟨#[]⟩] W fun e w' => e = .returned (.int .u64 7) ∧ Below W.heap.size W w' := More_any 7 ⟨#[]⟩ W (by decide) (by decide) h

set_option maxHeartbeats 1000000 in
theorem awake_any (w : World) (hT : Tab w) :
    Calls Tryd.prog 8 #[] w fun e w' => e = .returned (.bool true) ∧ Below w.heap.size w w' := by
  have H := Lib.hid hT
  clear hT
  go_enter Tryd.func8, Tryd.ntmps8
  go_wp2_with fail
  with_reducible refine (aw_s0 _ H.out).mono ?_
  rintro e w1 ⟨rfl, b1⟩
  have H1 := Lib.hid (H.out.on b1)
  have B1 := Lib.hid b1
  clear b1
  go_wp2_with fail
  with_reducible refine (aw_sa _ H1.out).mono ?_
  rintro e w2 ⟨rfl, b2⟩
  have H2 := Lib.hid (H1.out.on b2)
  have B2 := Lib.hid (bstep B1.out b2 B1.out.size)
  clear b2
  go_wp2_with fail
  with_reducible refine (aw_ba _ H2.out).mono ?_
  rintro e w3 ⟨rfl, b3⟩
  have H3 := Lib.hid (H2.out.on b3)
  have B3 := Lib.hid (bstep B2.out b3 B2.out.size)
  clear b3
  go_wp2_with fail
  with_reducible refine (aw_f0 _ H3.out).mono ?_
  rintro e w4 ⟨rfl, b4⟩
  have H4 := Lib.hid (H3.out.on b4)
  have B4 := Lib.hid (bstep B3.out b4 B3.out.size)
  clear b4
  go_wp2_with fail
  with_reducible refine (aw_d0 _ _).mono ?_
  rintro e w5 ⟨rfl, rfl⟩
  have b5 : Below w4.heap.size w4 (w4.alloc (.cells #[.int .u64 5] 22)) := (Below.refl _ _).alloc (Nat.le_refl _) _
  have H5 := Lib.hid (H4.out.on b5)
  have B5 := Lib.hid (bstep B4.out b5 B4.out.size)
  clear b5
  go_wp2_with fail
  with_reducible refine (aw_m0 _ H5.out).mono ?_
  rintro e w6 ⟨rfl, b6⟩
  have B6 := Lib.hid (bstep B5.out b6 B5.out.size)
  clear b6
  go_wp2_with fail
  go_ret
  exact ⟨rfl, B6.out⟩
end Go.Proofs.YtkbihgflfldllaaDoor
