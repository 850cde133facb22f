/- awake of layer 9; rounds, places and what leads back in a world behind others. -/
import Derived.Test.YtnbgmopjlpchkaaDoorShuF
namespace Go.Proofs.YtnbgmopjlpchkaaDoor
open Go.RowKit

theorem place_one : placeS (roundS 1 7) 90 0 = 0 := by
  have : placeS (roundS 1 7) 90 0 < 1 := runS_lt stS_lt _ (by decide)
  omega
theorem an_p1 (W : World) (h : Tab W) : Calls Tryd.prog 12 #[.int .i64 1, .int .i64 90, .int .u64 7, .int .i64 0] W fun e w' => e = .returned (.tuple #[.int .i64 0, .int .i64 0]) ∧ Below W.heap.size W w' := by
  have := Place_yes 1 90 7 0 W h (by decide) (by decide) (by decide) (by decide)
  rw [place_one] at this
  exact this
theorem an_p2 (W : World) (h : Tab W) : Calls Tryd.prog 12 #[.int .i64 9, .int .i64 0, .int .u64 7, .int .i64 5] W fun e w' => e = .returned (.tuple #[.int .i64 5, .int .i64 0]) ∧ Below W.heap.size W w' :=
  Place_yes 9 0 7 5 W h (by decide) (by decide) (by decide) (by decide)
theorem an_b2 (W : World) (h : Tab W) : Calls Tryd.prog 14 #[.int .i64 9, .int .i64 0, .int .u64 7, .int .i64 5] W fun e w' => e = .returned (.tuple #[.int .i64 5, .int .i64 0]) ∧ Below W.heap.size W w' :=
  Back_yes 9 0 7 5 W h (by decide) (by decide) (by decide) (by decide)
theorem an_b1 (W : World) : Calls Tryd.prog 14 #[.int .i64 0, .int .i64 1, .int .u64 1, .int .i64 0] W fun e w' => e = .returned (.tuple #[.int .i64 0, .int .i64 1]) ∧ Below W.heap.size W w' :=
  Back_no 0 1 1 0 W (by decide)
theorem an_r (W : World) : Calls Tryd.prog 10 #[.int .i64 3, .int .u64 1, .int .i64 90, .int .i64 0] W fun e w' => e = .returned (.tuple #[.int .i64 0, .int .i64 1]) ∧ Below W.heap.size W w' :=
  Round_no 3 1 90 0 W (.inr (.inr (by decide)))
theorem an_a (W : World) (h : Tab W) : Calls Tryd.prog 16 #[.int .i64 3, .int .i64 0, .int .u64 1] W fun e w' => ∃ g, e = .returned (.tuple #[.slice (some ⟨g, 0, none⟩) 3 3, .int .i64 0]) ∧ W.heap.size ≤ g ∧ RowAt w' g 3 [.int .i64 0, .int .i64 1, .int .i64 2] ∧ Below W.heap.size W w' := All_yes 3 0 1 W h (by decide) (by decide) (by decide)

set_option maxHeartbeats 1000000 in
theorem awake9_any (w : World) (hT : Tab w) :
    Calls Tryd.prog 8 #[] w fun e w' => e = .returned (.bool true) ∧ Below w.heap.size w w' := by
  go_enter Tryd.func8, Tryd.ntmps8
  go_wp2_with fail
  with_reducible refine (an_p1 _ hT).mono ?_
  rintro e w1 ⟨rfl, b1⟩
  have T1 := hT.on b1
  clear hT
  go_wp2_with fail
  with_reducible refine (an_p2 _ T1).mono ?_
  rintro e w2 ⟨rfl, b2⟩
  have T2 := T1.on b2
  have B2 := bstep b1 b2 b1.size
  clear T1 b1 b2
  go_wp2_with fail
  with_reducible refine (an_a _ T2).mono ?_
  rintro e w3 ⟨g, rfl, -, hr, b3⟩
  have T3 := T2.on b3
  have B3 := bstep B2 b3 B2.size
  clear T2 B2 b3
  go_wp2_with fail
  with_reducible refine (an_r _).mono ?_
  rintro e w4 ⟨rfl, b4⟩
  have T4 := T3.on b4
  have B4 := bstep B3 b4 B3.size
  have hr4 := hr.on b4
  clear T3 B3 b4 hr
  go_wp2_with fail
  with_reducible refine (an_b1 _).mono ?_
  rintro e w5 ⟨rfl, b5⟩
  have T5 := T4.on b5
  have B5 := bstep B4 b5 B4.size
  have hr5 := hr4.on b5
  clear T4 B4 b5 hr4
  go_wp2_with fail
  with_reducible refine (an_b2 _ T5).mono ?_
  rintro e w6 ⟨rfl, b6⟩
  have B6 := bstep B5 b6 B5.size
  have hr6 := hr5.on b6
  clear T5 B5 b6 hr5
  have hI : Calls Tryd.prog 18 #[.slice (some ⟨g, 0, none⟩) 3 3, .slice (some ⟨w6.heap.size, 0, none⟩) 3 3] (w6.alloc (.cells #[.int .i64 0, .int .i64 1, .int .i64 2] 3)) fun e w' => e = .returned (.bool true) ∧ Below (w6.alloc (.cells #[.int .i64 0, .int .i64 1, .int .i64 2] 3)).heap.size (w6.alloc (.cells #[.int .i64 0, .int .i64 1, .int .i64 2] 3)) w' :=
    Ints_same _ _ [0, 1, 2] _ (ints_row (l := [0, 1, 2]) (hr6.alloc _)) (ints_row (l := [0, 1, 2]) (RowAt.new w6 3 #[.int .i64 0, .int .i64 1, .int .i64 2])) (by decide)
  have B7 := B6.alloc B6.size (.cells #[.int .i64 0, .int .i64 1, .int .i64 2] 3)
  clear hr6
  go_wp2_with fail
  with_reducible refine hI.mono ?_
  rintro e w7 ⟨rfl, b7⟩
  have B8 := bstep B7 b7 B7.size
  clear hI b7 B7 B6
  go_wp2_with fail
  go_ret
  exact ⟨rfl, B8⟩
theorem an_awake {w W : World} (h : At w W) : Calls Tryd.prog 8 #[] W fun e w' => e = .returned (.bool true) ∧ At w w' := at_of h (awake9_any W h.1)
theorem an_pick (c n : Int) (P : Nat) (hP : pickS c n = P) (hc : -9223372036854775808 ≤ c ∧ c ≤ 9223372036854775807) (hn : 0 < n) (hn2 : n ≤ 1000000000) {w W : World} (h : At w W) :
    Calls Tryd.prog 9 #[.int .i64 c, .int .i64 n] W fun e w' => e = .returned (.int .i64 P) ∧ At w w' := by
  subst hP; exact at_same h (pick9_any c n W hc hn hn2)
theorem an_round (N seed R I X : Nat) (hX : roundS N seed R I = X) (h1 : 1 ≤ N) (h2 : N ≤ 65536) (h3 : I < N) (h4 : R < 90) {w W : World} (h : At w W) :
    Calls Tryd.prog 10 #[.int .i64 N, .int .u64 seed, .int .i64 R, .int .i64 I] W fun e w' => e = .returned (.tuple #[.int .i64 X, .int .i64 0]) ∧ At w w' := by
  subst hX; exact at_of h (Round_yes N seed R I W h.1 h1 h2 h3 h4)
theorem an_place (N M seed I X : Nat) (m : Int) (hm : m = (M : Int)) (hX : placeS (roundS N seed) M I = X) (h1 : 1 ≤ N) (h2 : N ≤ 65536) (h3 : I < N) (h4 : M ≤ 90) {w W : World} (h : At w W) :
    Calls Tryd.prog 12 #[.int .i64 N, .int .i64 m, .int .u64 seed, .int .i64 I] W fun e w' => e = .returned (.tuple #[.int .i64 X, .int .i64 0]) ∧ At w w' := by
  subst hX; subst hm; exact at_of h (Place_yes N M seed I W h.1 h1 h2 h3 h4)
theorem an_back (N M seed I X : Nat) (m : Int) (hm : m = (M : Int)) (hX : backS (roundS N seed) M I = X) (h1 : 1 ≤ N) (h2 : N ≤ 65536) (h3 : I < N) (h4 : M ≤ 90) {w W : World} (h : At w W) :
    Calls Tryd.prog 14 #[.int .i64 N, .int .i64 m, .int .u64 seed, .int .i64 I] W fun e w' => e = .returned (.tuple #[.int .i64 X, .int .i64 0]) ∧ At w w' := by
  subst hX; subst hm; exact at_of h (Back_yes N M seed I W h.1 h1 h2 h3 h4)
end Go.Proofs.YtnbgmopjlpchkaaDoor
