/- The walk of the law ChurnDraw. -/
import Derived.Test.YtkbihgflfldllaaDoorChuF
namespace Go.Proofs.YtkbihgflfldllaaDoor
open Go.RowKit

/- the first n of a list of words, as the law cuts it -/
def CutWay (w : World) (A : Option Addr) (c n : Nat) (ws l : List Nat) (m : Nat) : Prop :=
  l.length ≤ n ∧ Words w w.heap.size (.slice A m c) l ∧ m = l.length ∧ (((n < ws.length) = True ∧ m = n) ∨ ((n < ws.length) = False ∧ m = ws.length))
theorem words_cut {w : World} {A : Option Addr} {c : Nat} {ws : List Nat} (n : Nat) (hv : Words w w.heap.size (.slice A ws.length c) ws) (hf : Fits64 ws) : ∃ l m, CutWay w A c n ws l m ∧ Fits64 l := by
  by_cases h : n < ws.length
  · refine ⟨ws.take n, n, ⟨by rw [List.length_take]; omega, hv.first n (by omega), by rw [List.length_take]; omega, .inl ⟨eq_true h, rfl⟩⟩, fun x hx => hf x (List.mem_of_mem_take hx)⟩
  · exact ⟨ws, ws.length, ⟨by omega, hv, rfl, .inr ⟨eq_false h, rfl⟩⟩, hf⟩

set_option maxHeartbeats 1000000 in
theorem draw_no_way (n : Int) (ws l : List Nat) (A : Option Addr) (c m : Nat) (w : World) (hc : ws.length ≤ c) (h9 : ws.length ≤ 9223372036854775807) (hn : n < 1) (cw : CutWay w A c 20 ws l m) (hT : Tab w) :
    Calls Tryd.prog 7 #[.int .i64 n, .slice A ws.length c] w fun e w' => e = .returned (.bool true) ∧ At w w' := by
  have A0 := At.refl hT
  obtain ⟨hl, hv, hm, way⟩ := cw
  have c1 : ∀ W, At w W → Calls Tryd.prog 17 #[.int .i64 n, .slice A m c] W fun e w' => e = .returned (.int .i64 0) ∧ At w w' := fun W hA => at_same hA (Draw_no n _ W hn)
  clear hm
  rcases way with ⟨hz, rfl⟩ | ⟨hz, rfl⟩
  · go_enter Tryd.func7, Tryd.ntmps7
    go_wp2_with (first
      | (with_reducible refine (at_awake (by assumption)).mono ?_; rintro e w1 ⟨rfl, A1⟩)
      | (with_reducible refine (c1 _ (by assumption)).mono ?_; rintro e w1 ⟨rfl, A1⟩))
    all_goals (first | (exfalso; have := of_eq_true hz; omega) | (go_ret; exact ⟨rfl, by assumption⟩))
  · go_enter Tryd.func7, Tryd.ntmps7
    go_wp2_with (first
      | (with_reducible refine (at_awake (by assumption)).mono ?_; rintro e w1 ⟨rfl, A1⟩)
      | (with_reducible refine (c1 _ (by assumption)).mono ?_; rintro e w1 ⟨rfl, A1⟩))
    all_goals (first | (exfalso; have := of_eq_false hz; omega) | (go_ret; exact ⟨rfl, by assumption⟩))

set_option maxHeartbeats 1000000 in
theorem draw_big_way (n : Nat) (ws l : List Nat) (A : Option Addr) (c m : Nat) (w : World) (hc : ws.length ≤ c) (h9 : ws.length ≤ 9223372036854775807) (h1 : 1 ≤ n) (h2 : n < 9223372036854775808) (hbig : (2305843009213693952 < (n : Int)) = True) (cw : CutWay w A c 20 ws l m) (hT : Tab w)
    (F d : Nat) (bt : Bool) (hF : foldB l = F) (hd : F % n = d) (hbt : bitOf l = bt) :
    Calls Tryd.prog 7 #[.int .i64 n, .slice A ws.length c] w fun e w' => e = .returned (.bool true) ∧ At w w' := by
  have A0 := At.refl hT
  obtain ⟨hl, hv, hm, way⟩ := cw
  have hF64 : F < 18446744073709551616 := by rw [← hF]; exact foldB_lt l
  have hlt : d < n := by rw [← hd]; exact Nat.mod_lt _ (by omega)
  have hlt1 : ((d : Int) < (n : Int)) = True := eq_true (by omega)
  have hlt2 : (d < n) = True := eq_true hlt
  have hge : ((0 : Int) ≤ (d : Int)) = True := eq_true (by omega)
  have hn1 : ((n : Int) < 1) = False := eq_false (by omega)
  have hdv : wrap64 ((F : Int) % (n : Int)) = (d : Int) := by rw [draw_val F n h1 h2, hd]
  have hbv : (bits .and .u64 ((F : Int) / 1099511627776) 1 == 1) = bt := by rw [bit_val F hF64, ← hbt, ← hF]; rfl
  have c1 : ∀ W, At w W → Calls Tryd.prog 17 #[.int .i64 n, .slice A m c] W fun e w' => e = .returned (.int .i64 d) ∧ At w w' := fun W hA => at_draw n l _ d (by unfold drawOf; rw [if_neg (by omega), hF]; exact hd) (by omega) (by omega) (hA.words hv) hA
  have c2 : ∀ W, At w W → Calls Tryd.prog 15 #[.slice A m c] W fun e w' => e = .returned (.int .u64 F) ∧ At w w' := fun W hA => at_fold l _ F hF (by omega) (hA.words hv) hA
  have c3 : ∀ W, At w W → Calls Tryd.prog 17 #[.int .i64 1, .slice A m c] W fun e w' => e = .returned (.int .i64 0) ∧ At w w' := fun W hA => at_draw 1 l _ 0 (by unfold drawOf; rw [if_neg (by omega)]; exact Nat.mod_one _) (by omega) (by omega) (hA.words hv) hA
  have c4 : ∀ W, At w W → Calls Tryd.prog 19 #[.slice A m c] W fun e w' => e = .returned (.bool bt) ∧ At w w' := fun W hA => at_bit l _ bt hbt (by omega) (hA.words hv) hA
  clear hm hF hd hbt
  rcases way with ⟨hz, rfl⟩ | ⟨hz, rfl⟩
  · go_enter Tryd.func7, Tryd.ntmps7
    go_wp2_with (first
      | (with_reducible refine (at_awake (by assumption)).mono ?_; rintro e w1 ⟨rfl, A1⟩)
      | (with_reducible refine (c1 _ (by assumption)).mono ?_; rintro e w1 ⟨rfl, A1⟩)
      | (with_reducible refine (c2 _ (by assumption)).mono ?_; rintro e w1 ⟨rfl, A1⟩)
      | (with_reducible refine (c3 _ (by assumption)).mono ?_; rintro e w1 ⟨rfl, A1⟩)
      | (with_reducible refine (c4 _ (by assumption)).mono ?_; rintro e w1 ⟨rfl, A1⟩))
    all_goals (first | (exfalso; have := of_eq_true hz; omega) | (go_ret; exact ⟨rfl, by assumption⟩))
  · go_enter Tryd.func7, Tryd.ntmps7
    go_wp2_with (first
      | (with_reducible refine (at_awake (by assumption)).mono ?_; rintro e w1 ⟨rfl, A1⟩)
      | (with_reducible refine (c1 _ (by assumption)).mono ?_; rintro e w1 ⟨rfl, A1⟩)
      | (with_reducible refine (c2 _ (by assumption)).mono ?_; rintro e w1 ⟨rfl, A1⟩)
      | (with_reducible refine (c3 _ (by assumption)).mono ?_; rintro e w1 ⟨rfl, A1⟩)
      | (with_reducible refine (c4 _ (by assumption)).mono ?_; rintro e w1 ⟨rfl, A1⟩))
    all_goals (first | (exfalso; have := of_eq_false hz; omega) | (go_ret; exact ⟨rfl, by assumption⟩))

set_option maxHeartbeats 1000000 in
theorem draw_small_way (n : Nat) (ws l : List Nat) (A : Option Addr) (c m : Nat) (w : World) (hc : ws.length ≤ c) (h9 : ws.length ≤ 9223372036854775807) (h1 : 1 ≤ n) (h2 : n < 9223372036854775808) (hbig : (2305843009213693952 < (n : Int)) = False) (cw : CutWay w A c 20 ws l m) (hT : Tab w)
    (F d x : Nat) (bt : Bool) (hF : foldB l = F) (hd : F % n = d) (hx : F % (2 * n) = x) (hbt : bitOf l = bt) :
    Calls Tryd.prog 7 #[.int .i64 n, .slice A ws.length c] w fun e w' => e = .returned (.bool true) ∧ At w w' := by
  have A0 := At.refl hT
  obtain ⟨hl, hv, hm, way⟩ := cw
  have hF64 : F < 18446744073709551616 := by rw [← hF]; exact foldB_lt l
  have hlt : d < n := by rw [← hd]; exact Nat.mod_lt _ (by omega)
  have hlt1 : ((d : Int) < (n : Int)) = True := eq_true (by omega)
  have hlt2 : (d < n) = True := eq_true hlt
  have hge : ((0 : Int) ≤ (d : Int)) = True := eq_true (by omega)
  have hn1 : ((n : Int) < 1) = False := eq_false (by omega)
  have hdv : wrap64 ((F : Int) % (n : Int)) = (d : Int) := by rw [draw_val F n h1 h2, hd]
  have hbv : (bits .and .u64 ((F : Int) / 1099511627776) 1 == 1) = bt := by rw [bit_val F hF64, ← hbt, ← hF]; rfl
  have c1 : ∀ W, At w W → Calls Tryd.prog 17 #[.int .i64 n, .slice A m c] W fun e w' => e = .returned (.int .i64 d) ∧ At w w' := fun W hA => at_draw n l _ d (by unfold drawOf; rw [if_neg (by omega), hF]; exact hd) (by omega) (by omega) (hA.words hv) hA
  have c2 : ∀ W, At w W → Calls Tryd.prog 15 #[.slice A m c] W fun e w' => e = .returned (.int .u64 F) ∧ At w w' := fun W hA => at_fold l _ F hF (by omega) (hA.words hv) hA
  have c3 : ∀ W, At w W → Calls Tryd.prog 17 #[.int .i64 1, .slice A m c] W fun e w' => e = .returned (.int .i64 0) ∧ At w w' := fun W hA => at_draw 1 l _ 0 (by unfold drawOf; rw [if_neg (by omega)]; exact Nat.mod_one _) (by omega) (by omega) (hA.words hv) hA
  have c4 : ∀ W, At w W → Calls Tryd.prog 19 #[.slice A m c] W fun e w' => e = .returned (.bool bt) ∧ At w w' := fun W hA => at_bit l _ bt hbt (by omega) (hA.words hv) hA
  have c5 : ∀ W, At w W → Calls Tryd.prog 17 #[.int .i64 (2 * (n : Int)), .slice A m c] W fun e w' => e = .returned (.int .i64 x) ∧ At w w' := fun W hA => at_draw (2 * (n : Int)) l _ x (by unfold drawOf; rw [if_neg (by omega), hF, show (2 * (n : Int)).toNat = 2 * n by omega]; exact hx) (by omega) (by have := of_eq_false hbig; omega) (hA.words hv) hA
  have h61 : n ≤ 2305843009213693952 := by have := of_eq_false hbig; omega
  have hxd : (x : Int) % (n : Int) = (d : Int) := by rw [← Int.natCast_emod, ← hx, mod_twice, hd]
  clear hm hF hd hbt hx
  rcases way with ⟨hz, rfl⟩ | ⟨hz, rfl⟩
  · go_enter Tryd.func7, Tryd.ntmps7
    go_wp2_with (first
      | (with_reducible refine (at_awake (by assumption)).mono ?_; rintro e w1 ⟨rfl, A1⟩)
      | (with_reducible refine (c1 _ (by assumption)).mono ?_; rintro e w1 ⟨rfl, A1⟩)
      | (with_reducible refine (c2 _ (by assumption)).mono ?_; rintro e w1 ⟨rfl, A1⟩)
      | (with_reducible refine (c3 _ (by assumption)).mono ?_; rintro e w1 ⟨rfl, A1⟩)
      | (with_reducible refine (c4 _ (by assumption)).mono ?_; rintro e w1 ⟨rfl, A1⟩)
      | (with_reducible refine (c5 _ (by assumption)).mono ?_; rintro e w1 ⟨rfl, A1⟩))
    all_goals (first | (exfalso; have := of_eq_true hz; omega) | (go_ret; exact ⟨rfl, by assumption⟩))
  · go_enter Tryd.func7, Tryd.ntmps7
    go_wp2_with (first
      | (with_reducible refine (at_awake (by assumption)).mono ?_; rintro e w1 ⟨rfl, A1⟩)
      | (with_reducible refine (c1 _ (by assumption)).mono ?_; rintro e w1 ⟨rfl, A1⟩)
      | (with_reducible refine (c2 _ (by assumption)).mono ?_; rintro e w1 ⟨rfl, A1⟩)
      | (with_reducible refine (c3 _ (by assumption)).mono ?_; rintro e w1 ⟨rfl, A1⟩)
      | (with_reducible refine (c4 _ (by assumption)).mono ?_; rintro e w1 ⟨rfl, A1⟩)
      | (with_reducible refine (c5 _ (by assumption)).mono ?_; rintro e w1 ⟨rfl, A1⟩))
    all_goals (first | (exfalso; have := of_eq_false hz; omega) | (go_ret; exact ⟨rfl, by assumption⟩))

theorem cdraw_calls (a0 : Int) (w0 : (Lit.int .i64 a0).wf = true) (ws : List Nat) (v : Value) {w : World} (hv : Words w w.heap.size v ws) (hf : Fits64 ws) (hl : ws.length ≤ maxLen) (hT : Tab w) :
    Calls Tryd.prog 7 #[.int .i64 a0, v] w fun e w' => e = .returned (.bool true) ∧ Below w.heap.size w w' := by
  obtain ⟨h1, h2⟩ := i64_of_wf w0
  obtain ⟨A, c, rfl, hc⟩ := hv.form
  obtain ⟨l, m, cw, _⟩ := words_cut 20 hv hf
  refine Calls.mono (?_ : Calls _ _ _ _ fun e w' => e = .returned (.bool true) ∧ At w w') fun e w' ⟨he, hA⟩ => ⟨he, hA.2⟩
  by_cases hn : a0 < 1
  · exact draw_no_way a0 ws l A c m w hc hl hn cw hT
  · obtain ⟨n, rfl⟩ := Int.eq_ofNat_of_zero_le (by omega : 0 ≤ a0)
    by_cases hb : 2305843009213693952 < (n : Int)
    · exact draw_big_way n ws l A c m w hc hl (by omega) (by omega) (eq_true hb) cw hT _ _ _ rfl rfl rfl
    · exact draw_small_way n ws l A c m w hc hl (by omega) (by omega) (eq_false hb) cw hT _ _ _ _ rfl rfl rfl rfl
end Go.Proofs.YtkbihgflfldllaaDoor
