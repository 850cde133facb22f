/- The walk of the law ChurnTells. -/
import Derived.Test.YtkbihgflfldllaaDoorCLawBackW
import Derived.Test.YtkbihgflfldllaaDoorCLawDrawW
namespace Go.Proofs.YtkbihgflfldllaaDoor
open Go.RowKit

set_option maxHeartbeats 2000000 in
theorem tells_way (h : Nat) (n : Int) (s t : ByteArray) (ws l : List Nat) (A : Option Addr) (c m : Nat) (w : World) (hh : h < 18446744073709551616) (hn : n < 9223372036854775808) (hs : s.size ≤ 9223372036854775807) (ht : t.size ≤ 200) (hc : ws.length ≤ c) (h9 : ws.length ≤ 9223372036854775807) (cw : CutWay w A c 20 ws l m) (hT : Tab w)
    (a x y F d : Nat) (bt : Bool) (ha : moreH h t.data.toList = a) (hx : backH h t.data.toList = x) (hy : moreH 14695981039346656037 t.data.toList = y) (hF : foldB l = F) (hd : drawOf n l = d) (hbt : bitOf l = bt)
    (way : ((200 < s.size) = True ∧ s.extract 0 200 = t) ∨ ((200 < s.size) = False ∧ s = t)) :
    Calls Tryd.prog 3 #[.int .u64 h, .string s, .slice A ws.length c, .int .i64 n] w fun e w' => e = .returned (.bool true) ∧ At w w' := by
  have A0 := At.refl hT
  obtain ⟨hl, hv, hm, wway⟩ := cw
  have c1 : ∀ W, At w W → Calls Tryd.prog 9 #[.int .u64 h, .string t] W fun e w' => e = .returned (.int .u64 a) ∧ At w w' := fun W hA => at_more h t a ha hh (by omega) hA
  have c2 : ∀ W, At w W → Calls Tryd.prog 10 #[.int .u64 h, .string t] W fun e w' => e = .returned (.int .u64 a) ∧ At w w' := fun W hA => at_same hA (by rw [← ha]; exact rMore_any h t W hh (by omega))
  have c3 : ∀ W, At w W → Calls Tryd.prog 11 #[.int .u64 h, .string t] W fun e w' => e = .returned (.int .u64 x) ∧ At w w' := fun W hA => at_back h t x hx (by omega) hA
  have c4 : ∀ W, At w W → Calls Tryd.prog 12 #[.int .u64 h, .string t] W fun e w' => e = .returned (.int .u64 x) ∧ At w w' := fun W hA => at_same hA (by rw [← hx]; exact rBack_any h t W (by omega))
  have c5 : ∀ W, At w W → Calls Tryd.prog 13 #[.string t] W fun e w' => e = .returned (.int .u64 y) ∧ At w w' := fun W hA => at_sum t y hy (by omega) hA
  have c6 : ∀ W, At w W → Calls Tryd.prog 14 #[.string t] W fun e w' => e = .returned (.int .u64 y) ∧ At w w' := fun W hA => at_same hA (by rw [← hy]; exact rSum_any t W (by omega))
  have c7 : ∀ W, At w W → Calls Tryd.prog 15 #[.slice A m c] W fun e w' => e = .returned (.int .u64 F) ∧ At w w' := fun W hA => at_fold l _ F hF (by omega) (hA.words hv) hA
  have c8 : ∀ W, At w W → Calls Tryd.prog 16 #[.slice A m c] W fun e w' => e = .returned (.int .u64 F) ∧ At w w' := fun W hA => at_of hA (by rw [← hF]; exact rFold_any l _ W (hA.words hv) (by omega))
  have c9 : ∀ W, At w W → Calls Tryd.prog 17 #[.int .i64 n, .slice A m c] W fun e w' => e = .returned (.int .i64 d) ∧ At w w' := fun W hA => at_draw n l _ d hd (by omega) hn (hA.words hv) hA
  have c10 : ∀ W, At w W → Calls Tryd.prog 18 #[.int .i64 n, .slice A m c] W fun e w' => e = .returned (.int .i64 d) ∧ At w w' := fun W hA => at_of hA (by rw [← hd]; exact rDraw_any n l _ W (hA.words hv) (by omega) hn)
  have c11 : ∀ W, At w W → Calls Tryd.prog 19 #[.slice A m c] W fun e w' => e = .returned (.bool bt) ∧ At w w' := fun W hA => at_bit l _ bt hbt (by omega) (hA.words hv) hA
  have c12 : ∀ W, At w W → Calls Tryd.prog 20 #[.slice A m c] W fun e w' => e = .returned (.bool bt) ∧ At w w' := fun W hA => at_of hA (by rw [← hbt]; exact rBit_any l _ W (hA.words hv) (by omega))
  clear hm ha hx hy hF hd hbt
  rcases way with ⟨hz, he⟩ | ⟨hz, he⟩
  · rcases wway with ⟨hq, rfl⟩ | ⟨hq, rfl⟩
    · skip
      go_enter Tryd.func3, Tryd.ntmps3
      go_wp2_with (first
        | (with_reducible refine (at_awake (by assumption)).mono ?_; rintro e w1 ⟨rfl, A1⟩)
        | (with_reducible refine (c1 _ (by assumption)).mono ?_; rintro e w1 ⟨rfl, A1⟩)
        | (with_reducible refine (c2 _ (by assumption)).mono ?_; rintro e w1 ⟨rfl, A1⟩)
        | (with_reducible refine (c3 _ (by assumption)).mono ?_; rintro e w1 ⟨rfl, A1⟩)
        | (with_reducible refine (c4 _ (by assumption)).mono ?_; rintro e w1 ⟨rfl, A1⟩)
        | (with_reducible refine (c5 _ (by assumption)).mono ?_; rintro e w1 ⟨rfl, A1⟩)
        | (with_reducible refine (c6 _ (by assumption)).mono ?_; rintro e w1 ⟨rfl, A1⟩)
        | (with_reducible refine (c7 _ (by assumption)).mono ?_; rintro e w1 ⟨rfl, A1⟩)
        | (with_reducible refine (c8 _ (by assumption)).mono ?_; rintro e w1 ⟨rfl, A1⟩)
        | (with_reducible refine (c9 _ (by assumption)).mono ?_; rintro e w1 ⟨rfl, A1⟩)
        | (with_reducible refine (c10 _ (by assumption)).mono ?_; rintro e w1 ⟨rfl, A1⟩)
        | (with_reducible refine (c11 _ (by assumption)).mono ?_; rintro e w1 ⟨rfl, A1⟩)
        | (with_reducible refine (c12 _ (by assumption)).mono ?_; rintro e w1 ⟨rfl, A1⟩))
      all_goals (first | (exfalso; have := of_eq_true hz; omega) | (exfalso; have := of_eq_true hq; omega) | (go_ret; exact ⟨rfl, by assumption⟩))
    · skip
      go_enter Tryd.func3, Tryd.ntmps3
      go_wp2_with (first
        | (with_reducible refine (at_awake (by assumption)).mono ?_; rintro e w1 ⟨rfl, A1⟩)
        | (with_reducible refine (c1 _ (by assumption)).mono ?_; rintro e w1 ⟨rfl, A1⟩)
        | (with_reducible refine (c2 _ (by assumption)).mono ?_; rintro e w1 ⟨rfl, A1⟩)
        | (with_reducible refine (c3 _ (by assumption)).mono ?_; rintro e w1 ⟨rfl, A1⟩)
        | (with_reducible refine (c4 _ (by assumption)).mono ?_; rintro e w1 ⟨rfl, A1⟩)
        | (with_reducible refine (c5 _ (by assumption)).mono ?_; rintro e w1 ⟨rfl, A1⟩)
        | (with_reducible refine (c6 _ (by assumption)).mono ?_; rintro e w1 ⟨rfl, A1⟩)
        | (with_reducible refine (c7 _ (by assumption)).mono ?_; rintro e w1 ⟨rfl, A1⟩)
        | (with_reducible refine (c8 _ (by assumption)).mono ?_; rintro e w1 ⟨rfl, A1⟩)
        | (with_reducible refine (c9 _ (by assumption)).mono ?_; rintro e w1 ⟨rfl, A1⟩)
        | (with_reducible refine (c10 _ (by assumption)).mono ?_; rintro e w1 ⟨rfl, A1⟩)
        | (with_reducible refine (c11 _ (by assumption)).mono ?_; rintro e w1 ⟨rfl, A1⟩)
        | (with_reducible refine (c12 _ (by assumption)).mono ?_; rintro e w1 ⟨rfl, A1⟩))
      all_goals (first | (exfalso; have := of_eq_true hz; omega) | (exfalso; have := of_eq_false hq; omega) | (go_ret; exact ⟨rfl, by assumption⟩))
  · rcases wway with ⟨hq, rfl⟩ | ⟨hq, rfl⟩
    · skip
      subst he
      go_enter Tryd.func3, Tryd.ntmps3
      go_wp2_with (first
        | (with_reducible refine (at_awake (by assumption)).mono ?_; rintro e w1 ⟨rfl, A1⟩)
        | (with_reducible refine (c1 _ (by assumption)).mono ?_; rintro e w1 ⟨rfl, A1⟩)
        | (with_reducible refine (c2 _ (by assumption)).mono ?_; rintro e w1 ⟨rfl, A1⟩)
        | (with_reducible refine (c3 _ (by assumption)).mono ?_; rintro e w1 ⟨rfl, A1⟩)
        | (with_reducible refine (c4 _ (by assumption)).mono ?_; rintro e w1 ⟨rfl, A1⟩)
        | (with_reducible refine (c5 _ (by assumption)).mono ?_; rintro e w1 ⟨rfl, A1⟩)
        | (with_reducible refine (c6 _ (by assumption)).mono ?_; rintro e w1 ⟨rfl, A1⟩)
        | (with_reducible refine (c7 _ (by assumption)).mono ?_; rintro e w1 ⟨rfl, A1⟩)
        | (with_reducible refine (c8 _ (by assumption)).mono ?_; rintro e w1 ⟨rfl, A1⟩)
        | (with_reducible refine (c9 _ (by assumption)).mono ?_; rintro e w1 ⟨rfl, A1⟩)
        | (with_reducible refine (c10 _ (by assumption)).mono ?_; rintro e w1 ⟨rfl, A1⟩)
        | (with_reducible refine (c11 _ (by assumption)).mono ?_; rintro e w1 ⟨rfl, A1⟩)
        | (with_reducible refine (c12 _ (by assumption)).mono ?_; rintro e w1 ⟨rfl, A1⟩))
      all_goals (first | (exfalso; have := of_eq_false hz; omega) | (exfalso; have := of_eq_true hq; omega) | (go_ret; exact ⟨rfl, by assumption⟩))
    · skip
      subst he
      go_enter Tryd.func3, Tryd.ntmps3
      go_wp2_with (first
        | (with_reducible refine (at_awake (by assumption)).mono ?_; rintro e w1 ⟨rfl, A1⟩)
        | (with_reducible refine (c1 _ (by assumption)).mono ?_; rintro e w1 ⟨rfl, A1⟩)
        | (with_reducible refine (c2 _ (by assumption)).mono ?_; rintro e w1 ⟨rfl, A1⟩)
        | (with_reducible refine (c3 _ (by assumption)).mono ?_; rintro e w1 ⟨rfl, A1⟩)
        | (with_reducible refine (c4 _ (by assumption)).mono ?_; rintro e w1 ⟨rfl, A1⟩)
        | (with_reducible refine (c5 _ (by assumption)).mono ?_; rintro e w1 ⟨rfl, A1⟩)
        | (with_reducible refine (c6 _ (by assumption)).mono ?_; rintro e w1 ⟨rfl, A1⟩)
        | (with_reducible refine (c7 _ (by assumption)).mono ?_; rintro e w1 ⟨rfl, A1⟩)
        | (with_reducible refine (c8 _ (by assumption)).mono ?_; rintro e w1 ⟨rfl, A1⟩)
        | (with_reducible refine (c9 _ (by assumption)).mono ?_; rintro e w1 ⟨rfl, A1⟩)
        | (with_reducible refine (c10 _ (by assumption)).mono ?_; rintro e w1 ⟨rfl, A1⟩)
        | (with_reducible refine (c11 _ (by assumption)).mono ?_; rintro e w1 ⟨rfl, A1⟩)
        | (with_reducible refine (c12 _ (by assumption)).mono ?_; rintro e w1 ⟨rfl, A1⟩))
      all_goals (first | (exfalso; have := of_eq_false hz; omega) | (exfalso; have := of_eq_false hq; omega) | (go_ret; exact ⟨rfl, by assumption⟩))

theorem ctells_calls (a0 : Int) (w0 : (Lit.int .u64 a0).wf = true) (a1 : ByteArray) (w1 : a1.size ≤ maxLen) (ws : List Nat) (v : Value) {w : World} (hv : Words w w.heap.size v ws) (hf : Fits64 ws) (hl : ws.length ≤ maxLen) (a3 : Int) (w3 : (Lit.int .i64 a3).wf = true) (hT : Tab w) :
    Calls Tryd.prog 3 #[.int .u64 a0, .string a1, v, .int .i64 a3] w fun e w' => e = .returned (.bool true) ∧ Below w.heap.size w w' := by
  obtain ⟨h, rfl, hh⟩ := u64_of_wf w0
  obtain ⟨_, h2⟩ := i64_of_wf w3
  obtain ⟨A, c, rfl, hc⟩ := hv.form
  obtain ⟨l, m, cw, _⟩ := words_cut 20 hv hf
  obtain ⟨t, ht, way⟩ := cut_way a1 200
  refine Calls.mono (?_ : Calls _ _ _ _ fun e w' => e = .returned (.bool true) ∧ At w w') fun e w' ⟨he, hA⟩ => ⟨he, hA.2⟩
  exact tells_way h a3 a1 t ws l A c m w hh (by omega) w1 ht hc hl cw hT _ _ _ _ _ _ rfl rfl rfl rfl rfl rfl way
end Go.Proofs.YtkbihgflfldllaaDoor
