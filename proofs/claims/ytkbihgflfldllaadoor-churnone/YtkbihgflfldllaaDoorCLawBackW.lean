/- The walk of the law ChurnBack. -/
import Derived.Test.YtkbihgflfldllaaDoorChuF
namespace Go.Proofs.YtkbihgflfldllaaDoor
open Go.RowKit

set_option maxHeartbeats 1000000 in
theorem back_way (h g : Nat) (s t : ByteArray) (w : World) (hh : h < 18446744073709551616) (hg : g < 18446744073709551616) (hs : s.size ≤ 9223372036854775807) (ht : t.size ≤ 200) (hT : Tab w)
    (a b x y : Nat) (eq : Bool) (ha : moreH h t.data.toList = a) (hb : moreH g t.data.toList = b) (hx : backH h t.data.toList = x) (hy : backH g t.data.toList = y)
    (e1 : ((h : Int) == (g : Int)) = eq) (e2 : ((a : Int) == (b : Int)) = eq) (e3 : ((x : Int) == (y : Int)) = eq)
    (way : ((200 < s.size) = True ∧ s.extract 0 200 = t) ∨ ((200 < s.size) = False ∧ s = t)) :
    Calls Tryd.prog 4 #[.int .u64 h, .int .u64 g, .string s] w fun e w' => e = .returned (.bool true) ∧ At w w' := by
  have A0 := At.refl hT
  have c1 : ∀ W, At w W → Calls Tryd.prog 9 #[.int .u64 h, .string t] W fun e w' => e = .returned (.int .u64 a) ∧ At w w' := fun W hA => at_more h t a ha hh (by omega) hA
  have c2 : ∀ W, At w W → Calls Tryd.prog 9 #[.int .u64 g, .string t] W fun e w' => e = .returned (.int .u64 b) ∧ At w w' := fun W hA => at_more g t b hb hg (by omega) hA
  have c3 : ∀ W, At w W → Calls Tryd.prog 11 #[.int .u64 h, .string t] W fun e w' => e = .returned (.int .u64 x) ∧ At w w' := fun W hA => at_back h t x hx (by omega) hA
  have c4 : ∀ W, At w W → Calls Tryd.prog 11 #[.int .u64 g, .string t] W fun e w' => e = .returned (.int .u64 y) ∧ At w w' := fun W hA => at_back g t y hy (by omega) hA
  have c5 : ∀ W, At w W → Calls Tryd.prog 11 #[.int .u64 a, .string t] W fun e w' => e = .returned (.int .u64 h) ∧ At w w' := fun W hA => at_back a t h (by rw [← ha]; exact back_more hh _) (by omega) hA
  have c6 : ∀ W, At w W → Calls Tryd.prog 9 #[.int .u64 x, .string t] W fun e w' => e = .returned (.int .u64 h) ∧ At w w' := fun W hA => at_more x t h (by rw [← hx]; exact more_back hh _) (by rw [← hx]; exact backH_lt hh _) (by omega) hA
  clear ha hb hx hy
  rcases way with ⟨hz, he⟩ | ⟨hz, he⟩
  · go_enter Tryd.func4, Tryd.ntmps4
    go_wp2_with (first
      | (with_reducible refine (at_awake (by assumption)).mono ?_; rintro e w1 ⟨rfl, A1⟩)
      | (with_reducible refine (c1 _ (by assumption)).mono ?_; rintro e w1 ⟨rfl, A1⟩)
      | (with_reducible refine (c2 _ (by assumption)).mono ?_; rintro e w1 ⟨rfl, A1⟩)
      | (with_reducible refine (c3 _ (by assumption)).mono ?_; rintro e w1 ⟨rfl, A1⟩)
      | (with_reducible refine (c4 _ (by assumption)).mono ?_; rintro e w1 ⟨rfl, A1⟩)
      | (with_reducible refine (c5 _ (by assumption)).mono ?_; rintro e w1 ⟨rfl, A1⟩)
      | (with_reducible refine (c6 _ (by assumption)).mono ?_; rintro e w1 ⟨rfl, A1⟩))
    all_goals (first | (exfalso; have := of_eq_true hz; omega) | (go_ret; exact ⟨rfl, by assumption⟩))
  · subst he
    go_enter Tryd.func4, Tryd.ntmps4
    go_wp2_with (first
      | (with_reducible refine (at_awake (by assumption)).mono ?_; rintro e w1 ⟨rfl, A1⟩)
      | (with_reducible refine (c1 _ (by assumption)).mono ?_; rintro e w1 ⟨rfl, A1⟩)
      | (with_reducible refine (c2 _ (by assumption)).mono ?_; rintro e w1 ⟨rfl, A1⟩)
      | (with_reducible refine (c3 _ (by assumption)).mono ?_; rintro e w1 ⟨rfl, A1⟩)
      | (with_reducible refine (c4 _ (by assumption)).mono ?_; rintro e w1 ⟨rfl, A1⟩)
      | (with_reducible refine (c5 _ (by assumption)).mono ?_; rintro e w1 ⟨rfl, A1⟩)
      | (with_reducible refine (c6 _ (by assumption)).mono ?_; rintro e w1 ⟨rfl, A1⟩))
    all_goals (first | (exfalso; have := of_eq_false hz; omega) | (go_ret; exact ⟨rfl, by assumption⟩))

theorem cut_way (s : ByteArray) (n : Nat) : ∃ t : ByteArray, t.size ≤ n ∧ (((n < s.size) = True ∧ s.extract 0 n = t) ∨ ((n < s.size) = False ∧ s = t)) := by
  by_cases h : n < s.size
  · exact ⟨_, ext_le s n, .inl ⟨eq_true h, rfl⟩⟩
  · exact ⟨s, by omega, .inr ⟨eq_false h, rfl⟩⟩

theorem cback_calls (a0 : Int) (w0 : (Lit.int .u64 a0).wf = true) (a1 : Int) (w1 : (Lit.int .u64 a1).wf = true) (a2 : ByteArray) (w2 : a2.size ≤ maxLen) (w : World) (hT : Tab w) :
    Calls Tryd.prog 4 #[.int .u64 a0, .int .u64 a1, .string a2] w fun e w' => e = .returned (.bool true) ∧ Below w.heap.size w w' := by
  obtain ⟨h, rfl, hh⟩ := u64_of_wf w0
  obtain ⟨g, rfl, hg⟩ := u64_of_wf w1
  obtain ⟨t, ht, way⟩ := cut_way a2 200
  refine Calls.mono (?_ : Calls _ _ _ _ fun e w' => e = .returned (.bool true) ∧ At w w') fun e w' ⟨he, hA⟩ => ⟨he, hA.2⟩
  by_cases e : h = g
  · subst e
    exact back_way h h a2 t w hh hh w2 ht hT _ _ _ _ true rfl rfl rfl rfl (by simp) (by simp) (by simp) way
  · exact back_way h g a2 t w hh hg w2 ht hT _ _ _ _ false rfl rfl rfl rfl (beq_of_ne e) (beq_of_ne fun k => e ((more_inj hh hg _).1 k)) (beq_of_ne fun k => e ((back_inj hh hg _).1 k)) way
end Go.Proofs.YtkbihgflfldllaaDoor
