/- The walk of LagTicks. -/
import Derived.Test.YtkpdfjpdjjjfiaaLagI
import Derived.OpenShut
namespace Go.Proofs.Ytkpdfjpdjjjfiaa
open Go.RowKit Ieee

theorem plainW_nan {a : Nat} (h : nanW a = true) : plainW a = 9221120237041090561 := by
  simp only [nanW, decide_eq_true_eq] at h
  unfold plainW
  rw [if_pos h]

set_option maxHeartbeats 4000000 in
set_option maxRecDepth 100000 in
theorem lticks_walk (a b : Nat) (w : World) (ha : a < 18446744073709551616) (hb : b < 18446744073709551616) :
    Calls Try.prog 8 #[.int .u64 (a : Int), .int .u64 (b : Int)] w fun e w' => e = .returned (.bool true) ∧ Below w.heap.size w w' := by
  have tA := fun W => Ticks_any a W ha
  have tB := fun W => Ticks_any b W hb
  have pA := fun W => Plain_any a W ha
  have lab := fun W => Less_any a b W ha hb
  have l0 : ∀ W, Calls Try.prog 15 #[.int .u64 0, .int .u64 (a : Int)] W fun e w' => e = .returned (.bool (lessW 0 a)) ∧ W = w' := fun W => Less_any 0 a W (by decide) ha
  have o1 := fun W => Of_any ((ticksW a : Int) - 1) W
  have o2 := fun W => Of_any (ticksW a : Int) W
  have l1 := fun W => Less_any (ofW ((ticksW a : Int) - 1)) a W (ofW_lt _) ha
  have l2 := fun W => Less_any (ofW (ticksW a : Int)) a W (ofW_lt _) ha
  cases na : nanW a
  · have eA : ticksE a = 0 := by unfold ticksE; rw [na]; rfl
    have hle := ticks_le ha na
    have hz := ticks_zero ha na
    have hbel := ticks_below ha na
    have habv := ticks_above ha na
    have HF : Hid ((ticksE b = 1) ∨ (ticksE b = 0 ∧ lessW a b = false) ∨ (ticksE b = 0 ∧ lessW a b = true ∧ ticksW a ≤ ticksW b)) := by
      show _ ∨ _
      cases nb : nanW b
      · have eB : ticksE b = 0 := by unfold ticksE; rw [nb]; rfl
        cases hl : lessW a b
        · exact .inr (.inl ⟨eB, rfl⟩)
        · exact .inr (.inr ⟨eB, rfl, ticks_mono ha hb na nb hl⟩)
      · exact .inl (by unfold ticksE; rw [nb]; rfl)
    rw [eA] at tA
    clear eA na
    generalize ofW ((ticksW a : Int) - 1) = O1 at *
    generalize ofW (ticksW a : Int) = O2 at *
    generalize ticksW a = t at *
    generalize ticksW b = u at *
    have hle' : (1099511627776 < (t : Int)) = False := eq_false (by omega)
    have hle'' : (1099511627776 < t) = False := eq_false (by omega)
    have hge' : ((t : Int) < 0) = False := eq_false (by omega)
    have hwr : wrap64 ((t : Int) - 1) = (t : Int) - 1 := by unfold wrap64; omega
    rcases (by omega : t = 0 ∨ (0 < t ∧ t < 1099511627776) ∨ t = 1099511627776) with ht | ⟨ht1, ht2⟩ | ht
    · rw [hz.1 ht] at l0
      rw [habv (by omega)] at l2
      have ht1' : (0 < t) = False := eq_false (by omega)
      have ht1'' : (0 < (t : Int)) = False := eq_false (by omega)
      have ht2' : ((t : Int) < 1099511627776) = True := eq_true (by omega)
      have ht2'' : (t < 1099511627776) = True := eq_true (by omega)
      have ht3 : ((t : Int) == 0) = true := by simp; omega
      have ht4 : (t = 0) = True := eq_true (by omega)
      clear hz hbel habv ht hle
      rcases HF.out with h | ⟨h, h'⟩ | ⟨h, h', h3⟩
      · rw [h] at tB
        clear h HF
        go_enter Try.func8, Try.ntmps8
        go_wp2_with fail
        with_reducible refine (awake_any _).mono ?_
        rintro e w1 ⟨rfl, hB⟩
        go_wp2_with (first
          | (with_reducible refine (tA _).mono ?_; rintro e w2 ⟨rfl, rfl⟩)
          | (with_reducible refine (tB _).mono ?_; rintro e w2 ⟨rfl, rfl⟩)
          | (with_reducible refine (pA _).mono ?_; rintro e w2 ⟨rfl, rfl⟩)
          | (with_reducible refine (l0 _).mono ?_; rintro e w2 ⟨rfl, rfl⟩)
          | (with_reducible refine (o1 _).mono ?_; rintro e w2 ⟨rfl, rfl⟩)
          | (with_reducible refine (l1 _).mono ?_; rintro e w2 ⟨rfl, rfl⟩)
          | (with_reducible refine (o2 _).mono ?_; rintro e w2 ⟨rfl, rfl⟩)
          | (with_reducible refine (l2 _).mono ?_; rintro e w2 ⟨rfl, rfl⟩)
          | (with_reducible refine (lab _).mono ?_; rintro e w2 ⟨rfl, rfl⟩))
        go_ret
        exact ⟨rfl, hB⟩
      · rw [h] at tB
        rw [h'] at lab
        clear h h' HF
        go_enter Try.func8, Try.ntmps8
        go_wp2_with fail
        with_reducible refine (awake_any _).mono ?_
        rintro e w1 ⟨rfl, hB⟩
        go_wp2_with (first
          | (with_reducible refine (tA _).mono ?_; rintro e w2 ⟨rfl, rfl⟩)
          | (with_reducible refine (tB _).mono ?_; rintro e w2 ⟨rfl, rfl⟩)
          | (with_reducible refine (pA _).mono ?_; rintro e w2 ⟨rfl, rfl⟩)
          | (with_reducible refine (l0 _).mono ?_; rintro e w2 ⟨rfl, rfl⟩)
          | (with_reducible refine (o1 _).mono ?_; rintro e w2 ⟨rfl, rfl⟩)
          | (with_reducible refine (l1 _).mono ?_; rintro e w2 ⟨rfl, rfl⟩)
          | (with_reducible refine (o2 _).mono ?_; rintro e w2 ⟨rfl, rfl⟩)
          | (with_reducible refine (l2 _).mono ?_; rintro e w2 ⟨rfl, rfl⟩)
          | (with_reducible refine (lab _).mono ?_; rintro e w2 ⟨rfl, rfl⟩))
        go_ret
        exact ⟨rfl, hB⟩
      · rw [h] at tB
        rw [h'] at lab
        have h3' : ((t : Int) ≤ (u : Int)) = True := eq_true (by omega)
        have h3'' : (t ≤ u) = True := eq_true h3
        clear h h' HF h3
        go_enter Try.func8, Try.ntmps8
        go_wp2_with fail
        with_reducible refine (awake_any _).mono ?_
        rintro e w1 ⟨rfl, hB⟩
        go_wp2_with (first
          | (with_reducible refine (tA _).mono ?_; rintro e w2 ⟨rfl, rfl⟩)
          | (with_reducible refine (tB _).mono ?_; rintro e w2 ⟨rfl, rfl⟩)
          | (with_reducible refine (pA _).mono ?_; rintro e w2 ⟨rfl, rfl⟩)
          | (with_reducible refine (l0 _).mono ?_; rintro e w2 ⟨rfl, rfl⟩)
          | (with_reducible refine (o1 _).mono ?_; rintro e w2 ⟨rfl, rfl⟩)
          | (with_reducible refine (l1 _).mono ?_; rintro e w2 ⟨rfl, rfl⟩)
          | (with_reducible refine (o2 _).mono ?_; rintro e w2 ⟨rfl, rfl⟩)
          | (with_reducible refine (l2 _).mono ?_; rintro e w2 ⟨rfl, rfl⟩)
          | (with_reducible refine (lab _).mono ?_; rintro e w2 ⟨rfl, rfl⟩))
        go_ret
        exact ⟨rfl, hB⟩
    · cases h0 : lessW 0 a
      · have := hz.2 h0; omega
      · rw [h0] at l0
        rw [hbel ht1] at l1
        rw [habv ht2] at l2
        have ht1' : (0 < t) = True := eq_true (by omega)
        have ht1'' : (0 < (t : Int)) = True := eq_true (by omega)
        have ht2' : ((t : Int) < 1099511627776) = True := eq_true (by omega)
        have ht2'' : (t < 1099511627776) = True := eq_true (by omega)
        have ht3 : ((t : Int) == 0) = false := by simp; omega
        have ht4 : (t = 0) = False := eq_false (by omega)
        clear hz hbel habv ht1 ht2 hle
        rcases HF.out with h | ⟨h, h'⟩ | ⟨h, h', h3⟩
        · rw [h] at tB
          clear h HF
          go_enter Try.func8, Try.ntmps8
          go_wp2_with fail
          with_reducible refine (awake_any _).mono ?_
          rintro e w1 ⟨rfl, hB⟩
          go_wp2_with (first
            | (with_reducible refine (tA _).mono ?_; rintro e w2 ⟨rfl, rfl⟩)
            | (with_reducible refine (tB _).mono ?_; rintro e w2 ⟨rfl, rfl⟩)
            | (with_reducible refine (pA _).mono ?_; rintro e w2 ⟨rfl, rfl⟩)
            | (with_reducible refine (l0 _).mono ?_; rintro e w2 ⟨rfl, rfl⟩)
            | (with_reducible refine (o1 _).mono ?_; rintro e w2 ⟨rfl, rfl⟩)
            | (with_reducible refine (l1 _).mono ?_; rintro e w2 ⟨rfl, rfl⟩)
            | (with_reducible refine (o2 _).mono ?_; rintro e w2 ⟨rfl, rfl⟩)
            | (with_reducible refine (l2 _).mono ?_; rintro e w2 ⟨rfl, rfl⟩)
            | (with_reducible refine (lab _).mono ?_; rintro e w2 ⟨rfl, rfl⟩))
          go_ret
          exact ⟨rfl, hB⟩
        · rw [h] at tB
          rw [h'] at lab
          clear h h' HF
          go_enter Try.func8, Try.ntmps8
          go_wp2_with fail
          with_reducible refine (awake_any _).mono ?_
          rintro e w1 ⟨rfl, hB⟩
          go_wp2_with (first
            | (with_reducible refine (tA _).mono ?_; rintro e w2 ⟨rfl, rfl⟩)
            | (with_reducible refine (tB _).mono ?_; rintro e w2 ⟨rfl, rfl⟩)
            | (with_reducible refine (pA _).mono ?_; rintro e w2 ⟨rfl, rfl⟩)
            | (with_reducible refine (l0 _).mono ?_; rintro e w2 ⟨rfl, rfl⟩)
            | (with_reducible refine (o1 _).mono ?_; rintro e w2 ⟨rfl, rfl⟩)
            | (with_reducible refine (l1 _).mono ?_; rintro e w2 ⟨rfl, rfl⟩)
            | (with_reducible refine (o2 _).mono ?_; rintro e w2 ⟨rfl, rfl⟩)
            | (with_reducible refine (l2 _).mono ?_; rintro e w2 ⟨rfl, rfl⟩)
            | (with_reducible refine (lab _).mono ?_; rintro e w2 ⟨rfl, rfl⟩))
          go_ret
          exact ⟨rfl, hB⟩
        · rw [h] at tB
          rw [h'] at lab
          have h3' : ((t : Int) ≤ (u : Int)) = True := eq_true (by omega)
          have h3'' : (t ≤ u) = True := eq_true h3
          clear h h' HF h3
          go_enter Try.func8, Try.ntmps8
          go_wp2_with fail
          with_reducible refine (awake_any _).mono ?_
          rintro e w1 ⟨rfl, hB⟩
          go_wp2_with (first
            | (with_reducible refine (tA _).mono ?_; rintro e w2 ⟨rfl, rfl⟩)
            | (with_reducible refine (tB _).mono ?_; rintro e w2 ⟨rfl, rfl⟩)
            | (with_reducible refine (pA _).mono ?_; rintro e w2 ⟨rfl, rfl⟩)
            | (with_reducible refine (l0 _).mono ?_; rintro e w2 ⟨rfl, rfl⟩)
            | (with_reducible refine (o1 _).mono ?_; rintro e w2 ⟨rfl, rfl⟩)
            | (with_reducible refine (l1 _).mono ?_; rintro e w2 ⟨rfl, rfl⟩)
            | (with_reducible refine (o2 _).mono ?_; rintro e w2 ⟨rfl, rfl⟩)
            | (with_reducible refine (l2 _).mono ?_; rintro e w2 ⟨rfl, rfl⟩)
            | (with_reducible refine (lab _).mono ?_; rintro e w2 ⟨rfl, rfl⟩))
          go_ret
          exact ⟨rfl, hB⟩
    · cases h0 : lessW 0 a
      · have := hz.2 h0; omega
      · rw [h0] at l0
        rw [hbel (by omega)] at l1
        have ht1' : (0 < t) = True := eq_true (by omega)
        have ht1'' : (0 < (t : Int)) = True := eq_true (by omega)
        have ht2' : ((t : Int) < 1099511627776) = False := eq_false (by omega)
        have ht2'' : (t < 1099511627776) = False := eq_false (by omega)
        have ht3 : ((t : Int) == 0) = false := by simp; omega
        have ht4 : (t = 0) = False := eq_false (by omega)
        clear hz hbel habv ht hle
        rcases HF.out with h | ⟨h, h'⟩ | ⟨h, h', h3⟩
        · rw [h] at tB
          clear h HF
          go_enter Try.func8, Try.ntmps8
          go_wp2_with fail
          with_reducible refine (awake_any _).mono ?_
          rintro e w1 ⟨rfl, hB⟩
          go_wp2_with (first
            | (with_reducible refine (tA _).mono ?_; rintro e w2 ⟨rfl, rfl⟩)
            | (with_reducible refine (tB _).mono ?_; rintro e w2 ⟨rfl, rfl⟩)
            | (with_reducible refine (pA _).mono ?_; rintro e w2 ⟨rfl, rfl⟩)
            | (with_reducible refine (l0 _).mono ?_; rintro e w2 ⟨rfl, rfl⟩)
            | (with_reducible refine (o1 _).mono ?_; rintro e w2 ⟨rfl, rfl⟩)
            | (with_reducible refine (l1 _).mono ?_; rintro e w2 ⟨rfl, rfl⟩)
            | (with_reducible refine (o2 _).mono ?_; rintro e w2 ⟨rfl, rfl⟩)
            | (with_reducible refine (l2 _).mono ?_; rintro e w2 ⟨rfl, rfl⟩)
            | (with_reducible refine (lab _).mono ?_; rintro e w2 ⟨rfl, rfl⟩))
          go_ret
          exact ⟨rfl, hB⟩
        · rw [h] at tB
          rw [h'] at lab
          clear h h' HF
          go_enter Try.func8, Try.ntmps8
          go_wp2_with fail
          with_reducible refine (awake_any _).mono ?_
          rintro e w1 ⟨rfl, hB⟩
          go_wp2_with (first
            | (with_reducible refine (tA _).mono ?_; rintro e w2 ⟨rfl, rfl⟩)
            | (with_reducible refine (tB _).mono ?_; rintro e w2 ⟨rfl, rfl⟩)
            | (with_reducible refine (pA _).mono ?_; rintro e w2 ⟨rfl, rfl⟩)
            | (with_reducible refine (l0 _).mono ?_; rintro e w2 ⟨rfl, rfl⟩)
            | (with_reducible refine (o1 _).mono ?_; rintro e w2 ⟨rfl, rfl⟩)
            | (with_reducible refine (l1 _).mono ?_; rintro e w2 ⟨rfl, rfl⟩)
            | (with_reducible refine (o2 _).mono ?_; rintro e w2 ⟨rfl, rfl⟩)
            | (with_reducible refine (l2 _).mono ?_; rintro e w2 ⟨rfl, rfl⟩)
            | (with_reducible refine (lab _).mono ?_; rintro e w2 ⟨rfl, rfl⟩))
          go_ret
          exact ⟨rfl, hB⟩
        · rw [h] at tB
          rw [h'] at lab
          have h3' : ((t : Int) ≤ (u : Int)) = True := eq_true (by omega)
          have h3'' : (t ≤ u) = True := eq_true h3
          clear h h' HF h3
          go_enter Try.func8, Try.ntmps8
          go_wp2_with fail
          with_reducible refine (awake_any _).mono ?_
          rintro e w1 ⟨rfl, hB⟩
          go_wp2_with (first
            | (with_reducible refine (tA _).mono ?_; rintro e w2 ⟨rfl, rfl⟩)
            | (with_reducible refine (tB _).mono ?_; rintro e w2 ⟨rfl, rfl⟩)
            | (with_reducible refine (pA _).mono ?_; rintro e w2 ⟨rfl, rfl⟩)
            | (with_reducible refine (l0 _).mono ?_; rintro e w2 ⟨rfl, rfl⟩)
            | (with_reducible refine (o1 _).mono ?_; rintro e w2 ⟨rfl, rfl⟩)
            | (with_reducible refine (l1 _).mono ?_; rintro e w2 ⟨rfl, rfl⟩)
            | (with_reducible refine (o2 _).mono ?_; rintro e w2 ⟨rfl, rfl⟩)
            | (with_reducible refine (l2 _).mono ?_; rintro e w2 ⟨rfl, rfl⟩)
            | (with_reducible refine (lab _).mono ?_; rintro e w2 ⟨rfl, rfl⟩))
          go_ret
          exact ⟨rfl, hB⟩
  · have eA : ticksE a = 1 := by unfold ticksE; rw [na]; rfl
    have eW : ticksW a = 0 := by unfold ticksW; rw [na]; rfl
    rw [eA, eW] at tA
    rw [plainW_nan na] at pA
    clear eA eW na o1 o2 l1 l2 l0 lab
    generalize ticksE b = q at *
    generalize ticksW b = u at *
    go_enter Try.func8, Try.ntmps8
    go_wp2_with fail
    with_reducible refine (awake_any _).mono ?_
    rintro e w1 ⟨rfl, hB⟩
    go_wp2_with (first
      | (with_reducible refine (tA _).mono ?_; rintro e w2 ⟨rfl, rfl⟩)
      | (with_reducible refine (tB _).mono ?_; rintro e w2 ⟨rfl, rfl⟩)
      | (with_reducible refine (pA _).mono ?_; rintro e w2 ⟨rfl, rfl⟩))
    go_ret
    exact ⟨rfl, hB⟩

theorem lticks_calls (a : Int) (hfa : (Lit.int .u64 a).wf = true) (b : Int) (hfb : (Lit.int .u64 b).wf = true) (w : World) :
    Calls Try.prog 8 #[.int .u64 a, .int .u64 b] w fun e w' => e = .returned (.bool true) ∧ Below w.heap.size w w' := by
  obtain ⟨A, rfl, hA⟩ := u64_of_wf hfa
  obtain ⟨B, rfl, hB⟩ := u64_of_wf hfb
  exact lticks_walk A B w hA hB
end Go.Proofs.Ytkpdfjpdjjjfiaa
