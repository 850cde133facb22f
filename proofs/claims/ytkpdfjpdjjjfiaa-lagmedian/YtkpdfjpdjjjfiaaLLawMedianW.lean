/- The walk of LagMedian. -/
import Derived.Test.YtkpdfjpdjjjfiaaLagF
import Derived.Test.YtkpdfjpdjjjfiaaLagG
import Derived.Test.YtkpdfjpdjjjfiaaOctW
import Derived.OpenShut
namespace Go.Proofs.Ytkpdfjpdjjjfiaa
open Go.RowKit Ieee

theorem three_at (a b c t : Nat) (ht : t < 3) : [Value.int .u64 (a : Int), .int .u64 (b : Int), .int .u64 (c : Int)][t]? = some (.int .u64 (([a, b, c].getD t 0 : Nat) : Int)) := by
  rcases (by omega : t = 0 ∨ t = 1 ∨ t = 2) with rfl | rfl | rfl <;> rfl
theorem three_lt {a b c : Nat} (ha : a < 18446744073709551616) (hb : b < 18446744073709551616) (hc : c < 18446744073709551616) : ∀ t, [a, b, c].getD t 0 < 18446744073709551616 := by
  intro t
  rcases (by omega : t = 0 ∨ t = 1 ∨ t = 2 ∨ 3 ≤ t) with rfl | rfl | rfl | h
  · exact ha
  · exact hb
  · exact hc
  · rw [List.getD_eq_getElem?_getD, List.getElem?_eq_none (by simpa using h)]; decide

theorem six_below {w w0 v1 v2 v3 v4 v5 v6 : World} (h0 : Below w.heap.size w w0) (h1 : Below w0.heap.size w0 v1) (h2 : Below v1.heap.size v1 v2) (h3 : Below v2.heap.size v2 v3) (h4 : Below v3.heap.size v3 v4) (h5 : Below v4.heap.size v4 v5) (h6 : Below v5.heap.size v5 v6) : Below w.heap.size w v6 := by
  have a1 := h0.trans (h1.mono h0.size)
  have a2 := a1.trans (h2.mono a1.size)
  have a3 := a2.trans (h3.mono a2.size)
  have a4 := a3.trans (h4.mono a3.size)
  have a5 := a4.trans (h5.mono a4.size)
  exact a5.trans (h6.mono a5.size)

set_option maxHeartbeats 4000000 in
theorem lmedian_walk (a b c : Nat) (w : World) (ha : a < 18446744073709551616) (hb : b < 18446744073709551616) (hc : c < 18446744073709551616) :
    Calls Try.prog 6 #[.int .u64 (a : Int), .int .u64 (b : Int), .int .u64 (c : Int)] w fun e w' => e = .returned (.bool true) ∧ Below w.heap.size w w' := by
  have m0 := fun W => Median_any a b c W ha hb hc
  have HLt := Lib.hid (three_lt ha hb hc)
  have HM := Lib.hid (show medW a b c < 18446744073709551616 from medW_lt ha hb hc)
  have HC := Lib.hid (medW_cnt a b c)
  have m1 : ∀ W, Calls Try.prog 20 #[.int .u64 (b : Int), .int .u64 (a : Int), .int .u64 (c : Int)] W fun e w' => e = .returned (.int .u64 (medW a b c : Nat)) ∧ Below W.heap.size W w' := fun W => by
    have h := Median_any b a c W hb ha hc
    rw [medW_eq hb ha hc (medW_lt ha hb hc) (by rw [medW_rank]; unfold midN; omega), medW_plain] at h
    exact h
  have m2 : ∀ W, Calls Try.prog 20 #[.int .u64 (a : Int), .int .u64 (c : Int), .int .u64 (b : Int)] W fun e w' => e = .returned (.int .u64 (medW a b c : Nat)) ∧ Below W.heap.size W w' := fun W => by
    have h := Median_any a c b W ha hc hb
    rw [medW_eq ha hc hb (medW_lt ha hb hc) (by rw [medW_rank]; unfold midN; omega), medW_plain] at h
    exact h
  have m3 : ∀ W, Calls Try.prog 20 #[.int .u64 (c : Int), .int .u64 (b : Int), .int .u64 (a : Int)] W fun e w' => e = .returned (.int .u64 (medW a b c : Nat)) ∧ Below W.heap.size W w' := fun W => by
    have h := Median_any c b a W hc hb ha
    rw [medW_eq hc hb ha (medW_lt ha hb hc) (by rw [medW_rank]; unfold midN; omega), medW_plain] at h
    exact h
  have m4 : ∀ W, Calls Try.prog 20 #[.int .u64 (b : Int), .int .u64 (c : Int), .int .u64 (a : Int)] W fun e w' => e = .returned (.int .u64 (medW a b c : Nat)) ∧ Below W.heap.size W w' := fun W => by
    have h := Median_any b c a W hb hc ha
    rw [medW_eq hb hc ha (medW_lt ha hb hc) (by rw [medW_rank]; unfold midN; omega), medW_plain] at h
    exact h
  have m5 : ∀ W, Calls Try.prog 20 #[.int .u64 (c : Int), .int .u64 (a : Int), .int .u64 (b : Int)] W fun e w' => e = .returned (.int .u64 (medW a b c : Nat)) ∧ Below W.heap.size W w' := fun W => by
    have h := Median_any c a b W hc ha hb
    rw [medW_eq hc ha hb (medW_lt ha hb hc) (by rw [medW_rank]; unfold midN; omega), medW_plain] at h
    exact h
  have m6 : ∀ W, Calls Try.prog 20 #[.int .u64 (a : Int), .int .u64 (a : Int), .int .u64 (b : Int)] W fun e w' => e = .returned (.int .u64 (plainW a : Nat)) ∧ Below W.heap.size W w' := fun W => by
    have h := Median_any a a b W ha ha hb
    rw [medW_eq ha ha hb ha (by unfold midN; omega)] at h
    exact h
  have pa := fun W => Plain_any a W ha
  have pb := fun W => Plain_any b W hb
  have pc := fun W => Plain_any c W hc
  have HP : Hid (medW a b c = plainW a ∨ (medW a b c ≠ plainW a ∧ medW a b c = plainW b) ∨ (medW a b c ≠ plainW a ∧ medW a b c ≠ plainW b ∧ medW a b c = plainW c)) := by
    show _ ∨ _
    by_cases e1 : rankW a = midN (rankW a) (rankW b) (rankW c)
    · exact .inl (medW_eq ha hb hc ha e1)
    · by_cases e2 : rankW b = midN (rankW a) (rankW b) (rankW c)
      · exact .inr (.inl ⟨medW_ne e1, medW_eq ha hb hc hb e2⟩)
      · refine .inr (.inr ⟨medW_ne e1, medW_ne e2, medW_eq ha hb hc hc ?_⟩)
        rcases midN_one (rankW a) (rankW b) (rankW c) with e | e | e
        · exact absurd e.symm e1
        · exact absurd e.symm e2
        · exact e.symm
  generalize medW a b c = m at *
  go_enter Try.func6, Try.ntmps6
  go_wp2_with fail
  with_reducible refine (awake_any _).mono ?_
  rintro e w1 ⟨rfl, hB1⟩
  go_wp2_with fail
  with_reducible refine (m0 _).mono ?_
  rintro e w2 ⟨rfl, hB2⟩
  have hB3 : Below w.heap.size w w2 := hB1.trans (hB2.mono hB1.size)
  clear hB1 hB2
  go_wp2_with fail
  go_loopw [9, 10, 23] (fun u v i wr => Below w.heap.size w wr ∧ RowAt wr w2.heap.size 22 [.int .u64 (a : Int), .int .u64 (b : Int), .int .u64 (c : Int)] ∧ ∃ t U V : Nat, t ≤ 3 ∧ i = .int .i64 t ∧ u = .int .i64 U ∧ v = .int .i64 V ∧ U ≤ t ∧ V ≤ t ∧ Hid (U = cntB (fun y => lessW y m) ([a, b, c].take t)) ∧ Hid (V = cntB (fun y => lessW m y) ([a, b, c].take t))) (fun _ _ i _ => 3 - (intOf i).toNat)
  case atStart => exact ⟨hB3.alloc (hB3.size) _, RowAt.new _ _ _, 0, 0, 0, by omega, rfl, rfl, rfl, by omega, by omega, rfl, rfl⟩
  case round =>
    obtain ⟨hB, hR, t, U, V, ht, rfl, rfl, rfl, hU, hV, HU, HV⟩ := hrel
    by_cases hlt : t < 3
    · have hcell := (hR.cell t).trans (three_at a b c t hlt)
      have hGl := HLt.out t
      have HS1 := Lib.hid (cntB_step (fun y => lessW y m) [a, b, c] t (by show t < 3; omega))
      have HS2 := Lib.hid (cntB_step (fun y => lessW m y) [a, b, c] t (by show t < 3; omega))
      generalize [a, b, c].getD t 0 = G at *
      have hb1 := fun W => Less_any G m W hGl HM.out
      have hb2 := fun W => Less_any m G W HM.out hGl
      have hlt' : (t : Int) < 3 := by omega
      cases hp : lessW G m <;> cases hq : lessW m G <;> rw [hp] at hb1 <;> rw [hq] at hb2
      · have S1 := Lib.hid (show U = cntB (fun y => lessW y m) ([a, b, c].take (t + 1)) by rw [HS1.out, ← HU.out, hp]; rfl)
        have S2 := Lib.hid (show V = cntB (fun y => lessW m y) ([a, b, c].take (t + 1)) by rw [HS2.out, ← HV.out, hq]; rfl)
        clear hp hq HS1 HS2
        go_wp2_with fail
        with_reducible refine (hb1 _).mono ?_
        rintro e w4 ⟨rfl, rfl⟩
        go_wp2_with fail
        with_reducible refine (hb2 _).mono ?_
        rintro e w4 ⟨rfl, rfl⟩
        go_wp2_with fail
        go_roundw
        case rel => exact ⟨hB, hR, t + 1, U, V, by omega, by first | rfl | go_num, by first | rfl | go_num, by first | rfl | go_num, by omega, by omega, S1.out, S2.out⟩
        case measure => simp [intOf]; omega
      · have S1 := Lib.hid (show U = cntB (fun y => lessW y m) ([a, b, c].take (t + 1)) by rw [HS1.out, ← HU.out, hp]; rfl)
        have S2 := Lib.hid (show V + 1 = cntB (fun y => lessW m y) ([a, b, c].take (t + 1)) by rw [HS2.out, ← HV.out, hq]; rfl)
        clear hp hq HS1 HS2
        go_wp2_with fail
        with_reducible refine (hb1 _).mono ?_
        rintro e w4 ⟨rfl, rfl⟩
        go_wp2_with fail
        with_reducible refine (hb2 _).mono ?_
        rintro e w4 ⟨rfl, rfl⟩
        go_wp2_with fail
        go_roundw
        case rel => exact ⟨hB, hR, t + 1, U, V + 1, by omega, by first | rfl | go_num, by first | rfl | go_num, by first | rfl | go_num, by omega, by omega, S1.out, S2.out⟩
        case measure => simp [intOf]; omega
      · have S1 := Lib.hid (show U + 1 = cntB (fun y => lessW y m) ([a, b, c].take (t + 1)) by rw [HS1.out, ← HU.out, hp]; rfl)
        have S2 := Lib.hid (show V = cntB (fun y => lessW m y) ([a, b, c].take (t + 1)) by rw [HS2.out, ← HV.out, hq]; rfl)
        clear hp hq HS1 HS2
        go_wp2_with fail
        with_reducible refine (hb1 _).mono ?_
        rintro e w4 ⟨rfl, rfl⟩
        go_wp2_with fail
        with_reducible refine (hb2 _).mono ?_
        rintro e w4 ⟨rfl, rfl⟩
        go_wp2_with fail
        go_roundw
        case rel => exact ⟨hB, hR, t + 1, U + 1, V, by omega, by first | rfl | go_num, by first | rfl | go_num, by first | rfl | go_num, by omega, by omega, S1.out, S2.out⟩
        case measure => simp [intOf]; omega
      · have S1 := Lib.hid (show U + 1 = cntB (fun y => lessW y m) ([a, b, c].take (t + 1)) by rw [HS1.out, ← HU.out, hp]; rfl)
        have S2 := Lib.hid (show V + 1 = cntB (fun y => lessW m y) ([a, b, c].take (t + 1)) by rw [HS2.out, ← HV.out, hq]; rfl)
        clear hp hq HS1 HS2
        go_wp2_with fail
        with_reducible refine (hb1 _).mono ?_
        rintro e w4 ⟨rfl, rfl⟩
        go_wp2_with fail
        with_reducible refine (hb2 _).mono ?_
        rintro e w4 ⟨rfl, rfl⟩
        go_wp2_with fail
        go_roundw
        case rel => exact ⟨hB, hR, t + 1, U + 1, V + 1, by omega, by first | rfl | go_num, by first | rfl | go_num, by first | rfl | go_num, by omega, by omega, S1.out, S2.out⟩
        case measure => simp [intOf]; omega
    · obtain rfl : t = 3 := by omega
      have hc1 : U ≤ 1 := by have := HC.out.1; have h2 := HU.out; rw [show [a, b, c].take 3 = [a, b, c] from rfl] at h2; omega
      have hc2 : V ≤ 1 := by have := HC.out.2; have h2 := HV.out; rw [show [a, b, c].take 3 = [a, b, c] from rfl] at h2; omega
      have hd1 : (U : Int) ≤ 1 := by omega
      have hd2 : (V : Int) ≤ 1 := by omega
      clear HU HV hU hV hR
      have hPa : Hid (plainW a = plainW a) := rfl
      rcases HP.out with h | ⟨h1, h⟩ | ⟨h1, h2, h⟩
      · rw [← h] at pa m6
        clear h HP
        go_wp2_with (first
          | (with_reducible refine (pa _).mono ?_; rintro e w4 ⟨rfl, rfl⟩)
          | (with_reducible refine (pb _).mono ?_; rintro e w4 ⟨rfl, rfl⟩)
          | (with_reducible refine (pc _).mono ?_; rintro e w4 ⟨rfl, rfl⟩)
          | fail)
        with_reducible refine (m1 _).mono ?_
        rintro e v1 ⟨rfl, hv1⟩
        go_wp2_with fail
        with_reducible refine (m2 _).mono ?_
        rintro e v2 ⟨rfl, hv2⟩
        go_wp2_with fail
        with_reducible refine (m3 _).mono ?_
        rintro e v3 ⟨rfl, hv3⟩
        go_wp2_with fail
        with_reducible refine (m4 _).mono ?_
        rintro e v4 ⟨rfl, hv4⟩
        go_wp2_with fail
        with_reducible refine (m5 _).mono ?_
        rintro e v5 ⟨rfl, hv5⟩
        go_wp2_with fail
        with_reducible refine (m6 _).mono ?_
        rintro e v6 ⟨rfl, hv6⟩
        go_wp2_with (first | (with_reducible refine (pa _).mono ?_; rintro e w4 ⟨rfl, rfl⟩))
        go_ret
        exact ⟨rfl, six_below hB hv1 hv2 hv3 hv4 hv5 hv6⟩
      · have n1 : ((m : Int) == (plainW a : Nat)) = false := by simp; omega
        rw [← h] at pb
        generalize plainW a = Pa at *
        clear h h1 HP
        go_wp2_with (first
          | (with_reducible refine (pa _).mono ?_; rintro e w4 ⟨rfl, rfl⟩)
          | (with_reducible refine (pb _).mono ?_; rintro e w4 ⟨rfl, rfl⟩)
          | (with_reducible refine (pc _).mono ?_; rintro e w4 ⟨rfl, rfl⟩)
          | fail)
        with_reducible refine (m1 _).mono ?_
        rintro e v1 ⟨rfl, hv1⟩
        go_wp2_with fail
        with_reducible refine (m2 _).mono ?_
        rintro e v2 ⟨rfl, hv2⟩
        go_wp2_with fail
        with_reducible refine (m3 _).mono ?_
        rintro e v3 ⟨rfl, hv3⟩
        go_wp2_with fail
        with_reducible refine (m4 _).mono ?_
        rintro e v4 ⟨rfl, hv4⟩
        go_wp2_with fail
        with_reducible refine (m5 _).mono ?_
        rintro e v5 ⟨rfl, hv5⟩
        go_wp2_with fail
        with_reducible refine (m6 _).mono ?_
        rintro e v6 ⟨rfl, hv6⟩
        go_wp2_with (first | (with_reducible refine (pa _).mono ?_; rintro e w4 ⟨rfl, rfl⟩))
        go_ret
        exact ⟨rfl, six_below hB hv1 hv2 hv3 hv4 hv5 hv6⟩
      · have n1 : ((m : Int) == (plainW a : Nat)) = false := by simp; omega
        have n2 : ((m : Int) == (plainW b : Nat)) = false := by simp; omega
        rw [← h] at pc
        generalize plainW a = Pa at *
        generalize plainW b = Pb at *
        clear h h1 h2 HP
        go_wp2_with (first
          | (with_reducible refine (pa _).mono ?_; rintro e w4 ⟨rfl, rfl⟩)
          | (with_reducible refine (pb _).mono ?_; rintro e w4 ⟨rfl, rfl⟩)
          | (with_reducible refine (pc _).mono ?_; rintro e w4 ⟨rfl, rfl⟩)
          | fail)
        with_reducible refine (m1 _).mono ?_
        rintro e v1 ⟨rfl, hv1⟩
        go_wp2_with fail
        with_reducible refine (m2 _).mono ?_
        rintro e v2 ⟨rfl, hv2⟩
        go_wp2_with fail
        with_reducible refine (m3 _).mono ?_
        rintro e v3 ⟨rfl, hv3⟩
        go_wp2_with fail
        with_reducible refine (m4 _).mono ?_
        rintro e v4 ⟨rfl, hv4⟩
        go_wp2_with fail
        with_reducible refine (m5 _).mono ?_
        rintro e v5 ⟨rfl, hv5⟩
        go_wp2_with fail
        with_reducible refine (m6 _).mono ?_
        rintro e v6 ⟨rfl, hv6⟩
        go_wp2_with (first | (with_reducible refine (pa _).mono ?_; rintro e w4 ⟨rfl, rfl⟩))
        go_ret
        exact ⟨rfl, six_below hB hv1 hv2 hv3 hv4 hv5 hv6⟩

theorem lmedian_calls (a : Int) (hfa : (Lit.int .u64 a).wf = true) (b : Int) (hfb : (Lit.int .u64 b).wf = true) (c : Int) (hfc : (Lit.int .u64 c).wf = true) (w : World) :
    Calls Try.prog 6 #[.int .u64 a, .int .u64 b, .int .u64 c] w fun e w' => e = .returned (.bool true) ∧ Below w.heap.size w w' := by
  obtain ⟨A, rfl, hA⟩ := u64_of_wf hfa
  obtain ⟨B, rfl, hB⟩ := u64_of_wf hfb
  obtain ⟨C, rfl, hC⟩ := u64_of_wf hfc
  exact lmedian_walk A B C w hA hB hC
end Go.Proofs.Ytkpdfjpdjjjfiaa
