/- The document's own answer for layer 3: Of. -/
import Derived.Test.YtkpdfjpdjjjfiaaLagT
namespace Go.Proofs.Ytkpdfjpdjjjfiaa
open Go.RowKit Ieee

theorem rOf_zero (w : World) : Calls Try.prog 23 #[.int .i64 0] w fun e w' => e = .returned (.int .u64 (ofW 0 : Nat)) ∧ w = w' := by
  have HR : Hid (ofW 0 = 0) := rfl
  go_enter Try.func23, Try.ntmps23
  go_wp2_with fail
  go_ret
  exact ⟨by rw [HR.out]; rfl, rfl⟩

theorem bin_gen (l b : Nat) : (l + 1) * b + b = l * b + 2 * b := by rw [Nat.add_mul, Nat.one_mul, Nat.two_mul, Nat.add_assoc]
theorem bin_step (l : Nat) : (l + 1) * 4503599627370496 + 4503599627370496 = l * 4503599627370496 + 9007199254740992 := bin_gen l 4503599627370496
theorem near_big (s : Bool) {N : Nat} (hL : 52 < N.log2) : double.nearest s N 0 = double.nearest s (rne N (N.log2 - 52)) ((1023 + (N.log2 : Int)) - 1075) ∧ 4503599627370496 ≤ rne N (N.log2 - 52) ∧ rne N (N.log2 - 52) ≤ 9007199254740992 := by
  have h0 : 0 < N := by
    rcases Nat.eq_zero_or_pos N with h | h
    · subst h; simp at hL
    · exact h
  have hb := (Nat.log2_eq_iff (by omega : N ≠ 0)).1 rfl
  have hlo : 4503599627370496 ≤ rne N (N.log2 - 52) := by
    apply le_rne
    have : 4503599627370496 * 2 ^ (N.log2 - 52) = 2 ^ N.log2 := by
      rw [show 4503599627370496 = 2 ^ 52 from rfl, ← Nat.pow_add]; congr 1; omega
    omega
  have hhi : rne N (N.log2 - 52) ≤ 9007199254740992 := by
    apply rne_le
    have : 9007199254740992 * 2 ^ (N.log2 - 52) = 2 ^ (N.log2 + 1) := by
      rw [show 9007199254740992 = 2 ^ 53 from rfl, ← Nat.pow_add]; congr 1; omega
    omega
  refine ⟨?_, hlo, hhi⟩
  rw [nearest_eq s 0 h0]
  have e1 : max (0 + (N.log2 : Int) - 52) (-1074) = (N.log2 : Int) - 52 := by omega
  rw [e1]
  have e2 : keep N (0 - ((N.log2 : Int) - 52)) = rne N (N.log2 - 52) := by
    unfold keep
    have a1 : (0 - ((N.log2 : Int) - 52)).toNat = 0 := by omega
    have a2 : (-(0 - ((N.log2 : Int) - 52))).toNat = N.log2 - 52 := by omega
    rw [a1, a2, Nat.pow_zero, Nat.mul_one]
  rw [e2]
  have e3 : ((N.log2 : Int) - 52 + 1074).toNat = N.log2 + 1022 := by omega
  rw [e3]
  have e4 : (1023 + (N.log2 : Int)) - 1075 = -1074 + ((N.log2 + 1022 : Nat) : Int) := by omega
  rw [e4]
  generalize rne N (N.log2 - 52) = M at *
  by_cases h : M < 9007199254740992
  · rw [nearest_full s _ hlo h]
  · obtain rfl : M = 9007199254740992 := by omega
    have e := nearest_shift s (m := 4503599627370496) 1 (-1074 + ((N.log2 + 1022 + 1 : Nat) : Int)) (by decide)
    have a1 : 4503599627370496 * 2 ^ 1 = 9007199254740992 := by rfl
    have a2 : -1074 + ((N.log2 + 1022 + 1 : Nat) : Int) - ((1 : Nat) : Int) = -1074 + ((N.log2 + 1022 : Nat) : Int) := by omega
    rw [a1, a2] at e
    rw [e, nearest_full s _ (by decide) (by decide), bin_step]
theorem log2_lt_64 {N : Nat} (h0 : 0 < N) (h : N < 18446744073709551616) : N.log2 ≤ 63 := by
  have := (Nat.log2_lt (k := 64) (by omega : N ≠ 0)).2 h
  omega
theorem near_small (s : Bool) {N : Nat} (h0 : 0 < N) (hL : N.log2 ≤ 52) : double.nearest s N 0 = double.nearest s (N * 2 ^ (52 - N.log2)) ((1023 + (N.log2 : Int)) - 1075) ∧ 4503599627370496 ≤ N * 2 ^ (52 - N.log2) ∧ N * 2 ^ (52 - N.log2) < 9007199254740992 := by
  have hb := (Nat.log2_eq_iff (by omega : N ≠ 0)).1 rfl
  have e52 : 2 ^ N.log2 * 2 ^ (52 - N.log2) = 4503599627370496 := by rw [← Nat.pow_add, Nat.add_sub_cancel' hL]
  have e53 : 2 ^ (N.log2 + 1) * 2 ^ (52 - N.log2) = 9007199254740992 := by rw [← Nat.pow_add, Nat.add_right_comm, Nat.add_sub_cancel' hL]
  refine ⟨?_, by rw [← e52]; exact Nat.mul_le_mul_right _ hb.1, by rw [← e53]; exact Nat.mul_lt_mul_of_pos_right hb.2 (Nat.two_pow_pos _)⟩
  rw [← nearest_shift s (52 - N.log2) 0 h0]
  congr 1
  omega
theorem quo_pos {N K : Nat} (h0 : 0 < N) (h : K < N.log2) : 0 < N / 2 ^ (K + 1) := by
  have hb := (Nat.log2_eq_iff (by omega : N ≠ 0)).1 rfl
  have : 2 ^ (K + 1) ≤ 2 ^ N.log2 := Nat.pow_le_pow_right (by omega) (by omega)
  exact Nat.div_pos (by omega) (Nat.two_pow_pos _)
theorem quo_zero {N : Nat} (h0 : 0 < N) : N / 2 ^ (N.log2 + 1) = 0 := by
  have hb := (Nat.log2_eq_iff (by omega : N ≠ 0)).1 rfl
  exact Nat.div_eq_of_lt hb.2

set_option maxHeartbeats 2000000 in
theorem rOf_pos (N : Nat) (w : World) (h0 : 0 < N) (h1 : N ≤ 9223372036854775807) : Calls Try.prog 23 #[.int .i64 (N : Int)] w fun e w' => e = .returned (.int .u64 (ofW (N : Int) : Nat)) ∧ w = w' := by
  have HO : Hid (ofW (N : Int) = plainW (double.nearest false N 0)) := by
    show plainW (double.nearest (decide ((N : Int) < 0)) ((N : Int) : Int).natAbs 0) = _
    rw [decide_eq_false (by omega), Int.natAbs_natCast]
  have hl63 := log2_lt_64 h0 (by omega)
  have NS := fun h => near_small false h0 h
  have NB := fun h => near_big false (N := N) h
  have QP := fun K h => quo_pos (K := K) h0 h
  have QZ := quo_zero h0
  generalize hL : N.log2 = L at *
  have HNS := Lib.hid NS
  have HNB := Lib.hid NB
  have HQP := Lib.hid QP
  have HQZ := Lib.hid QZ
  clear hL NS NB QP QZ
  generalize ofW (N : Int) = R at *
  have f1 : ((N : Int) == 0) = false := by simp; omega
  have f2 : ((N : Int) < 0) = False := eq_false (by omega)
  go_enter Try.func23, Try.ntmps23
  go_wp2_with fail
  go_loop [5] (fun v => ∃ K : Nat, v = .int .i64 K ∧ K ≤ L) (fun v => 63 - (intOf v).toNat)
  case atStart => exact ⟨0, rfl, by omega⟩
  case round =>
    obtain ⟨K, rfl, hK⟩ := hrel
    have p1 : ((2 : Int) ^ (K + 1)) = ((2 ^ (K + 1) : Nat) : Int) := by rw [Int.natCast_pow]; rfl
    have g1 : (N : Int) / 2 ^ (K + 1) = ((N / 2 ^ (K + 1) : Nat) : Int) := by rw [p1, Int.natCast_ediv]
    clear p1
    by_cases c : K < L
    · have q1 := HQP.out K c
      have b1 : ((K : Int) < 63) = True := eq_true (by omega)
      have b1' : (K < 63) = True := eq_true (by omega)
      generalize N / 2 ^ (K + 1) = Q at *
      have b2 : (0 < (Q : Int)) = True := eq_true (by omega)
      have b2' : (0 < Q) = True := eq_true (by omega)
      clear q1
      go_wp2_with fail
      go_round
      case rel => exact ⟨K + 1, by go_num, by omega⟩
      case measure => simp [intOf]; omega
    · obtain rfl : K = L := by omega
      have q0 := HQZ.out
      rw [q0] at g1
      have hz : Hid (((0 : Nat) : Int) = 0) := rfl
      rw [hz.out] at g1
      clear q0 c
      by_cases l52 : K ≤ 52
      · obtain ⟨e1, e2, e3⟩ := HNS.out l52
        have b1 : ((K : Int) < 63) = True := eq_true (by omega)
        have b1' : (K < 63) = True := eq_true (by omega)
        have b3 : ((K : Int) ≤ 52) = True := eq_true (by omega)
        have b3' : (K ≤ 52) = True := eq_true l52
        have hm : ∀ W, Calls Try.prog 32 #[.int .u64 0, .int .u64 ((N * 2 ^ (52 - K) : Nat) : Int), .int .i64 (1023 + (K : Int))] W fun e w' => e = .returned (.int .u64 (plainW (double.nearest false (N * 2 ^ (52 - K)) ((1023 + (K : Int)) - 1075)) : Nat)) ∧ W = w' := fun W => made_any false (N * 2 ^ (52 - K)) (1023 + (K : Int)) W e2 e3 (by omega) (by omega)
        rw [← e1, ← HO.out] at hm
        have g2 : IntKind.u64.wrap ((N : Int) * 2 ^ (52 - K)) = ((N * 2 ^ (52 - K) : Nat) : Int) := by
          have p2 : ((2 : Int) ^ (52 - K)) = ((2 ^ (52 - K) : Nat) : Int) := by rw [Int.natCast_pow]; rfl
          rw [p2, ← Int.natCast_mul]
          exact wrap_u64_nat (by omega)
        generalize N * 2 ^ (52 - K) = m at *
        clear e1 HO
        go_wp2_with (first | (with_reducible refine (hm _).mono ?_; rintro e w2 ⟨rfl, rfl⟩))
        go_ret
        exact ⟨rfl, rfl⟩
      · obtain ⟨e1, e2, e3⟩ := HNB.out (by omega)
        have b3 : ((K : Int) ≤ 52) = False := eq_false (by omega)
        have b3' : (K ≤ 52) = False := eq_false l52
        have hs := fun W => shifted_any N (K - 52) W (by omega) (by omega)
        have p3 : ((K - 52 : Nat) : Int) = (K : Int) - 52 := by omega
        rw [p3] at hs
        clear p3
        by_cases t : rne N (K - 52) < 9007199254740992
        · have hm : ∀ W, Calls Try.prog 32 #[.int .u64 0, .int .u64 ((rne N (K - 52) : Nat) : Int), .int .i64 (1023 + (K : Int))] W fun e w' => e = .returned (.int .u64 (plainW (double.nearest false (rne N (K - 52)) ((1023 + (K : Int)) - 1075)) : Nat)) ∧ W = w' := fun W => made_any false (rne N (K - 52)) (1023 + (K : Int)) W e2 t (by omega) (by omega)
          rw [← e1, ← HO.out] at hm
          generalize rne N (K - 52) = m at *
          clear e1 HO l52
          by_cases l63 : K < 63
          · have b1 : ((K : Int) < 63) = True := eq_true (by omega)
            have b1' : (K < 63) = True := eq_true l63
            go_wp2_with (first | (with_reducible refine (hm _).mono ?_; rintro e w2 ⟨rfl, rfl⟩) | (with_reducible refine (hs _).mono ?_; rintro e w2 ⟨rfl, rfl⟩))
            go_ret
            exact ⟨rfl, rfl⟩
          · have b1 : ((K : Int) < 63) = False := eq_false (by omega)
            have b1' : (K < 63) = False := eq_false l63
            go_wp2_with (first | (with_reducible refine (hm _).mono ?_; rintro e w2 ⟨rfl, rfl⟩) | (with_reducible refine (hs _).mono ?_; rintro e w2 ⟨rfl, rfl⟩))
            go_ret
            exact ⟨rfl, rfl⟩
        · have t2 : rne N (K - 52) = 9007199254740992 := by omega
          rw [t2] at e1
          have hs2 : ∀ W, Calls Try.prog 34 #[.int .u64 (N : Int), .int .i64 ((K : Int) - 52)] W fun e w' => e = .returned (.int .u64 9007199254740992) ∧ W = w' := by rw [t2] at hs; exact hs
          have hm : ∀ W, Calls Try.prog 32 #[.int .u64 0, .int .u64 9007199254740992, .int .i64 (1023 + (K : Int))] W fun e w' => e = .returned (.int .u64 (plainW (double.nearest false 9007199254740992 ((1023 + (K : Int)) - 1075)) : Nat)) ∧ W = w' := fun W => made_top false (1023 + (K : Int)) W (by omega) (by omega)
          rw [← e1, ← HO.out] at hm
          clear e1 e2 e3 t t2 hs HO l52
          by_cases l63 : K < 63
          · have b1 : ((K : Int) < 63) = True := eq_true (by omega)
            have b1' : (K < 63) = True := eq_true l63
            go_wp2_with (first | (with_reducible refine (hm _).mono ?_; rintro e w2 ⟨rfl, rfl⟩) | (with_reducible refine (hs2 _).mono ?_; rintro e w2 ⟨rfl, rfl⟩))
            go_ret
            exact ⟨rfl, rfl⟩
          · have b1 : ((K : Int) < 63) = False := eq_false (by omega)
            have b1' : (K < 63) = False := eq_false l63
            go_wp2_with (first | (with_reducible refine (hm _).mono ?_; rintro e w2 ⟨rfl, rfl⟩) | (with_reducible refine (hs2 _).mono ?_; rintro e w2 ⟨rfl, rfl⟩))
            go_ret
            exact ⟨rfl, rfl⟩

set_option maxHeartbeats 2000000 in
theorem rOf_neg (N : Nat) (w : World) (h0 : 0 < N) (h1 : N ≤ 9223372036854775808) : Calls Try.prog 23 #[.int .i64 (-(N : Int))] w fun e w' => e = .returned (.int .u64 (ofW (-(N : Int)) : Nat)) ∧ w = w' := by
  have HO : Hid (ofW (-(N : Int)) = plainW (double.nearest true N 0)) := by
    show plainW (double.nearest (decide ((-(N : Int)) < 0)) ((-(N : Int)) : Int).natAbs 0) = _
    rw [decide_eq_true (by omega), Int.natAbs_neg, Int.natAbs_natCast]
  have hl63 := log2_lt_64 h0 (by omega)
  have NS := fun h => near_small true h0 h
  have NB := fun h => near_big true (N := N) h
  have QP := fun K h => quo_pos (K := K) h0 h
  have QZ := quo_zero h0
  generalize hL : N.log2 = L at *
  have HNS := Lib.hid NS
  have HNB := Lib.hid NB
  have HQP := Lib.hid QP
  have HQZ := Lib.hid QZ
  clear hL NS NB QP QZ
  generalize ofW (-(N : Int)) = R at *
  have f1 : ((-(N : Int)) == 0) = false := by simp; omega
  have f2 : ((-(N : Int)) < 0) = True := eq_true (by omega)
  have f2' : (0 < N) = True := eq_true (by omega)
  have f3 : (-(-(N : Int) + 1) + 1) = (N : Int) := by omega
  go_enter Try.func23, Try.ntmps23
  go_wp2_with fail
  go_loop [5] (fun v => ∃ K : Nat, v = .int .i64 K ∧ K ≤ L) (fun v => 63 - (intOf v).toNat)
  case atStart => exact ⟨0, rfl, by omega⟩
  case round =>
    obtain ⟨K, rfl, hK⟩ := hrel
    have p1 : ((2 : Int) ^ (K + 1)) = ((2 ^ (K + 1) : Nat) : Int) := by rw [Int.natCast_pow]; rfl
    have g1 : (N : Int) / 2 ^ (K + 1) = ((N / 2 ^ (K + 1) : Nat) : Int) := by rw [p1, Int.natCast_ediv]
    clear p1
    by_cases c : K < L
    · have q1 := HQP.out K c
      have b1 : ((K : Int) < 63) = True := eq_true (by omega)
      have b1' : (K < 63) = True := eq_true (by omega)
      generalize N / 2 ^ (K + 1) = Q at *
      have b2 : (0 < (Q : Int)) = True := eq_true (by omega)
      have b2' : (0 < Q) = True := eq_true (by omega)
      clear q1
      go_wp2_with fail
      go_round
      case rel => exact ⟨K + 1, by go_num, by omega⟩
      case measure => simp [intOf]; omega
    · obtain rfl : K = L := by omega
      have q0 := HQZ.out
      rw [q0] at g1
      have hz : Hid (((0 : Nat) : Int) = 0) := rfl
      rw [hz.out] at g1
      clear q0 c
      by_cases l52 : K ≤ 52
      · obtain ⟨e1, e2, e3⟩ := HNS.out l52
        have b1 : ((K : Int) < 63) = True := eq_true (by omega)
        have b1' : (K < 63) = True := eq_true (by omega)
        have b3 : ((K : Int) ≤ 52) = True := eq_true (by omega)
        have b3' : (K ≤ 52) = True := eq_true l52
        have hm : ∀ W, Calls Try.prog 32 #[.int .u64 9223372036854775808, .int .u64 ((N * 2 ^ (52 - K) : Nat) : Int), .int .i64 (1023 + (K : Int))] W fun e w' => e = .returned (.int .u64 (plainW (double.nearest true (N * 2 ^ (52 - K)) ((1023 + (K : Int)) - 1075)) : Nat)) ∧ W = w' := fun W => made_any true (N * 2 ^ (52 - K)) (1023 + (K : Int)) W e2 e3 (by omega) (by omega)
        rw [← e1, ← HO.out] at hm
        have g2 : IntKind.u64.wrap ((N : Int) * 2 ^ (52 - K)) = ((N * 2 ^ (52 - K) : Nat) : Int) := by
          have p2 : ((2 : Int) ^ (52 - K)) = ((2 ^ (52 - K) : Nat) : Int) := by rw [Int.natCast_pow]; rfl
          rw [p2, ← Int.natCast_mul]
          exact wrap_u64_nat (by omega)
        generalize N * 2 ^ (52 - K) = m at *
        clear e1 HO
        go_wp2_with (first | (with_reducible refine (hm _).mono ?_; rintro e w2 ⟨rfl, rfl⟩))
        go_ret
        exact ⟨rfl, rfl⟩
      · obtain ⟨e1, e2, e3⟩ := HNB.out (by omega)
        have b3 : ((K : Int) ≤ 52) = False := eq_false (by omega)
        have b3' : (K ≤ 52) = False := eq_false l52
        have hs := fun W => shifted_any N (K - 52) W (by omega) (by omega)
        have p3 : ((K - 52 : Nat) : Int) = (K : Int) - 52 := by omega
        rw [p3] at hs
        clear p3
        by_cases t : rne N (K - 52) < 9007199254740992
        · have hm : ∀ W, Calls Try.prog 32 #[.int .u64 9223372036854775808, .int .u64 ((rne N (K - 52) : Nat) : Int), .int .i64 (1023 + (K : Int))] W fun e w' => e = .returned (.int .u64 (plainW (double.nearest true (rne N (K - 52)) ((1023 + (K : Int)) - 1075)) : Nat)) ∧ W = w' := fun W => made_any true (rne N (K - 52)) (1023 + (K : Int)) W e2 t (by omega) (by omega)
          rw [← e1, ← HO.out] at hm
          generalize rne N (K - 52) = m at *
          clear e1 HO l52
          by_cases l63 : K < 63
          · have b1 : ((K : Int) < 63) = True := eq_true (by omega)
            have b1' : (K < 63) = True := eq_true l63
            go_wp2_with (first | (with_reducible refine (hm _).mono ?_; rintro e w2 ⟨rfl, rfl⟩) | (with_reducible refine (hs _).mono ?_; rintro e w2 ⟨rfl, rfl⟩))
            go_ret
            exact ⟨rfl, rfl⟩
          · have b1 : ((K : Int) < 63) = False := eq_false (by omega)
            have b1' : (K < 63) = False := eq_false l63
            go_wp2_with (first | (with_reducible refine (hm _).mono ?_; rintro e w2 ⟨rfl, rfl⟩) | (with_reducible refine (hs _).mono ?_; rintro e w2 ⟨rfl, rfl⟩))
            go_ret
            exact ⟨rfl, rfl⟩
        · have t2 : rne N (K - 52) = 9007199254740992 := by omega
          rw [t2] at e1
          have hs2 : ∀ W, Calls Try.prog 34 #[.int .u64 (N : Int), .int .i64 ((K : Int) - 52)] W fun e w' => e = .returned (.int .u64 9007199254740992) ∧ W = w' := by rw [t2] at hs; exact hs
          have hm : ∀ W, Calls Try.prog 32 #[.int .u64 9223372036854775808, .int .u64 9007199254740992, .int .i64 (1023 + (K : Int))] W fun e w' => e = .returned (.int .u64 (plainW (double.nearest true 9007199254740992 ((1023 + (K : Int)) - 1075)) : Nat)) ∧ W = w' := fun W => made_top true (1023 + (K : Int)) W (by omega) (by omega)
          rw [← e1, ← HO.out] at hm
          clear e1 e2 e3 t t2 hs HO l52
          by_cases l63 : K < 63
          · have b1 : ((K : Int) < 63) = True := eq_true (by omega)
            have b1' : (K < 63) = True := eq_true l63
            go_wp2_with (first | (with_reducible refine (hm _).mono ?_; rintro e w2 ⟨rfl, rfl⟩) | (with_reducible refine (hs2 _).mono ?_; rintro e w2 ⟨rfl, rfl⟩))
            go_ret
            exact ⟨rfl, rfl⟩
          · have b1 : ((K : Int) < 63) = False := eq_false (by omega)
            have b1' : (K < 63) = False := eq_false l63
            go_wp2_with (first | (with_reducible refine (hm _).mono ?_; rintro e w2 ⟨rfl, rfl⟩) | (with_reducible refine (hs2 _).mono ?_; rintro e w2 ⟨rfl, rfl⟩))
            go_ret
            exact ⟨rfl, rfl⟩

theorem rOf_any (n : Int) (w : World) (hn : -9223372036854775808 ≤ n ∧ n ≤ 9223372036854775807) : Calls Try.prog 23 #[.int .i64 n] w fun e w' => e = .returned (.int .u64 (ofW n : Nat)) ∧ w = w' := by
  rcases Int.lt_trichotomy n 0 with h | h | h
  · obtain ⟨N, rfl⟩ : ∃ N : Nat, n = -(N : Int) := ⟨n.natAbs, by omega⟩
    exact rOf_neg N w (by omega) (by omega)
  · subst h; exact rOf_zero w
  · obtain ⟨N, rfl⟩ := Int.eq_ofNat_of_zero_le (Int.le_of_lt h)
    exact rOf_pos N w (by omega) (by omega)
end Go.Proofs.Ytkpdfjpdjjjfiaa
