/- The walk of LagTells. -/
import Derived.Test.YtkpdfjpdjjjfiaaLagI
import Derived.Test.YtkpdfjpdjjjfiaaLagY
import Derived.Test.YtkpdfjpdjjjfiaaOctW
import Derived.OpenShut
namespace Go.Proofs.Ytkpdfjpdjjjfiaa
open Go.RowKit Ieee

theorem u64_xor {a b : Nat} (ha : a < 18446744073709551616) (hb : b < 18446744073709551616) : bits .xor .u64 (a : Int) (b : Int) = ((a ^^^ b : Nat) : Int) ∧ a ^^^ b < 18446744073709551616 := by
  have h : a ^^^ b < 18446744073709551616 := Nat.xor_lt_two_pow (n := 64) ha hb
  refine ⟨?_, h⟩
  show IntKind.u64.wrap ((BitVec.ofInt 64 (a : Int) ^^^ BitVec.ofInt 64 (b : Int)).toNat : Int) = _
  rw [BitVec.toNat_xor, ofInt_nat64 ha, ofInt_nat64 hb, wrap_u64_nat h]
theorem five_at (a b c d e t : Nat) (ht : t < 5) : [Value.int .u64 (a : Int), .int .u64 (b : Int), .int .u64 (c : Int), .int .u64 (d : Int), .int .u64 (e : Int)][t]? = some (.int .u64 (([a, b, c, d, e].getD t 0 : Nat) : Int)) := by
  rcases (by omega : t = 0 ∨ t = 1 ∨ t = 2 ∨ t = 3 ∨ t = 4) with rfl | rfl | rfl | rfl | rfl <;> rfl
theorem five_lt {a b c d e : Nat} (ha : a < 18446744073709551616) (hb : b < 18446744073709551616) (hc : c < 18446744073709551616) (hd : d < 18446744073709551616) (he : e < 18446744073709551616) (t : Nat) (ht : t < 5) : [a, b, c, d, e].getD t 0 < 18446744073709551616 := by
  rcases (by omega : t = 0 ∨ t = 1 ∨ t = 2 ∨ t = 3 ∨ t = 4) with rfl | rfl | rfl | rfl | rfl
  · exact ha
  · exact hb
  · exact hc
  · exact hd
  · exact he
theorem ints_at (a b c : Int) (t : Nat) (ht : t < 3) : [Value.int .i64 a, .int .i64 b, .int .i64 c][t]? = some (.int .i64 ([a, b, c].getD t 0)) := by
  rcases (by omega : t = 0 ∨ t = 1 ∨ t = 2) with rfl | rfl | rfl <;> rfl

set_option maxHeartbeats 4000000 in
set_option maxRecDepth 100000 in
theorem ltells_walk (a b c : Nat) (n k : Int) (w : World) (ha : a < 18446744073709551616) (hb : b < 18446744073709551616) (hc : c < 18446744073709551616) (hn : -9223372036854775808 ≤ n ∧ n ≤ 9223372036854775807) (hk : -9223372036854775808 ≤ k ∧ k ≤ 9223372036854775807) :
    Calls Try.prog 3 #[.int .u64 (a : Int), .int .u64 (b : Int), .int .u64 (c : Int), .int .i64 n, .int .i64 k] w fun e w' => e = .returned (.bool true) ∧ Below w.heap.size w w' := by
  obtain ⟨K1, hK1, p1⟩ := pick_calls k 2200 hk (by omega) (by omega)
  obtain ⟨K2, hK2, p2⟩ := pick_calls k 120 hk (by omega) (by omega)
  obtain ⟨x1, hx1⟩ := u64_xor ha (b := 9223372036854775808) (by decide)
  have x1' : bits .xor .u64 (a : Int) 9223372036854775808 = ((a ^^^ 9223372036854775808 : Nat) : Int) := x1
  clear x1
  generalize a ^^^ 9223372036854775808 = a4 at *
  obtain ⟨a5, ha5, x2⟩ : ∃ a5 : Nat, a5 < 18446744073709551616 ∧ IntKind.u64.wrap ((a : Int) + 1) = (a5 : Int) := ⟨(a + 1) % 18446744073709551616, by omega, by show ((a : Int) + 1) % 18446744073709551616 = _; omega⟩
  have HLt := Lib.hid (five_lt ha hb hc hx1 ha5)
  have oN := fun W => Of_any n W
  have rN := fun W => rOf_any n W hn
  generalize ofW n = O at *
  go_enter Try.func3, Try.ntmps3
  go_wp2_with fail
  with_reducible refine (awake_any _).mono ?_
  rintro e w1 ⟨rfl, hB1⟩
  go_wp2_with fail
  go_loopw [30] (fun i wr => Below w.heap.size w wr ∧ RowAt wr w1.heap.size 22 [.int .u64 (a : Int), .int .u64 (b : Int), .int .u64 (c : Int), .int .u64 (a4 : Int), .int .u64 (a5 : Int)] ∧ ∃ t : Nat, t ≤ 5 ∧ i = .int .i64 t) (fun i _ => 5 - (intOf i).toNat)
  case atStart => exact ⟨hB1.alloc hB1.size _, RowAt.new _ _ _, 0, by omega, rfl⟩
  case round =>
    obtain ⟨hB, hR, t, ht, rfl⟩ := hrel
    obtain ⟨wo, hwo⟩ : ∃ wo, wo = wr := ⟨wr, rfl⟩
    subst hwo
    by_cases hlt : t < 5
    · have hcell := (hR.cell t).trans (five_at a b c a4 a5 t hlt)
      have hXl := HLt.out t hlt
      generalize [a, b, c, a4, a5].getD t 0 = X at *
      have t1 := fun W => Ticks_any X W hXl
      have t2 := fun W => rTicks_any X W hXl
      have q1 := fun W => Plain_any X W hXl
      have q2 := fun W => rPlain_any X W hXl
      have l1 := fun W => Less_any X b W hXl hb
      have l2 := fun W => rLess_any X b W hXl hb
      have l3 := fun W => Less_any b X W hb hXl
      have l4 := fun W => rLess_any b X W hb hXl
      have m1 := fun W => Median_any X b c W hXl hb hc
      have m2 := fun W => rMedian_any X b c W hXl hb hc
      have m3 := fun W => Median_any b c X W hb hc hXl
      have m4 := fun W => rMedian_any b c X W hb hc hXl
      have S1 := Lib.hid (fun (p : Int) (W : World) => Scale_any X p W hXl)
      have S2 := Lib.hid (fun (p : Int) (W : World) => rScale_any X p W hXl)
      have hlt' : (t : Int) < 5 := by omega
      go_wp2_with (first
        | (with_reducible refine (t1 _).mono ?_; rintro e w2 ⟨rfl, rfl⟩)
        | (with_reducible refine (t2 _).mono ?_; rintro e w2 ⟨rfl, rfl⟩)
        | (with_reducible refine (q1 _).mono ?_; rintro e w2 ⟨rfl, rfl⟩)
        | (with_reducible refine (q2 _).mono ?_; rintro e w2 ⟨rfl, rfl⟩)
        | (with_reducible refine (l1 _).mono ?_; rintro e w2 ⟨rfl, rfl⟩)
        | (with_reducible refine (l2 _).mono ?_; rintro e w2 ⟨rfl, rfl⟩)
        | (with_reducible refine (l3 _).mono ?_; rintro e w2 ⟨rfl, rfl⟩)
        | (with_reducible refine (l4 _).mono ?_; rintro e w2 ⟨rfl, rfl⟩)
        | (with_reducible refine (p1 _).mono ?_; rintro e w2 ⟨rfl, rfl⟩)
        | (with_reducible refine (p2 _).mono ?_; rintro e w2 ⟨rfl, rfl⟩))
      go_loopw [86] (fun i wr => Below w.heap.size w wr ∧ RowAt wr w1.heap.size 22 [.int .u64 (a : Int), .int .u64 (b : Int), .int .u64 (c : Int), .int .u64 (a4 : Int), .int .u64 (a5 : Int)] ∧ RowAt wr wo.heap.size 3 [.int .i64 k, .int .i64 ((K1 : Int) - 1100), .int .i64 ((K2 : Int) - 60)] ∧ ∃ t : Nat, t ≤ 3 ∧ i = .int .i64 t) (fun i _ => 3 - (intOf i).toNat)
      case atStart => exact ⟨hB.alloc hB.size _, hR.alloc _, RowAt.new _ _ _, 0, by omega, rfl⟩
      case round =>
        obtain ⟨hBi, hRi, hRk, u, hu, rfl⟩ := hrel
        by_cases hlu : u < 3
        · have hcell2 := (hRk.cell u).trans (ints_at k ((K1 : Int) - 1100) ((K2 : Int) - 60) u hlu)
          generalize [k, (K1 : Int) - 1100, (K2 : Int) - 60].getD u 0 = p at *
          have s1 := S1.out p
          have s2 := S2.out p
          have hlu' : (u : Int) < 3 := by omega
          go_wp2_with (first
            | (with_reducible refine (s1 _).mono ?_; rintro e w2 ⟨rfl, rfl⟩)
            | (with_reducible refine (s2 _).mono ?_; rintro e w2 ⟨rfl, rfl⟩))
          go_roundw
          case rel => exact ⟨hBi, hRi, hRk, u + 1, by omega, by first | rfl | go_num⟩
          case measure => simp [intOf]; omega
        · obtain rfl : u = 3 := by omega
          go_wp2_with fail
          with_reducible refine (m1 _).mono ?_
          rintro e v1 ⟨rfl, hv1⟩
          go_wp2_with fail
          with_reducible refine (m2 _).mono ?_
          rintro e v2 ⟨rfl, rfl⟩
          go_wp2_with fail
          with_reducible refine (m3 _).mono ?_
          rintro e v3 ⟨rfl, hv3⟩
          go_wp2_with fail
          with_reducible refine (m4 _).mono ?_
          rintro e v4 ⟨rfl, rfl⟩
          go_wp2_with fail
          have hBv := hBi.trans (hv1.mono hBi.size)
          have hBz := hBv.trans (hv3.mono hBv.size)
          have hRv := (hRi.below hv1 hRi.lt)
          have hRz := (hRv.below hv3 hRv.lt)
          go_roundw
          case rel => exact ⟨hBz, hRz, t + 1, by omega, by first | rfl | go_num⟩
          case measure => simp [intOf]; omega
    · obtain rfl : t = 5 := by omega
      go_wp2_with (first
        | (with_reducible refine (oN _).mono ?_; rintro e w2 ⟨rfl, rfl⟩)
        | (with_reducible refine (rN _).mono ?_; rintro e w2 ⟨rfl, rfl⟩))
      go_ret
      exact ⟨rfl, hB⟩

theorem ltells_calls (a : Int) (hfa : (Lit.int .u64 a).wf = true) (b : Int) (hfb : (Lit.int .u64 b).wf = true) (c : Int) (hfc : (Lit.int .u64 c).wf = true) (d : Int) (hfd : (Lit.int .i64 d).wf = true) (e : Int) (hfe : (Lit.int .i64 e).wf = true) (w : World) :
    Calls Try.prog 3 #[.int .u64 a, .int .u64 b, .int .u64 c, .int .i64 d, .int .i64 e] w fun e w' => e = .returned (.bool true) ∧ Below w.heap.size w w' := by
  obtain ⟨A, rfl, hA⟩ := u64_of_wf hfa
  obtain ⟨B, rfl, hB⟩ := u64_of_wf hfb
  obtain ⟨C, rfl, hC⟩ := u64_of_wf hfc
  exact ltells_walk A B C d e w hA hB hC (i64_of_wf hfd) (i64_of_wf hfe)
end Go.Proofs.Ytkpdfjpdjjjfiaa
