/- The statements' own small functions: pick, Texts. -/
import Derived.Test.YtagfbbflpjjbfaaOctI
import Derived.Deep.QuietTactic
import Derived.BigQuiet
import Derived.Laws.StructEq
import Derived.WideShapes
namespace Go.Proofs.Ytagfbbflpjjbfaa
open Go.RowKit

/-- pick: which of n things a raw number speaks of. -/
def pickOf (c n : Int) : Int := (if c < 0 then -(c + 1) else c) % n
theorem pickOf_bd (c n : Int) (hn : 0 < n) : 0 ≤ pickOf c n ∧ pickOf c n < n := by
  unfold pickOf
  exact ⟨Int.emod_nonneg _ (by omega), Int.emod_lt_of_pos _ hn⟩

theorem pick_any (c n : Int) (w : World) (hc : -9223372036854775808 ≤ c ∧ c ≤ 9223372036854775807) (hn : 0 < n) (hn2 : n ≤ 1000000) :
    Calls Try.prog 10 #[.int .i64 c, .int .i64 n] w fun e w' => e = .returned (.int .i64 (pickOf c n)) ∧ w = w' := by
  by_cases h : c < 0
  · have he : pickOf c n = -((c + 1).tmod n) := by
      unfold pickOf
      rw [if_pos h, ← Int.neg_tmod, Int.tmod_eq_emod_of_nonneg (by omega)]
    rw [he]
    clear he
    go_enter Try.func10, Try.ntmps10
    go_wp2
    go_ret
    exact ⟨rfl, rfl⟩
  · have he : pickOf c n = c % n := by unfold pickOf; rw [if_neg h]
    rw [he]
    clear he
    go_enter Try.func10, Try.ntmps10
    go_wp2
    go_ret
    exact ⟨rfl, rfl⟩

theorem take_eq_step {α : Type} (a b : List α) (k : Nat) (h1 : k < a.length) (h2 : k < b.length) (h : a.take k = b.take k) (he : a[k] = b[k]) : a.take (k + 1) = b.take (k + 1) := by
  rw [List.take_succ_eq_append_getElem h1, List.take_succ_eq_append_getElem h2, h, he]

theorem bytes_of_toList {x y : ByteArray} (h : x.toList = y.toList) : x = y := by
  rw [ByteArray.toList_eq, ByteArray.toList_eq] at h
  exact WideShapes.bytes_inj h

set_option maxHeartbeats 400000 in
theorem Texts_any (sa sb : List ByteArray) (va vb : Value) (w : World) (ha : Strs w w.heap.size va sa) (hb : Strs w w.heap.size vb sb) (h9 : sa.length ≤ 1000000) :
    Calls Try.prog 19 #[va, vb] w fun e w' => e = .returned (.bool (decide (sa = sb))) ∧ Below w.heap.size w w' := by
  obtain ⟨A, c, rfl, hc⟩ := ha.form
  obtain ⟨A', c', rfl, hc'⟩ := hb.form
  by_cases hl : sa.length = sb.length
  · have hd : ((sa.length : Int) != (sb.length : Int)) = false := by simp [hl]
    have HL := Lib.hid hl
    clear hl
    go_enter Try.func19, Try.ntmps19
    go_wp2_with fail
    go_loopw [5] (fun i wr => ∃ k : Nat, k ≤ sa.length ∧ i = .int .i64 k ∧ sa.take k = sb.take k ∧ Below w.heap.size w wr) (fun i _ => sa.length - (intOf i).toNat)
    case atStart => exact ⟨0, Nat.zero_le _, rfl, by simp, Below.refl _ _⟩
    case round =>
      obtain ⟨k, hk, rfl, hte, hbw⟩ := hrel
      have HT := Lib.hid hte
      clear hte
      by_cases hlt : k < sa.length
      · have hlt2 : k < sb.length := by have := HL.out; omega
        obtain ⟨ad, rfl, hbl, hcell⟩ := (ha.below hbw (Nat.le_refl _)).at_ hlt
        obtain ⟨ad', rfl, hbl', hcell'⟩ := (hb.below hbw (Nat.le_refl _)).at_ hlt2
        generalize hx : sa[k] = x at *
        generalize hy : sb[k] = y at *
        have HX := Lib.hid hx
        have HY := Lib.hid hy
        clear hx hy
        go_wp2_with fail
        go_region
        all_goals (try go_wp2)
        · go_ret
          have hne : x ≠ y := by
            intro e; subst e
            simp_all
          have hdf : decide (sa = sb) = false := decide_eq_false (by intro e; subst e; exact hne (HX.out.symm.trans HY.out))
          exact ⟨by rw [hdf]; rfl, hbw.drew⟩
        · have he : x = y := by
            have h0 : (!x.toList == y.toList) = false := by assumption
            exact bytes_of_toList (by simpa using h0)
          go_roundw
          case rel => exact ⟨k + 1, by omega, by go_num, take_eq_step _ _ _ hlt hlt2 HT.out (by rw [HX.out, HY.out]; exact he), hbw.drew⟩
          case measure => simp [intOf]; omega
      · have hke : k = sa.length := by omega
        have he : sa = sb := by
          have h1 := HT.out
          rw [List.take_of_length_le (by omega), List.take_of_length_le (by have := HL.out; omega)] at h1
          exact h1
        have HE := Lib.hid he
        clear he hke
        go_wp2_with fail
        go_ret
        exact ⟨by rw [decide_eq_true HE.out]; rfl, hbw⟩
  · have hd : ((sa.length : Int) != (sb.length : Int)) = true := by simp; omega
    have he : decide (sa = sb) = false := by simp; intro e; subst e; exact hl rfl
    rw [he]
    clear he
    go_enter Try.func19, Try.ntmps19
    go_wp2_with fail
    go_ret
    exact ⟨rfl, Below.refl _ _⟩
end Go.Proofs.Ytagfbbflpjjbfaa
