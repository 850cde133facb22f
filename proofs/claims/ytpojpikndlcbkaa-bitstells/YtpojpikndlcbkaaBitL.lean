/- The statements' own small functions of layer 2: pick, Same. -/
import Derived.Test.YtpojpikndlcbkaaBitK
import Derived.Test.YtpojpikndlcbkaaBitH
import Derived.Test.YtpojpikndlcbkaaBitG
import Derived.Test.YtpojpikndlcbkaaBitF
import Derived.Deep.QuietTactic
import Derived.BigQuiet
namespace Go.Proofs.Ytpojpikndlcbkaa
open Go.RowKit Go.Shelf

/-- pick: which of n things a raw number speaks of. -/
def pickOf (c n : Int) : Int := (if c < 0 then -(c + 1) else c) % n
theorem pickOf_bd (c n : Int) (hn : 0 < n) : 0 ≤ pickOf c n ∧ pickOf c n < n := by
  unfold pickOf
  exact ⟨Int.emod_nonneg _ (by omega), Int.emod_lt_of_pos _ hn⟩

theorem pick_any (c n : Int) (w : World) (hc : -9223372036854775808 ≤ c ∧ c ≤ 9223372036854775807) (hn : 0 < n) (hn2 : n ≤ 1000000) :
    Calls Try.prog 14 #[.int .i64 c, .int .i64 n] w fun e w' => e = .returned (.int .i64 (pickOf c n)) ∧ w = w' := by
  by_cases h : c < 0
  · have he : pickOf c n = -((c + 1).tmod n) := by
      unfold pickOf
      rw [if_pos h, ← Int.neg_tmod, Int.tmod_eq_emod_of_nonneg (by omega)]
    rw [he]
    clear he
    go_enter Try.func14, Try.ntmps14
    go_wp2
    go_ret
    exact ⟨rfl, rfl⟩
  · have he : pickOf c n = c % n := by unfold pickOf; rw [if_neg h]
    rw [he]
    clear he
    go_enter Try.func14, Try.ntmps14
    go_wp2
    go_ret
    exact ⟨rfl, rfl⟩

theorem take_eq_step {α : Type} (a b : List α) (k : Nat) (h1 : k < a.length) (h2 : k < b.length) (h : a.take k = b.take k) (he : a[k] = b[k]) : a.take (k + 1) = b.take (k + 1) := by
  rw [List.take_succ_eq_append_getElem h1, List.take_succ_eq_append_getElem h2, h, he]

def sameB (n : Int) (a : List Int) (m : Int) (b : List Int) : Bool := decide (n = m) && decide (a = b)

set_option maxHeartbeats 1000000 in
theorem Same_any (x y : Value) (n m : Int) (a b : List Int) (w : World) (hx : Bt w x n a) (hy : Bt w y m b) (h9 : a.length ≤ maxLen) (h9b : b.length ≤ maxLen) :
    Calls Try.prog 17 #[x, y] w fun e w' => e = .returned (.bool (sameB n a m b)) ∧ Below w.heap.size w w' := by
  obtain ⟨A, c, rfl, hc, hv⟩ := hx.form
  obtain ⟨A', c', rfl, hc', hv'⟩ := hy.form
  have h9' : a.length ≤ 9223372036854775807 := h9
  obtain ⟨W0, hW0⟩ : ∃ W0, W0 = (w.alloc (.cells #[.int .i64 n, .slice A a.length c] 24)).alloc (.cells #[.int .i64 m, .slice A' b.length c'] 24) := ⟨_, rfl⟩
  have p0 : RowAt W0 w.heap.size 24 [.int .i64 n, .slice A a.length c] := by rw [hW0]; exact (RowAt.new w 24 #[.int .i64 n, .slice A a.length c]).alloc _
  have p1 : RowAt W0 (w.heap.size + 1) 24 [.int .i64 m, .slice A' b.length c'] := by
    have := RowAt.new (w.alloc (.cells #[.int .i64 n, .slice A a.length c] 24)) 24 #[.int .i64 m, .slice A' b.length c']
    rw [World.size_alloc] at this
    rw [hW0]; exact this
  have hB0 : Below w.heap.size w W0 := by rw [hW0]; exact ((Below.refl _ w).alloc (Nat.le_refl _) _).alloc (by simp) _
  by_cases hnm : n = m
  · subst hnm
    by_cases hl : a.length = b.length
    · have hd : ((a.length : Int) != (b.length : Int)) = false := by simp [hl]
      have HL := Lib.hid hl
      clear hl
      go_enter Try.func17, Try.ntmps17
      go_wp2_with fail
      rw [← hW0]
      clear hW0
      go_loopw [5] (fun i wr => ∃ k : Nat, k ≤ a.length ∧ i = .int .i64 k ∧ a.take k = b.take k ∧ Below W0.heap.size W0 wr) (fun i _ => a.length - (intOf i).toNat)
      case atStart => exact ⟨0, Nat.zero_le _, rfl, by simp, Below.refl _ _⟩
      case round =>
        obtain ⟨k, hk, rfl, hte, hbw⟩ := hrel
        have HT := Lib.hid hte
        clear hte
        have q0 := p0.below hbw p0.lt
        have q1 := p1.below hbw p1.lt
        have c01 := q0.cell 1
        have c11 := q1.cell 1
        simp only [List.getElem?_cons_zero, List.getElem?_cons_succ] at c01 c11
        have hB := hB0.trans (hbw.mono hB0.size)
        by_cases hlt : k < a.length
        · have hlt2 : k < b.length := by have := HL.out; omega
          obtain ⟨ad, rfl, hbl, hcell⟩ := (hv.below hB (Nat.le_refl _)).at_ hlt
          obtain ⟨ad', rfl, hbl', hcell'⟩ := (hv'.below hB (Nat.le_refl _)).at_ hlt2
          have HS := Lib.hid (fun he => take_eq_step a b k hlt hlt2 HT.out he)
          have HG := Lib.hid (fun e : a = b => (show a[k] = b[k] by subst e; rfl))
          generalize hx : a[k] = x at *
          generalize hy : b[k] = y at *
          clear hx hy p0 p1
          go_wp2_with fail
          go_region
          all_goals (try go_wp2)
          · go_ret
            rename_i hne
            have hne2 : ¬ x = y := by simpa using hne
            have hdf : sameB n a n b = false := by
              unfold sameB
              rw [decide_eq_false (fun e => hne2 (HG.out e))]; simp
            exact ⟨by rw [hdf]; rfl, hB.drew⟩
          · rename_i hne
            have he : x = y := by simpa using hne
            go_roundw
            case rel => exact ⟨k + 1, by omega, by go_num, HS.out he, hbw.drew⟩
            case measure => simp [intOf]; omega
        · have hke : k = a.length := by omega
          have he : a = b := by
            have h1 := HT.out
            rw [List.take_of_length_le (by omega), List.take_of_length_le (by have := HL.out; omega)] at h1
            exact h1
          have HE := Lib.hid he
          clear he hke
          go_wp2_with fail
          go_ret
          exact ⟨by rw [show sameB n a n b = true by simp [sameB, HE.out]]; rfl, hB⟩
    · have hd : ((a.length : Int) != (b.length : Int)) = true := by simp; omega
      have he : sameB n a n b = false := by
        unfold sameB
        rw [decide_eq_false (fun e : a = b => hl (by rw [e]))]; simp
      rw [he]
      clear he
      go_enter Try.func17, Try.ntmps17
      go_wp2_with fail
      go_ret
      rw [← hW0]
      exact ⟨rfl, hB0⟩
  · have hd : (n != m) = true := by simpa using hnm
    have he : sameB n a m b = false := by simp [sameB, hnm]
    rw [he]
    clear he
    go_enter Try.func17, Try.ntmps17
    go_wp2_with fail
    go_ret
    rw [← hW0]
    exact ⟨rfl, hB0⟩
end Go.Proofs.Ytpojpikndlcbkaa
