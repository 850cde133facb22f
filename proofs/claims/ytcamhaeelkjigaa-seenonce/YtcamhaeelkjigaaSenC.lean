/- The document's own answers of layer 13: Same, Has. -/
import Derived.Test.YtcamhaeelkjigaaSenB
namespace Go.Proofs.Ytcamhaeelkjigaa
open Go.RowKit

set_option maxHeartbeats 1000000 in
theorem rSameM_any (x y : Value) (a b : List Mk) (w : World) (hx : Mks w w.heap.size x a) (hy : Mks w w.heap.size y b) (h9 : a.length ≤ maxLen) (h9b : b.length ≤ maxLen) :
    Calls Try.prog 14 #[x, y] w fun e w' => e = .returned (.bool (decide (a = b))) ∧ Below w.heap.size w w' := by
  obtain ⟨A, c, rfl, hc⟩ := hx.form
  obtain ⟨B, d, rfl, hd⟩ := hy.form
  have h9' : a.length ≤ 9223372036854775807 := h9
  have h9b' : b.length ≤ 9223372036854775807 := h9b
  by_cases hl : a.length = b.length
  · have hl1 : ((a.length : Int) != (b.length : Int)) = false := by simp [hl]
    have HL := Lib.hid hl
    clear hl
    go_enter Try.func14, Try.ntmps14
    go_wp2_with fail
    go_loopw [5] (fun i wr => ∃ k : Nat, k ≤ a.length ∧ i = .int .i64 k ∧ a.take k = b.take k ∧ Below w.heap.size w wr) (fun i _ => a.length - (intOf i).toNat)
    case atStart => exact ⟨0, Nat.zero_le _, rfl, rfl, Below.refl _ _⟩
    case round =>
      obtain ⟨k, hk, rfl, htk, hb⟩ := hrel
      have HK := Lib.hid htk
      clear htk
      by_cases hlt : k < a.length
      · have hlt2 : k < b.length := by have := HL.out; omega
        have g1 : ((k : Int) < (a.length : Int)) = True := eq_true (by omega)
        have g2 : ((k : Int) < (b.length : Int)) = True := eq_true (by omega)
        obtain ⟨ad, rfl, _, e1, e2, e3⟩ := (hx.below hb (Nat.le_refl _)).at_ hlt
        obtain ⟨bd, rfl, _, e4, e5, e6⟩ := (hy.below hb (Nat.le_refl _)).at_ hlt2
        have HN := Lib.hid (show a[k] ≠ b[k] → decide (a = b) = false from fun h0 => decide_eq_false fun e => h0 (by subst e; rfl))
        have HT := Lib.hid (show a[k] = b[k] → a.take (k + 1) = b.take (k + 1) from fun h0 => by
          rw [List.take_succ_eq_append_getElem hlt, List.take_succ_eq_append_getElem hlt2, HK.out, h0])
        generalize a[k] = p at *
        generalize b[k] = q at *
        obtain ⟨p1, p2, p3⟩ := p
        obtain ⟨q1, q2, q3⟩ := q
        simp only at e1 e2 e3 e4 e5 e6
        by_cases h1 : p1 = q1
        · subst h1
          by_cases h2 : p2 = q2
          · subst h2
            by_cases h3 : p3 = q3
            · subst h3
              have ht1 := HT.out rfl
              go_wp2_with fail
              go_region
              go_wp2_with fail
              go_roundw
              case rel => exact ⟨k + 1, by omega, by go_num, ht1, hb.drew⟩
              case measure => simp [intOf]; omega
            · have n3 : ((p3 : Int) = (q3 : Int)) = False := eq_false h3
              have HN2 := Lib.hid (HN.out (by simp [h3]))
              clear h3 HN HT
              go_wp2_with fail
              go_region
              go_wp2_with fail
              go_ret
              refine ⟨?_, hb.drew⟩
              rw [HN2.out]
              rfl
          · have n2 : ((p2 : Int) = (q2 : Int)) = False := eq_false h2
            have HN2 := Lib.hid (HN.out (by simp [h2]))
            clear h2 HN HT
            go_wp2_with fail
            go_region
            go_wp2_with fail
            go_ret
            refine ⟨?_, hb.drew⟩
            rw [HN2.out]
            rfl
        · have n1 : ((p1 : Int) = (q1 : Int)) = False := eq_false h1
          have HN2 := Lib.hid (HN.out (by simp [h1]))
          clear h1 HN HT
          go_wp2_with fail
          go_region
          go_wp2_with fail
          go_ret
          refine ⟨?_, hb.drew⟩
          rw [HN2.out]
          rfl
      · go_wp2_with fail
        go_ret
        refine ⟨?_, hb⟩
        have hab : a = b := by
          have h1 := HK.out
          have h2 := HL.out
          rw [List.take_of_length_le (by omega), List.take_of_length_le (by omega)] at h1
          exact h1
        rw [decide_eq_true hab]
        rfl
  · have hl1 : ((a.length : Int) != (b.length : Int)) = true := by rw [bne_iff_ne]; omega
    rw [show decide (a = b) = false from decide_eq_false fun e => hl (by rw [e])]
    clear hl
    go_enter Try.func14, Try.ntmps14
    go_wp2_with fail
    go_ret
    exact ⟨rfl, Below.refl _ _⟩

abbrev hasMB (l : List Mk) (m : Mk) : Bool := decide (RightM l ∧ m ∈ l)
set_option maxHeartbeats 1000000 in
theorem rHas_any (v : Value) (l : List Mk) (q1 q2 q3 : Int) (w : World) (hv : Mks w w.heap.size v l) (h9 : l.length ≤ maxLen) :
    Calls Try.prog 16 #[v, .agg #[.int .i64 q1, .int .i64 q2, .int .i64 q3]] w fun e w' => e = .returned (.bool (hasMB l (q1, q2, q3))) ∧ Below w.heap.size w w' := by
  obtain ⟨A, c, rfl, hc⟩ := hv.form
  have h9' : l.length ≤ 9223372036854775807 := h9
  have hA := (Below.refl w.heap.size w).alloc (Nat.le_refl _) (.cells #[.int .i64 q1, .int .i64 q2, .int .i64 q3] 25)
  have q8 := RowAt.new w 25 #[.int .i64 q1, .int .i64 q2, .int .i64 q3]
  have cR := fun W (h : Mks W W.heap.size (.slice A l.length c) l) => rRight_any _ l W h h9
  have hv2 := hv.on hA
  have HM := Lib.hid (fun (h : rightMB l = false) => (show hasMB l (q1, q2, q3) = false from decide_eq_false fun h' => absurd h'.1 (of_decide_eq_false h)))
  have HY := Lib.hid (fun (h : rightMB l = true) (hm : (q1, q2, q3) ∈ l) => (show hasMB l (q1, q2, q3) = true from decide_eq_true ⟨of_decide_eq_true h, hm⟩))
  have HZ := Lib.hid (fun (hm : (q1, q2, q3) ∉ l) => (show hasMB l (q1, q2, q3) = false from decide_eq_false fun h' => hm h'.2))
  generalize rightMB l = rb at *
  go_enter Try.func16, Try.ntmps16
  go_upto_region 1 with (fail)
  generalize w.alloc (.cells #[.int .i64 q1, .int .i64 q2, .int .i64 q3] 25) = w1 at *
  go_wp2_with fail
  with_reducible refine (cR _ hv2).mono ?_
  rintro e w2 ⟨rfl, hb2⟩
  replace q8 := q8.on hb2
  replace hv2 := hv2.on hb2
  replace hA := hA.trans (hb2.mono hA.size)
  clear hb2 cR hv
  cases rb
  · have HF := Lib.hid (HM.out rfl)
    clear HM HY HZ
    go_wp2_with fail
    go_loopw [6] (fun i wr => i = .int .i64 0 ∧ Below w2.heap.size w2 wr) (fun _ _ => 0)
    case atStart => exact ⟨rfl, Below.refl _ _⟩
    case round =>
      obtain ⟨rfl, hb⟩ := hrel
      go_wp2_with fail
      go_ret
      exact ⟨by rw [HF.out]; rfl, hA.trans (hb.mono hA.size)⟩
  · have HYY := Lib.hid (HY.out rfl)
    clear HM HY
    go_wp2_with fail
    go_loopw [6] (fun i wr => ∃ k : Nat, k ≤ l.length ∧ i = .int .i64 k ∧ (q1, q2, q3) ∉ l.take k ∧ Below w2.heap.size w2 wr) (fun i _ => l.length - (intOf i).toNat)
    case atStart => exact ⟨0, Nat.zero_le _, rfl, by simp, Below.refl _ _⟩
    case round =>
      obtain ⟨k, hk, rfl, htk, hb⟩ := hrel
      have HK := Lib.hid htk
      clear htk
      have hbA := hA.trans (hb.mono hA.size)
      by_cases hlt : k < l.length
      · have g1 : ((k : Int) < (l.length : Int)) = True := eq_true (by omega)
        have g2 : (k < l.length) = True := eq_true hlt
        obtain ⟨ad, rfl, _, e1, e2, e3⟩ := (hv2.below hb (Nat.le_refl _)).at_ hlt
        have q9 := q8.on hb
        have f0 := q9.cell 0
        have f1 := q9.cell 1
        have f2 := q9.cell 2
        simp only [List.getElem?_cons_zero, List.getElem?_cons_succ] at f0 f1 f2
        have HT := Lib.hid (show l[k] = (q1, q2, q3) → (q1, q2, q3) ∈ l from fun h0 => by rw [← h0]; exact List.getElem_mem hlt)
        have HN := Lib.hid (show l[k] ≠ (q1, q2, q3) → (q1, q2, q3) ∉ l.take (k + 1) from fun h0 => by
          rw [List.take_succ_eq_append_getElem hlt, List.mem_append, List.mem_singleton]
          rintro (h | h)
          · exact HK.out h
          · exact h0 h.symm)
        generalize l[k] = p at *
        obtain ⟨p1, p2, p3⟩ := p
        simp only at e1 e2 e3
        by_cases h1 : p1 = q1
        · subst h1
          by_cases h2 : p2 = q2
          · subst h2
            by_cases h3 : p3 = q3
            · subst h3
              have HF := Lib.hid (HYY.out (HT.out rfl))
              clear HT HN HK HZ
              go_wp2_with fail
              go_region
              go_wp2_with fail
              go_ret
              refine ⟨?_, hbA.drew⟩
              rw [HF.out]
              rfl
            · have n3 : ((p3 : Int) = (q3 : Int)) = False := eq_false h3
              have HN2 := Lib.hid (HN.out (by simp [h3]))
              clear h3 HN HT
              go_wp2_with fail
              go_region
              go_wp2_with fail
              go_roundw
              case rel => exact ⟨k + 1, by omega, by go_num, HN2.out, hb.drew⟩
              case measure => simp [intOf]; omega
          · have n2 : ((p2 : Int) = (q2 : Int)) = False := eq_false h2
            have HN2 := Lib.hid (HN.out (by simp [h2]))
            clear h2 HN HT
            go_wp2_with fail
            go_region
            go_wp2_with fail
            go_roundw
            case rel => exact ⟨k + 1, by omega, by go_num, HN2.out, hb.drew⟩
            case measure => simp [intOf]; omega
        · have n1 : ((p1 : Int) = (q1 : Int)) = False := eq_false h1
          have HN2 := Lib.hid (HN.out (by simp [h1]))
          clear h1 HN HT
          go_wp2_with fail
          go_region
          go_wp2_with fail
          go_roundw
          case rel => exact ⟨k + 1, by omega, by go_num, HN2.out, hb.drew⟩
          case measure => simp [intOf]; omega
      · obtain rfl : k = l.length := by omega
        have HF := Lib.hid (HZ.out (by have h := HK.out; rwa [List.take_length] at h))
        go_wp2_with fail
        go_ret
        exact ⟨by rw [HF.out]; rfl, hbA⟩
end Go.Proofs.Ytcamhaeelkjigaa
