/- The document's own answers of layer 2: Right, on, bytes, set. -/
import Derived.Test.YtpojpikndlcbkaaBitR
namespace Go.Proofs.Ytpojpikndlcbkaa
open Go.RowKit Go.Shelf

theorem rise_at (n : Int) (on : List Int) (k : Nat) (hk : k < on.length) (last : Int) : risesFrom n last (on.drop k) = (decide (last < on[k]) && decide (on[k] < n) && risesFrom n on[k] (on.drop (k + 1))) := risesFrom_take_step n on k hk last

theorem HP1 {on : List Int} {k : Nat} {y : Int} (h : on[k]? = some y) : Hid (∀ j, k + 1 = j + 1 → on[j]? = some y) := fun j hj => by
  obtain rfl : k = j := by omega
  exact h

set_option maxHeartbeats 1000000 in
theorem rRight_any (x : Value) (n : Int) (on : List Int) (w : World) (hx : Bt w x n on) (h9 : on.length ≤ maxLen) :
    Calls Try.prog 11 #[x] w fun e w' => e = .returned (.bool (rightB n on)) ∧ Below w.heap.size w w' := by
  obtain ⟨A, c, rfl, hc, hv⟩ := hx.form
  obtain ⟨W0, hW0⟩ : ∃ W0, W0 = w.alloc (.cells #[.int .i64 n, .slice A on.length c] 24) := ⟨_, rfl⟩
  have hb0 : Below w.heap.size w W0 := by rw [hW0]; exact (Below.refl _ w).alloc (Nat.le_refl _) _
  have r0 : RowAt W0 w.heap.size 24 [.int .i64 n, .slice A on.length c] := by rw [hW0]; exact RowAt.new w 24 #[.int .i64 n, .slice A on.length c]
  have hv0 := hv.on hb0
  have h9' : on.length ≤ 9223372036854775807 := h9
  by_cases hf : fitsB n = true
  · obtain ⟨hn0, hn1⟩ := (fitsB_iff n).1 hf
    go_enter Try.func11, Try.ntmps11
    go_wp2_with fail
    rw [← hW0]
    clear hW0
    go_loopw [3] (fun i wr => ∃ (k : Nat) (last : Int), k ≤ on.length ∧ i = .int .i64 k ∧ Hid (rightB n on = risesFrom n last (on.drop k)) ∧ -1 ≤ last ∧ (k = 0 → last = -1) ∧ Hid (∀ j, k = j + 1 → on[j]? = some last) ∧ Below W0.heap.size W0 wr) (fun i _ => on.length - (intOf i).toNat)
    case atStart => exact ⟨0, -1, Nat.zero_le _, rfl, by simp [rightB, hf, Hid], by omega, fun _ => rfl, fun j hj => by omega, Below.refl _ _⟩
    case round =>
      obtain ⟨k, last, hk, rfl, HE, hl1, hl0, HP, hbw⟩ := hrel
      have q0 := r0.on hbw
      have hvq := hv0.on hbw
      obtain ⟨c0, c1⟩ := q0.two
      have hB := hb0.trans (hbw.mono hb0.size)
      by_cases hlt : k < on.length
      · obtain ⟨ad, rfl, hbl, hcell⟩ := hvq.at_ hlt
        have HS := Lib.hid (rise_at n on k hlt last)
        have HK : Hid (on[k]? = some on[k]) := List.getElem?_eq_getElem hlt
        generalize hy : on[k] = y at *
        clear hy
        by_cases c2 : y < 0
        · have d1 : decide (y < 0) = true := by simpa using c2
          have hfalse : rightB n on = false := by rw [HE.out, HS.out]; simp; intros; omega
          have HF := Lib.hid hfalse
          clear hfalse
          go_wp2_with fail
          go_quiet (fail)
          go_wp2_with fail
          go_ret
          exact ⟨by rw [HF.out]; rfl, ⟨hB.os, hB.tape, hB.output, hB.size, hB.block⟩⟩
        · have d1 : decide (y < 0) = false := by simpa using c2
          by_cases c3 : n ≤ y
          · have d2 : decide (n ≤ y) = true := by simpa using c3
            have hfalse : rightB n on = false := by rw [HE.out, HS.out]; simp; intros; omega
            have HF := Lib.hid hfalse
            clear hfalse
            go_wp2_with fail
            go_quiet (fail)
            go_wp2_with fail
            go_ret
            exact ⟨by rw [HF.out]; rfl, ⟨hB.os, hB.tape, hB.output, hB.size, hB.block⟩⟩
          · have d2 : decide (n ≤ y) = false := by simpa using c3
            by_cases hk0 : k = 0
            · subst hk0
              obtain rfl := hl0 rfl
              have hcell0 : wr.cell? ad = some (.int .i64 y) := hcell
              go_wp2_with fail
              go_quiet (fail)
              go_wp2_with fail
              go_roundw
              case rel => exact ⟨1, y, by omega, rfl, by show rightB n on = _; rw [HE.out, HS.out]; simp; omega, by omega, fun h => by omega, HP1 HK.out, ⟨hbw.os, hbw.tape, hbw.output, hbw.size, hbw.block⟩⟩
              case measure => simp [intOf]; omega
            · obtain ⟨ad', had, -, hcell'⟩ := hvq.at_ (show k - 1 < on.length by omega)
              injection had with had
              subst had
              have hlast : on[k - 1] = last := by
                have := HP.out (k - 1) (by omega)
                rw [List.getElem?_eq_getElem (by omega)] at this
                injection this
              rw [hlast] at hcell'
              have hk1 : 0 < k := by omega
              have d3 : decide ((0 : Int) < (k : Int)) = true := by simp; omega
              have i1 : (k : Int) - 1 < (on.length : Int) := by omega
              have i2 : (0 : Int) ≤ (k : Int) - 1 := by omega
              clear hlast hk0
              by_cases c4 : y ≤ last
              · have hfalse : rightB n on = false := by rw [HE.out, HS.out]; simp; intros; omega
                have HF := Lib.hid hfalse
                clear hfalse
                have d4 : decide (y ≤ last) = true := by simpa using c4
                go_wp2_with fail
                go_quiet (fail)
                go_wp2_with fail
                go_ret
                exact ⟨by rw [HF.out]; rfl, ⟨hB.os, hB.tape, hB.output, hB.size, hB.block⟩⟩
              · have d4 : decide (y ≤ last) = false := by simpa using c4
                go_wp2_with fail
                go_quiet (fail)
                go_wp2_with fail
                go_roundw
                case rel => exact ⟨k + 1, y, by omega, by go_num, by show rightB n on = _; rw [HE.out, HS.out]; simp; omega, by omega, fun h => by omega, HP1 HK.out, ⟨hbw.os, hbw.tape, hbw.output, hbw.size, hbw.block⟩⟩
                case measure => simp [intOf]; omega
      · have HF : Hid (rightB n on = true) := by rw [HE.out, List.drop_of_length_le (by omega)]; rfl
        go_wp2_with fail
        go_ret
        exact ⟨by rw [HF.out]; rfl, hB⟩
  · have hf' : fitsB n = false := by simpa using hf
    have hr : rightB n on = false := by simp [rightB, hf']
    have hcs : n < 0 ∨ 2048 < n := by
      rcases Int.lt_or_le n 0 with h | h
      · exact .inl h
      · rcases Int.lt_or_le 2048 n with h2 | h2
        · exact .inr h2
        · exact absurd ((fitsB_iff n).2 ⟨h, h2⟩) hf
    rw [hr]
    clear hr hf hf'
    rcases Int.lt_or_le n 0 with h | h
    · go_enter Try.func11, Try.ntmps11
      go_wp2_with fail
      rw [← hW0]
      go_ret
      exact ⟨rfl, hb0⟩
    · have h2 : 2048 < n := by omega
      go_enter Try.func11, Try.ntmps11
      go_wp2_with fail
      rw [← hW0]
      go_ret
      exact ⟨rfl, hb0⟩

set_option maxHeartbeats 1000000 in
theorem ron_any (x : Value) (n : Int) (on : List Int) (i : Int) (w : World) (hx : Bt w x n on) (h9 : on.length ≤ maxLen) :
    Calls Try.prog 32 #[x, .int .i64 i] w fun e w' => e = .returned (.bool (decide (i ∈ on))) ∧ Below w.heap.size w w' := by
  obtain ⟨A, c, rfl, hc, hv⟩ := hx.form
  have h9' : on.length ≤ 9223372036854775807 := h9
  have hb0 : Below w.heap.size w (w.alloc (.cells #[.int .i64 n, .slice A on.length c] 24)) := (Below.refl _ w).alloc (Nat.le_refl _) _
  have hv0 := hv.on hb0
  go_enter Try.func32, Try.ntmps32
  go_wp2_with fail
  go_loop [5] (fun iv => ∃ k : Nat, k ≤ on.length ∧ iv = .int .i64 k ∧ Hid (∀ y ∈ on.take k, y ≠ i)) (fun iv => on.length - (intOf iv).toNat)
  case atStart => exact ⟨0, Nat.zero_le _, rfl, by simp [Hid]⟩
  case round =>
    obtain ⟨k, hk, rfl, HE⟩ := hrel
    by_cases hlt : k < on.length
    · obtain ⟨ad, rfl, hb, hcell⟩ := hv0.at_ hlt
      have HT := Lib.hid (show on.take (k + 1) = on.take k ++ [on[k]] from List.take_succ_eq_append_getElem hlt)
      have HM := Lib.hid (List.getElem_mem hlt)
      generalize hy : on[k] = y at *
      clear hy
      by_cases c1 : y = i
      · subst c1
        have HF : Hid (decide (y ∈ on) = true) := by have := HM.out; simp [this, Hid]
        go_wp2_with fail
        go_ret
        exact ⟨by rw [HF.out]; rfl, hb0⟩
      · have c2 : (y == i) = false := by simpa using c1
        go_wp2_with fail
        go_round
        case rel =>
          refine ⟨k + 1, by omega, by go_num, ?_⟩
          show ∀ y ∈ on.take (k + 1), y ≠ i
          rw [HT.out]
          intro z hz
          simp only [List.mem_append, List.mem_singleton] at hz
          rcases hz with hz | rfl
          · exact HE.out z hz
          · exact c1
        case measure => simp [intOf]; omega
    · have HF : Hid (decide (i ∈ on) = false) := by
        have h1 := HE.out
        rw [List.take_of_length_le (by omega)] at h1
        exact decide_eq_false (fun h => h1 i h rfl)
      go_wp2_with fail
      go_ret
      exact ⟨by rw [HF.out]; rfl, hb0⟩
end Go.Proofs.Ytpojpikndlcbkaa
