/- Layer 13, the program: where a mark stands, and whether it is there. -/
import Derived.Test.YtcamhaeelkjigaaSenU
namespace Go.Proofs.Ytcamhaeelkjigaa
open Go.RowKit

set_option maxHeartbeats 2000000 in
set_option maxRecDepth 100000 in
theorem splace_any (v : Value) (l : List Mk) (q1 q2 q3 : Int) (w : World) (hv : Mks w w.heap.size v l) (h9 : l.length ≤ 1000000) (hr : RightM l) :
    Calls Try.prog 25 #[v, .agg #[.int .i64 q1, .int .i64 q2, .int .i64 q3]] w fun e w' => ∃ k : Nat, e = .returned (.tuple #[.int .i64 (k : Int), .bool (decide ((q1, q2, q3) ∈ l))]) ∧ PlaceM l (q1, q2, q3) k ∧ Below w.heap.size w w' := by
  obtain ⟨A, c, rfl, hc⟩ := hv.form
  have hA := (Below.refl w.heap.size w).alloc (Nat.le_refl _) (.cells #[.slice A l.length c] 22)
  have qa := RowAt.new w 22 #[.slice A l.length c]
  go_enter Try.func25, Try.ntmps25
  go_upto_region 1 with (fail)
  obtain ⟨w1, hw1⟩ : ∃ w1, w1 = w.alloc (.cells #[.slice A l.length c] 22) := ⟨_, rfl⟩
  rw [← hw1] at hA qa ⊢
  have hs1 : w1.heap.size = w.heap.size + 1 := by rw [hw1]; simp
  have hB := hA.alloc hA.size (.cells #[.int .i64 q1, .int .i64 q2, .int .i64 q3] 25)
  have qb := RowAt.new w1 25 #[.int .i64 q1, .int .i64 q2, .int .i64 q3]
  replace qa := qa.on ((Below.refl _ w1).alloc (Nat.le_refl _) (.cells #[.int .i64 q1, .int .i64 q2, .int .i64 q3] 25))
  have hs2 : (w1.alloc (.cells #[.int .i64 q1, .int .i64 q2, .int .i64 q3] 25)).heap.size = w.heap.size + 2 := by simp [hs1]
  generalize w1.alloc (.cells #[.int .i64 q1, .int .i64 q2, .int .i64 q3] 25) = w2 at *
  rw [hs1] at qb
  clear hw1 hA hs1
  replace hv := hv.on hB
  have a0 : w2.cell? ⟨w.heap.size, 0, none⟩ = some (.slice A l.length c) := qa.cell 0
  have cS := ssearch_any #[.pointer (some ⟨w.heap.size, 0, none⟩), .pointer (some ⟨w.heap.size + 1, 0, none⟩)] l.length (fun i => match l[i]? with | some m => !aheadMB m (q1, q2, q3) | none => true) w2 h9
    (fun i W hi hb => by
      have := splace1_any w.heap.size (w.heap.size + 1) l (q1, q2, q3) A c i W (hv.on hb) hi h9 ((qa.on hb).cell 0) (by have := hb.size; omega) (qb.on hb)
      rw [List.getElem?_eq_getElem hi]
      exact this)
    (fun a b hab hb h => by
      rw [List.getElem?_eq_getElem (by omega)] at h
      rw [List.getElem?_eq_getElem hb]
      simp only [Bool.not_eq_true', decide_eq_false_iff_not] at h ⊢
      intro h2
      rcases Nat.lt_or_ge a b with h3 | h3
      · exact h (ahead_trans (hr.lt a b h3 hb) h2)
      · obtain rfl : a = b := by omega
        exact h h2)
  go_wp2_with fail
  with_reducible refine cS.mono ?_
  rintro e w3 ⟨k, rfl, ⟨hk, hk1, hk2⟩, hb3⟩
  have hP : PlaceM l (q1, q2, q3) k := ⟨hk, fun i hi hik => by
      have := hk1 i hik
      rw [List.getElem?_eq_getElem hi] at this
      simpa using this, fun hi => by
      have := hk2 k (Nat.le_refl _) hi
      rw [List.getElem?_eq_getElem hi] at this
      simpa using this⟩
  replace hv := hv.on hb3
  replace qa := qa.on hb3
  replace qb := qb.on hb3
  replace hB := hB.trans (hb3.mono hB.size)
  clear hk1 hk2 cS a0 hb3 hs2
  have a0 := row_later qa 0 _ rfl
  have x1 := row_later qb 0 _ rfl
  have x2 := row_later qb 1 _ rfl
  have x3 := row_later qb 2 _ rfl
  have HM := Lib.hid (hP.mem hr)
  have HP := Lib.hid hP
  clear hP hr qa qb
  by_cases hlt : k < l.length
  · have g1 : ((k : Int) < (l.length : Int)) = True := eq_true (by omega)
    have g2 : (k < l.length) = True := eq_true hlt
    obtain ⟨ad, rfl, z1, z2, z3⟩ := hv.cells (Below.refl _ w3) hlt
    have HY := Lib.hid (fun (h : l[k] = (q1, q2, q3)) => (decide_eq_true (HM.out.2 ⟨hlt, h⟩) : decide ((q1, q2, q3) ∈ l) = true))
    have HN := Lib.hid (fun (h : ¬ l[k] = (q1, q2, q3)) => (decide_eq_false (fun h' => h (HM.out.1 h').2) : decide ((q1, q2, q3) ∈ l) = false))
    generalize l[k] = p at *
    obtain ⟨p1, p2, p3⟩ := p
    simp only at z1 z2 z3
    clear HM hv
    by_cases h1 : p1 = q1
    · subst h1
      by_cases h2 : p2 = q2
      · subst h2
        by_cases h3 : p3 = q3
        · subst h3
          have HF := Lib.hid (HY.out rfl)
          clear HY HN
          go_upto_region 2 with (fail)
          refine wp_region_later (by kernel_rfl) (by kernel_rfl) ?_
          repeat (go_big_quiet_step (fail))
          refine wpQuiet_nil ?_
          intro _ hw'
          obtain ⟨pq, rfl⟩ := hw'
          go_wp2_with fail
          go_ret2
          exact ⟨k, by rw [HF.out]; rfl, HP.out, hB.trans (pq.h.mono hB.size)⟩
        · have n3 : ((p3 : Int) = (q3 : Int)) = False := eq_false h3
          have m3 : ((p3 : Int) == (q3 : Int)) = false := by simpa using h3
          have HF := Lib.hid (HN.out (by simp [h3]))
          clear HY HN h3
          go_upto_region 2 with (fail)
          refine wp_region_later (by kernel_rfl) (by kernel_rfl) ?_
          repeat (go_big_quiet_step (fail))
          refine wpQuiet_nil ?_
          intro _ hw'
          obtain ⟨pq, rfl⟩ := hw'
          go_wp2_with fail
          go_ret2
          exact ⟨k, by rw [HF.out]; rfl, HP.out, hB.trans (pq.h.mono hB.size)⟩
      · have n2 : ((p2 : Int) = (q2 : Int)) = False := eq_false h2
        have m2 : ((p2 : Int) == (q2 : Int)) = false := by simpa using h2
        have HF := Lib.hid (HN.out (by simp [h2]))
        clear HY HN h2
        go_upto_region 2 with (fail)
        refine wp_region_later (by kernel_rfl) (by kernel_rfl) ?_
        repeat (go_big_quiet_step (fail))
        refine wpQuiet_nil ?_
        intro _ hw'
        obtain ⟨pq, rfl⟩ := hw'
        go_wp2_with fail
        go_ret2
        exact ⟨k, by rw [HF.out]; rfl, HP.out, hB.trans (pq.h.mono hB.size)⟩
    · have n1 : ((p1 : Int) = (q1 : Int)) = False := eq_false h1
      have m1 : ((p1 : Int) == (q1 : Int)) = false := by simpa using h1
      have HF := Lib.hid (HN.out (by simp [h1]))
      clear HY HN h1
      go_upto_region 2 with (fail)
      refine wp_region_later (by kernel_rfl) (by kernel_rfl) ?_
      repeat (go_big_quiet_step (fail))
      refine wpQuiet_nil ?_
      intro _ hw'
      obtain ⟨pq, rfl⟩ := hw'
      go_wp2_with fail
      go_ret2
      exact ⟨k, by rw [HF.out]; rfl, HP.out, hB.trans (pq.h.mono hB.size)⟩
  · obtain rfl : k = l.length := by omega
    have HF := Lib.hid ((decide_eq_false (fun h' => hlt (HM.out.1 h').1)) : decide ((q1, q2, q3) ∈ l) = false)
    clear HM hv
    go_upto_region 2 with (fail)
    refine wp_region_later (by kernel_rfl) (by kernel_rfl) ?_
    repeat (go_big_quiet_step (fail))
    refine wpQuiet_nil ?_
    intro _ hw'
    obtain ⟨pq, rfl⟩ := hw'
    go_wp2_with fail
    go_ret2
    exact ⟨l.length, by rw [HF.out]; rfl, HP.out, hB.trans (pq.h.mono hB.size)⟩
end Go.Proofs.Ytcamhaeelkjigaa
