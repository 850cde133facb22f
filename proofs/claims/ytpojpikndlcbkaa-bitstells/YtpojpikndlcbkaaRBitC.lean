/- The document's own answers of layer 2: List, Vector, Has, alike, Disjoint, Subset. -/
import Derived.Test.YtpojpikndlcbkaaRBitB
namespace Go.Proofs.Ytpojpikndlcbkaa
open Go.RowKit Go.Shelf

set_option maxHeartbeats 1000000 in
theorem rList_any (x : Value) (n : Int) (on : List Int) (w : World) (hx : Bt w x n on) (h9 : on.length ≤ maxLen) :
    Calls Try.prog 7 #[x] w fun e w' => e = .returned (.tuple #[.string ⟨(lstOf n on).toArray⟩, .int .i64 (argErr (rightB n on))]) ∧ Below w.heap.size w w' := by
  obtain ⟨A, c, rfl, hc, hv⟩ := hx.form
  have hx1 := hx.alloc (.cells #[.int .i64 n, .slice A on.length c] 24)
  have HR := rRight_any _ _ _ _ hx1 h9
  unfold lstOf argErr
  cases hr : rightB n on
  · rw [hr] at HR
    go_enter Try.func7, Try.ntmps7
    go_wp2_with fail
    with_reducible refine HR.mono ?_
    rintro e w1 ⟨rfl, hb1⟩
    clear HR hr
    go_wp2_with fail
    go_ret2
    exact ⟨rfl, ((Below.refl _ w).alloc (Nat.le_refl _) _).trans (hb1.mono (by simp))⟩
  · rw [hr] at HR
    have HL := Lib.hid (marks_list hr)
    obtain ⟨m, rfl, hm, hon⟩ := right_nat hr
    rw [Int.toNat_natCast] at HL
    go_enter Try.func7, Try.ntmps7
    go_wp2_with fail
    with_reducible refine HR.mono ?_
    rintro e w1 ⟨rfl, hb1⟩
    obtain ⟨hc0, hc1⟩ := box_bits _ _ _ hb1
    have hw1 : Below w.heap.size w w1 := ((Below.refl _ w).alloc (Nat.le_refl _) _).trans (hb1.mono (by simp))
    clear HR hr hb1
    have e1 : ((m / 8 + 1 : Nat) : Int) = (m : Int) / 8 + 1 := by omega
    have HB := rbytes_any _ (m : Int) on (m / 8 + 1) (m : Int) w1 (hx.on hw1) h9 (by omega)
    rw [e1, HL.out] at HB
    clear HL e1
    go_wp2_with fail
    with_reducible refine HB.mono ?_
    rintro e w2 ⟨rfl, hb2⟩
    clear HB
    go_wp2_with fail
    go_ret2
    exact ⟨rfl, hw1.trans (hb2.mono hw1.size)⟩

set_option maxHeartbeats 1000000 in
theorem rVector_any (x : Value) (n : Int) (on : List Int) (w : World) (hx : Bt w x n on) (h9 : on.length ≤ maxLen) :
    Calls Try.prog 9 #[x] w fun e w' => e = .returned (.tuple #[.string ⟨(vctOf n on).toArray⟩, .int .i64 (argErr (rightB n on))]) ∧ Below w.heap.size w w' := by
  obtain ⟨A, c, rfl, hc, hv⟩ := hx.form
  have hx1 := hx.alloc (.cells #[.int .i64 n, .slice A on.length c] 24)
  have HR := rRight_any _ _ _ _ hx1 h9
  unfold vctOf argErr
  cases hr : rightB n on
  · rw [hr] at HR
    go_enter Try.func9, Try.ntmps9
    go_wp2_with fail
    with_reducible refine HR.mono ?_
    rintro e w1 ⟨rfl, hb1⟩
    clear HR hr
    go_wp2_with fail
    go_ret2
    exact ⟨rfl, ((Below.refl _ w).alloc (Nat.le_refl _) _).trans (hb1.mono (by simp))⟩
  · rw [hr] at HR
    have HL := Lib.hid (marks_vec hr)
    obtain ⟨m, rfl, hm, hon⟩ := right_nat hr
    rw [Int.toNat_natCast] at HL
    go_enter Try.func9, Try.ntmps9
    go_wp2_with fail
    with_reducible refine HR.mono ?_
    rintro e w1 ⟨rfl, hb1⟩
    obtain ⟨hc0, hc1⟩ := box_bits _ _ _ hb1
    have hw1 : Below w.heap.size w w1 := ((Below.refl _ w).alloc (Nat.le_refl _) _).trans (hb1.mono (by simp))
    clear HR hr hb1
    have e1 : (((m + 7) / 8 : Nat) : Int) = ((m : Int) + 7) / 8 := by omega
    have HB := rbytes_any _ (m : Int) on ((m + 7) / 8) (-1) w1 (hx.on hw1) h9 (by omega)
    rw [e1, HL.out] at HB
    clear HL e1
    go_wp2_with fail
    with_reducible refine HB.mono ?_
    rintro e w2 ⟨rfl, hb2⟩
    clear HB
    go_wp2_with fail
    go_ret2
    exact ⟨rfl, hw1.trans (hb2.mono hw1.size)⟩

set_option maxHeartbeats 1000000 in
theorem rHas_any (x : Value) (n : Int) (on : List Int) (i : Int) (w : World) (hx : Bt w x n on) (h9 : on.length ≤ maxLen) :
    Calls Try.prog 13 #[x, .int .i64 i] w fun e w' => e = .returned (.bool (hasOf n on i)) ∧ Below w.heap.size w w' := by
  obtain ⟨A, c, rfl, hc, hv⟩ := hx.form
  have hx1 := hx.alloc (.cells #[.int .i64 n, .slice A on.length c] 24)
  have HR := rRight_any _ _ _ _ hx1 h9
  unfold hasOf
  cases hr : rightB n on
  · rw [hr] at HR
    go_enter Try.func13, Try.ntmps13
    go_wp2_with fail
    with_reducible refine HR.mono ?_
    rintro e w1 ⟨rfl, hb1⟩
    clear HR hr
    go_wp2_with fail
    go_ret
    exact ⟨rfl, ((Below.refl _ w).alloc (Nat.le_refl _) _).trans (hb1.mono (by simp))⟩
  · rw [hr] at HR
    go_enter Try.func13, Try.ntmps13
    go_wp2_with fail
    with_reducible refine HR.mono ?_
    rintro e w1 ⟨rfl, hb1⟩
    obtain ⟨hc0, hc1⟩ := box_bits _ _ _ hb1
    have hw1 : Below w.heap.size w w1 := ((Below.refl _ w).alloc (Nat.le_refl _) _).trans (hb1.mono (by simp))
    clear HR hr hb1
    go_wp2_with fail
    with_reducible refine (ron_any _ _ _ _ _ (hx.on hw1) h9).mono ?_
    rintro e w2 ⟨rfl, hb2⟩
    go_wp2_with fail
    go_ret
    exact ⟨rfl, hw1.trans (hb2.mono hw1.size)⟩

set_option maxHeartbeats 1000000 in
theorem ralike_any (x y : Value) (n m : Int) (a b : List Int) (w : World) (hx : Bt w x n a) (hy : Bt w y m b) (h9 : a.length ≤ maxLen) (h9b : b.length ≤ maxLen) :
    Calls Try.prog 35 #[x, y] w fun e w' => e = .returned (.bool (alikeB n a m b)) ∧ Below w.heap.size w w' := by
  obtain ⟨A, c, rfl, hc, hv⟩ := hx.form
  obtain ⟨A', c', rfl, hc', hv'⟩ := hy.form
  obtain ⟨W0, hW0⟩ : ∃ W0, W0 = (w.alloc (.cells #[.int .i64 n, .slice A a.length c] 24)).alloc (.cells #[.int .i64 m, .slice A' b.length c'] 24) := ⟨_, rfl⟩
  have p0 : RowAt W0 w.heap.size 24 [.int .i64 n, .slice A a.length c] := by rw [hW0]; exact (RowAt.new w 24 #[.int .i64 n, .slice A a.length c]).alloc _
  have p1 : RowAt W0 (w.heap.size + 1) 24 [.int .i64 m, .slice A' b.length c'] := by
    have := RowAt.new (w.alloc (.cells #[.int .i64 n, .slice A a.length c] 24)) 24 #[.int .i64 m, .slice A' b.length c']
    rw [World.size_alloc] at this
    rw [hW0]; exact this
  have hB0 : Below w.heap.size w W0 := by rw [hW0]; exact ((Below.refl _ w).alloc (Nat.le_refl _) _).alloc (by simp) _
  have HA : Hid (alikeB n a m b = (rightB n a && rightB m b && decide (n = m))) := rfl
  have HR1 := rRight_any _ _ _ _ (hx.on hB0) h9
  obtain ⟨t1, ht1⟩ : ∃ t1, rightB n a = t1 := ⟨_, rfl⟩
  obtain ⟨t2, ht2⟩ : ∃ t2, rightB m b = t2 := ⟨_, rfl⟩
  rw [ht1] at HR1 HA
  rw [ht2] at HA
  have H2 := Lib.hid ht2
  clear ht1 ht2
  cases t1
  all_goals cases t2
  all_goals
    go_enter Try.func35, Try.ntmps35
    go_wp2_with fail
    rw [← hW0]
    with_reducible refine HR1.mono ?_
    rintro e w1 ⟨rfl, hb1⟩
    have hw1 := hB0.trans (hb1.mono hB0.size)
    replace p0 := p0.on hb1
    replace p1 := p1.on hb1
    obtain ⟨c00, c01⟩ := p0.two
    obtain ⟨c10, c11⟩ := p1.two
    have HR2 := rRight_any _ _ _ _ (hy.on hw1) h9b
    rw [H2.out] at HR2
    clear hW0 HR1 hb1 hB0
    go_wp2_with fail
    with_reducible refine HR2.mono ?_
    rintro e w2 ⟨rfl, hb2⟩
    have hw2 := hw1.trans (hb2.mono hw1.size)
    clear c00 c01 c10 c11 HR2
    replace p0 := p0.on hb2
    replace p1 := p1.on hb2
    obtain ⟨c00, c01⟩ := p0.two
    obtain ⟨c10, c11⟩ := p1.two
    clear hb2 hw1
    go_wp2_with fail
    go_ret
    refine ⟨?_, hw2⟩
    rw [HA.out]
    first
      | rfl
      | (show Ending.returned (Value.bool (n == m)) = _; congr 2)

def rdisj (t : Bool) (a b : List Int) : Bool := t && !(a.any fun x => decide (x ∈ b))
theorem any_step (a b : List Int) (k : Nat) (hk : k < a.length) : ((a.take (k + 1)).any fun x => decide (x ∈ b)) = ((a.take k).any (fun x => decide (x ∈ b)) || decide (a[k] ∈ b)) := by
  rw [List.take_succ_eq_append_getElem hk, List.any_append]; simp
theorem all_step (a b : List Int) (k : Nat) (hk : k < a.length) : ((a.take (k + 1)).all fun x => decide (x ∈ b)) = ((a.take k).all (fun x => decide (x ∈ b)) && decide (a[k] ∈ b)) := by
  rw [List.take_succ_eq_append_getElem hk, List.all_append]; simp

set_option maxHeartbeats 2000000 in
set_option maxRecDepth 100000 in
theorem rDisjoint_any (x y : Value) (n m : Int) (a b : List Int) (w : World) (hx : Bt w x n a) (hy : Bt w y m b) (h9 : a.length ≤ maxLen) (h9b : b.length ≤ maxLen) :
    Calls Try.prog 19 #[x, y] w fun e w' => e = .returned (.bool (disjOf n a m b)) ∧ Below w.heap.size w w' := by
  obtain ⟨A, c, rfl, hc, hv⟩ := hx.form
  obtain ⟨A', c', rfl, hc', hv'⟩ := hy.form
  have h9' : a.length ≤ 9223372036854775807 := h9
  obtain ⟨W0, hW0⟩ : ∃ W0, W0 = (w.alloc (.cells #[.int .i64 n, .slice A a.length c] 24)).alloc (.cells #[.int .i64 m, .slice A' b.length c'] 24) := ⟨_, rfl⟩
  have p0 : RowAt W0 w.heap.size 24 [.int .i64 n, .slice A a.length c] := by rw [hW0]; exact (RowAt.new w 24 #[.int .i64 n, .slice A a.length c]).alloc _
  have p1 : RowAt W0 (w.heap.size + 1) 24 [.int .i64 m, .slice A' b.length c'] := by
    have := RowAt.new (w.alloc (.cells #[.int .i64 n, .slice A a.length c] 24)) 24 #[.int .i64 m, .slice A' b.length c']
    rw [World.size_alloc] at this
    rw [hW0]; exact this
  have hB0 : Below w.heap.size w W0 := by rw [hW0]; exact ((Below.refl _ w).alloc (Nat.le_refl _) _).alloc (by simp) _
  have HD : Hid (disjOf n a m b = (alikeB n a m b && !(a.any fun x => decide (x ∈ b)))) := rfl
  go_enter Try.func19, Try.ntmps19
  go_wp2_with fail
  rw [← hW0]
  with_reducible refine (ralike_any _ _ _ _ _ _ _ (hx.on hB0) (hy.on hB0) h9 h9b).mono ?_
  rintro e w1 ⟨rfl, hb1⟩
  have hw1 := hB0.trans (hb1.mono hB0.size)
  replace p0 := p0.on hb1
  replace p1 := p1.on hb1
  clear hW0 hb1 hB0
  generalize alikeB n a m b = t at *
  go_wp2_with fail
  go_loopw [5, 6] (fun tv iv wr => ∃ k : Nat, k ≤ a.length ∧ iv = .int .i64 k ∧ tv = .bool (t && !((a.take k).any fun x => decide (x ∈ b))) ∧ Below w1.heap.size w1 wr) (fun _ iv _ => a.length - (intOf iv).toNat)
  case atStart => exact ⟨0, Nat.zero_le _, rfl, by simp, Below.refl _ _⟩
  case round =>
    obtain ⟨k, hk, rfl, rfl, hbw⟩ := hrel
    have q0 := p0.on hbw
    have q1 := p1.on hbw
    have hB := hw1.trans (hbw.mono hw1.size)
    obtain ⟨c00, c01⟩ := q0.two
    by_cases hlt : k < a.length
    · obtain ⟨ad, rfl, hbl, hcell⟩ := (hv.on hB).at_ hlt
      have HS := Lib.hid (any_step a b k hlt)
      have HON : ∀ p : Later wr, Calls Try.prog 32 #[.agg #[.int .i64 m, .slice A' b.length c'], .int .i64 a[k]] p.W fun e w'' => e = .returned (.bool (decide (a[k] ∈ b))) ∧ ∃ p : Later wr, w'' = p.W := fun p => later_of (ron_any _ m b a[k] p.W ((hy.on hB).on p.h) h9b)
      have x01 : ∀ p : Later wr, p.W.cell? ⟨w.heap.size, 1, none⟩ = some (.slice (some ad) a.length c) := q0.later 1 _ rfl
      have x10 : ∀ p : Later wr, p.W.cell? ⟨w.heap.size + 1, 0, none⟩ = some (.int .i64 m) := q1.later 0 _ rfl
      have x11 : ∀ p : Later wr, p.W.cell? ⟨w.heap.size + 1, 1, none⟩ = some (.slice A' b.length c') := q1.later 1 _ rfl
      have xk : ∀ p : Later wr, p.W.cell? (ad.add k) = some (.int .i64 a[k]) := fun p => (p.h.cell (by rw [add_block]; exact hbl)).trans hcell
      generalize decide (a[k] ∈ b) = u at *
      generalize hyk : a[k] = y at *
      generalize ((a.take k).any fun x => decide (x ∈ b)) = s at *
      clear hyk
      obtain ⟨r, hr⟩ : ∃ r, (t && !s) = r := ⟨_, rfl⟩
      rw [hr]
      have HR : Hid ((t && !((a.take (k + 1)).any fun x => decide (x ∈ b))) = (r && !u)) := by
        show _ = _
        rw [HS.out, ← hr]
        cases t <;> cases s <;> cases u <;> rfl
      clear hr
      go_wp2_with fail
      refine wp_region_later (by kernel_rfl) (by kernel_rfl) ?_
      repeat (go_big_quiet_step (first | (go_at_call 32; exact HON _)))
      refine wpQuiet_nil ?_
      intro _ hw'
      obtain ⟨pq, rfl⟩ := hw'
      have hb1 := pq.h
      generalize pq.W = W2 at hb1 ⊢
      clear pq x01 x10 x11 xk HON
      cases r
      all_goals
        go_wp2_with fail
        go_roundw
        case rel => exact ⟨k + 1, by omega, by go_num, by rw [HR.out]; simp, hbw.trans (hb1.mono hbw.size)⟩
        case measure => simp [intOf]; omega
    · obtain rfl : k = a.length := by omega
      rw [List.take_length]
      go_wp2_with fail
      go_ret
      exact ⟨by rw [HD.out]; rfl, hB⟩
end Go.Proofs.Ytpojpikndlcbkaa
