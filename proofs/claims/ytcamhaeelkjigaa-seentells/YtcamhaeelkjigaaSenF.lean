/- Layer 13: the statements' own small functions: pick, Mark; two lists of numbers that are the same. -/
import Derived.Test.YtcamhaeelkjigaaSenE
import Derived.Test.YtcamhaeelkjigaaRegU
import Derived.Lib.MinMax
namespace Go.Proofs.Ytcamhaeelkjigaa
open Go.RowKit Go.Lib

abbrev I64M (x : Int) : Prop := -9223372036854775808 ≤ x ∧ x ≤ 9223372036854775807
/-- which of n things a raw number speaks of -/
def pickM (c n : Int) : Int := (if c < 0 then -(c + 1) else c) % n
theorem pickM_bd (c n : Int) (hn : 0 < n) : 0 ≤ pickM c n ∧ pickM c n < n := by
  unfold pickM
  exact ⟨Int.emod_nonneg _ (by omega), Int.emod_lt_of_pos _ hn⟩
theorem pickM_any (c n : Int) (w : World) (hc : I64M c) (hn : 0 < n) (hn2 : n ≤ 4398046511104) :
    Calls Try.prog 11 #[.int .i64 c, .int .i64 n] w fun e w' => e = .returned (.int .i64 (pickM c n)) ∧ w = w' := by
  by_cases h : c < 0
  · have he : pickM c n = -((c + 1).tmod n) := by
      unfold pickM
      rw [if_pos h, ← Int.neg_tmod, Int.tmod_eq_emod_of_nonneg (by omega)]
    rw [he]
    clear he
    go_enter Try.func11, Try.ntmps11
    go_wp2
    go_ret
    exact ⟨rfl, rfl⟩
  · have he : pickM c n = c % n := by unfold pickM; rw [if_neg h]
    rw [he]
    clear he
    go_enter Try.func11, Try.ntmps11
    go_wp2
    go_ret
    exact ⟨rfl, rfl⟩
theorem pickM_of {c n p : Int} (hp : pickM c n = p) (hc : I64M c) (hn : 0 < n) (hn2 : n ≤ 4398046511104) (w : World) :
    Calls Try.prog 11 #[.int .i64 c, .int .i64 n] w fun e w' => e = .returned (.int .i64 p) ∧ w = w' := by
  subst hp; exact pickM_any c n w hc hn hn2
theorem pickM_same {c n p : Int} (hp : pickM c n = p) (hc : I64M c) (hn : 0 < n) (hn2 : n ≤ 4398046511104) (w : World) :
    Calls Try.prog 11 #[.int .i64 c, .int .i64 n] w fun e w' => e = .returned (.int .i64 p) ∧ w' = w :=
  (pickM_of hp hc hn hn2 w).mono fun _ _ ⟨a, b⟩ => ⟨a, b.symm⟩
/-- of raw numbers, one of few -/
def markOf (r : Mk) : Mk := (pickM r.1 5, pickM r.2.1 3, pickM r.2.2 6)
def RawM (r : Mk) : Prop := I64M r.1 ∧ I64M r.2.1 ∧ I64M r.2.2
def FewM (m : Mk) : Prop := 0 ≤ m.1 ∧ m.1 < 5 ∧ 0 ≤ m.2.1 ∧ m.2.1 < 3 ∧ 0 ≤ m.2.2 ∧ m.2.2 < 6
theorem markOf_few (r : Mk) : FewM (markOf r) := by
  have h1 := pickM_bd r.1 5 (by omega)
  have h2 := pickM_bd r.2.1 3 (by omega)
  have h3 := pickM_bd r.2.2 6 (by omega)
  exact ⟨h1.1, h1.2, h2.1, h2.2, h3.1, h3.2⟩
theorem FewM.may {m : Mk} (h : FewM m) : mayMB m = true := decide_eq_true ⟨h.1, h.2.2.1, h.2.2.2.2.1⟩
set_option maxHeartbeats 1000000 in
set_option maxRecDepth 100000 in
theorem Mark_any (n0 n1 n2 p0 p1 p2 : Int) (w : World) (hr : RawM (n0, n1, n2)) (hm : markOf (n0, n1, n2) = (p0, p1, p2)) :
    Calls Try.prog 10 #[.agg #[.int .i64 n0, .int .i64 n1, .int .i64 n2]] w fun e w' => e = .returned (.agg #[.int .i64 p0, .int .i64 p1, .int .i64 p2]) ∧ Below w.heap.size w w' := by
  obtain ⟨b0, b1, b2⟩ := hr
  simp only at b0 b1 b2
  unfold markOf at hm
  simp only [Prod.mk.injEq] at hm
  obtain ⟨e0, e1, e2⟩ := hm
  have c0 := pickM_of e0 b0 (by decide) (by decide)
  have c1 := pickM_of e1 b1 (by decide) (by decide)
  have c2 := pickM_of e2 b2 (by decide) (by decide)
  clear e0 e1 e2
  have B0 := (Below.refl w.heap.size w).alloc (Nat.le_refl _) (.cells #[.int .i64 n0, .int .i64 n1, .int .i64 n2] 26)
  replace B0 := B0.alloc B0.size (.cells #[.int .i64 0, .int .i64 0, .int .i64 0] 25)
  have q0 := (RowAt.new w 26 #[.int .i64 n0, .int .i64 n1, .int .i64 n2]).alloc (.cells #[.int .i64 0, .int .i64 0, .int .i64 0] 25)
  have q1 := RowAt.new (w.alloc (.cells #[.int .i64 n0, .int .i64 n1, .int .i64 n2] 26)) 25 #[.int .i64 0, .int .i64 0, .int .i64 0]
  rw [World.size_alloc] at q1
  go_enter Try.func10, Try.ntmps10
  go_upto_region 1 with (fail)
  generalize (w.alloc (.cells #[.int .i64 n0, .int .i64 n1, .int .i64 n2] 26)).alloc (.cells #[.int .i64 0, .int .i64 0, .int .i64 0] 25) = w1 at *
  have y0 := q0.laterT 0 _ rfl
  have y1 := q0.laterT 1 _ rfl
  have y2 := q0.laterT 2 _ rfl
  have HP0 := fun p : LaterT w1 => laterT_same (c0 p.W)
  have HP1 := fun p : LaterT w1 => laterT_same (c1 p.W)
  have HP2 := fun p : LaterT w1 => laterT_same (c2 p.W)
  refine wp_region_later_tail0 9 2 (by kernel_rfl) (by kernel_rfl) ?_
  simp only [List.take_succ_cons, List.take_zero]
  repeat (go_big_quiet_step (first | (go_at_call 11; (first | with_reducible exact HP0 _ | with_reducible exact HP1 _ | with_reducible exact HP2 _))))
  refine wpQuiet_nil ?_
  intro w' hw'
  obtain ⟨pq, rfl⟩ := hw'
  have bq := pq.h
  replace q1 := q1.on bq
  replace B0 := B0.trans (bq.mono B0.size)
  generalize pq.W = w2 at *
  clear HP0 HP1 HP2 y0 y1 y2 c0 c1 c2 q0 bq pq
  simp only [List.drop_succ_cons, List.drop_zero, List.take_succ_cons, List.take_zero]
  have f0 := q1.frozen 0
  have f1 := q1.frozen 1
  have f2 := q1.frozen 2
  have g0 := q1.cell 0
  have g1 := q1.cell 1
  have g2 := q1.cell 2
  simp only [List.getElem?_cons_zero, List.getElem?_cons_succ] at g0 g1 g2
  go_wp2_with fail
  have R3 := ((q1.set 0 (.int .i64 p0)).set 1 (.int .i64 p1)).set 2 (.int .i64 p2)
  have d0 := R3.cell 0
  have d1 := R3.cell 1
  have d2 := R3.cell 2
  simp only [List.set_cons_zero, List.set_cons_succ, List.getElem?_cons_zero, List.getElem?_cons_succ] at d0 d1 d2
  refine bodyPost_ret (v := .agg #[.int .i64 p0, .int .i64 p1, .int .i64 p2]) (by simp [results, Try.results10, go_sem, d0, d1, d2]) rfl ?_
  exact ⟨rfl, ((B0.setCell (p := ⟨w.heap.size + 1, 0, none⟩) (by simp) _).setCell (p := ⟨w.heap.size + 1, 1, none⟩) (by simp) _).setCell (p := ⟨w.heap.size + 1, 2, none⟩) (by simp) _⟩
set_option maxHeartbeats 1000000 in
/-- Two lists that are the same. -/
theorem IntsM_same (va vb : Value) (l : List Int) (w : World) (ha : Ints w w.heap.size va l) (hb : Ints w w.heap.size vb l) (h9 : l.length ≤ 1000000) :
    Calls Try.prog 19 #[va, vb] w fun e w' => e = .returned (.bool true) ∧ Below w.heap.size w w' := by
  obtain ⟨A, c, rfl, hc⟩ := ha.form
  obtain ⟨A', c', rfl, hc'⟩ := hb.form
  go_enter Try.func19, Try.ntmps19
  go_wp2_with fail
  go_loopw [5] (fun i wr => ∃ k : Nat, k ≤ l.length ∧ i = .int .i64 k ∧ Below w.heap.size w wr) (fun i _ => l.length - (intOf i).toNat)
  case atStart => exact ⟨0, Nat.zero_le _, rfl, Below.refl _ _⟩
  case round =>
    obtain ⟨k, hk, rfl, hw⟩ := hrel
    by_cases hlt : k < l.length
    · obtain ⟨ad, rfl, hbl, hcell⟩ := (ha.below hw (Nat.le_refl _)).at_ hlt
      obtain ⟨ad', rfl, hbl', hcell'⟩ := (hb.below hw (Nat.le_refl _)).at_ hlt
      go_wp2_with fail
      go_region
      all_goals go_wp2_with fail
      all_goals go_roundw
      case rel => exact ⟨k + 1, by omega, by go_num, hw.drew⟩
      case measure => simp [intOf]; omega
    · obtain rfl : k = l.length := by omega
      go_wp2_with fail
      go_ret
      exact ⟨rfl, hw⟩
end Go.Proofs.Ytcamhaeelkjigaa
