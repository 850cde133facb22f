/- The program's layer 5: ahead, order, inOrder, Right, firstByte, One. -/
import Derived.Test.YtjipibpcnheniaaDoorTokC
import Derived.Sort.Grow
import Derived.Shelf.Lay
namespace Go.Proofs.YtjipibpcnheniaaDoor
open Go.RowKit Go.Shelf
open Go.Sort hiding Below

abbrev pcell (a1 a2 : Nat) : Obj := .cells #[.int .u64 (a1 : Int), .int .u64 (a2 : Int)] 53

set_option maxHeartbeats 400000 in
theorem ahead_any (a1 a2 b1 b2 : Nat) (w : World) :
    Calls Tryd.prog 91 #[.agg #[.int .u64 a1, .int .u64 a2], .agg #[.int .u64 b1, .int .u64 b2]] w fun e w' => e = .returned (.bool (aheadB (a1, a2) (b1, b2))) ∧ w' = (w.alloc (pcell a1 a2)).alloc (pcell b1 b2) := by
  unfold aheadB
  by_cases h1 : a1 < b1
  · have h1a : ((a1 : Int) < (b1 : Int)) = True := eq_true (by omega)
    have h1b : (a1 < b1) = True := eq_true h1
    go_enter Tryd.func91, Tryd.ntmps91
    go_wp2
    go_ret
    exact ⟨by simp [h1], rfl⟩
  · have h1a : ((a1 : Int) < (b1 : Int)) = False := eq_false (by omega)
    have h1b : (a1 < b1) = False := eq_false h1
    by_cases h2 : a1 = b1
    · subst h2
      clear h1 h1a h1b
      go_enter Tryd.func91, Tryd.ntmps91
      go_wp2
      go_ret
      exact ⟨by simp, rfl⟩
    · have h2a : ((a1 : Int) == (b1 : Int)) = false := by simp; omega
      clear h1
      go_enter Tryd.func91, Tryd.ntmps91
      go_wp2
      go_ret
      exact ⟨by simp [h1b, h2], rfl⟩

/-- What order tells. -/
def ordI (a b : Pr) : Int := if a = b then 0 else if aheadB a b then -1 else 1
theorem ordI_lt (a b : Pr) : (ordI a b < 0) ↔ aheadB a b = true := by
  unfold ordI
  split
  · rename_i h; subst h
    have := ahead_iff a a
    constructor
    · intro h; omega
    · intro h; rw [this] at h; omega
  · split
    · rename_i h; simp [h]
    · rename_i h; simp [h]

theorem ordI_cases (a b : Pr) : (ordI a b = -1 ∧ aheadB a b = true) ∨ ((ordI a b = 0 ∨ ordI a b = 1) ∧ aheadB a b = false) := by
  have h := ordI_lt a b
  have h2 : ordI a b = -1 ∨ ordI a b = 0 ∨ ordI a b = 1 := by unfold ordI; split; exact .inr (.inl rfl); split; exact .inl rfl; exact .inr (.inr rfl)
  cases hh : aheadB a b
  · rw [hh] at h
    refine .inr ⟨?_, rfl⟩
    rcases h2 with h2 | h2
    · rw [h2] at h; simp at h
    · exact h2
  · rw [hh] at h
    refine .inl ⟨?_, rfl⟩
    rcases h2 with h2 | h2 | h2
    · exact h2
    · rw [h2] at h; simp at h
    · rw [h2] at h; simp at h
theorem grown2 (w : World) (x y : Obj) : (w.alloc x).alloc y = grow w #[x, y] := by
  rw [alloc_eq_grow, alloc_eq_grow, grow_grow]; rfl

set_option maxHeartbeats 1000000 in
theorem order_any (a b : Pr) (w : World) :
    Calls Tryd.prog 88 #[.agg #[.int .u64 (a.1 : Int), .int .u64 (a.2 : Int)], .agg #[.int .u64 (b.1 : Int), .int .u64 (b.2 : Int)]] w fun e w' => e = .returned (.int .i64 (ordI a b)) ∧ ∃ q os, w' = grow (w.drewN q) os := by
  obtain ⟨a1, a2⟩ := a
  obtain ⟨b1, b2⟩ := b
  have cA := fun W => ahead_any a1 a2 b1 b2 W
  unfold ordI
  simp only
  by_cases h1 : a1 = b1
  · subst h1
    by_cases h2 : a2 = b2
    · subst h2
      rw [if_pos rfl]
      go_enter Tryd.func88, Tryd.ntmps88
      go_wp2_with fail
      go_ret
      exact ⟨rfl, 0, _, grown2 _ _ _⟩
    · have h2a : ((a2 : Int) = (b2 : Int)) = False := eq_false (by omega)
      rw [if_neg (by simp [h2])]
      clear h2
      cases hh : aheadB (a1, a2) (a1, b2) <;> rw [hh] at cA <;> clear hh
      all_goals
        go_enter Tryd.func88, Tryd.ntmps88
        go_wp2_with (go_at_call 91; refine (cA _).mono ?_; rintro e w1 ⟨rfl, rfl⟩)
        go_ret
        exact ⟨rfl, 0, _, by rw [grown2, grown2, grow_grow]; rfl⟩
  · have h1a : ((a1 : Int) = (b1 : Int)) = False := eq_false (by omega)
    rw [if_neg (by simp [h1])]
    clear h1
    cases hh : aheadB (a1, a2) (b1, b2) <;> rw [hh] at cA <;> clear hh
    all_goals
      go_enter Tryd.func88, Tryd.ntmps88
      go_wp2_with (go_at_call 91; refine (cA _).mono ?_; rintro e w1 ⟨rfl, rfl⟩)
      go_ret
      exact ⟨rfl, 0, _, by rw [grown2, grown2, grow_grow]; rfl⟩

theorem below_grow (w : World) (q : Nat) (os : Array Obj) : Below w.heap.size w (grow (w.drewN q) os) :=
  ⟨rfl, rfl, rfl, by simp [grow, World.drewN], fun k hk => by
    show (w.heap ++ os)[k]? = _
    rw [Array.getElem?_append_left hk]⟩
theorem order_below (a b : Pr) (w : World) :
    Calls Tryd.prog 88 #[.agg #[.int .u64 (a.1 : Int), .int .u64 (a.2 : Int)], .agg #[.int .u64 (b.1 : Int), .int .u64 (b.2 : Int)]] w fun e w' => e = .returned (.int .i64 (ordI a b)) ∧ Below w.heap.size w w' :=
  (order_any a b w).mono fun e w' ⟨he, q, os, hw⟩ => ⟨he, by rw [hw]; exact below_grow w q os⟩

/-- From place k on they are in their order. -/
def srtFrom (l : List Pr) (k : Nat) : Prop := ∀ i (h : i + 1 < l.length), k ≤ i → aheadB l[i + 1] l[i] = false

set_option maxHeartbeats 1000000 in
theorem isSorted_any (v : Value) (l : List Pr) (w : World) (hv : Prs w w.heap.size v l) (h9 : l.length ≤ maxLen) :
    Calls Tryd.prog 87 #[v, .func (.func 88) #[] #[]] w fun e w' => e = .returned (.bool (srt l)) ∧ Below w.heap.size w w' := by
  obtain ⟨A, c, rfl, hc⟩ := hv.form
  have h9' : l.length ≤ 9223372036854775807 := h9
  go_enter Tryd.func87, Tryd.ntmps87
  go_wp2_with fail
  go_loopw [5] (fun i wr => ∃ k : Int, -1 ≤ k ∧ k < l.length ∧ i = .int .i64 k ∧ srtFrom l k.toNat ∧ Below w.heap.size w wr) (fun i _ => (intOf i).toNat)
  case atStart => exact ⟨(l.length : Int) - 1, by omega, by omega, by go_num, fun i hi h => by omega, Below.refl _ _⟩
  case round =>
    obtain ⟨k, hk1, hk, rfl, hs, hb⟩ := hrel
    by_cases hlt : 0 < k
    · obtain ⟨j, rfl⟩ : ∃ j : Nat, k = ((j + 1 : Nat) : Int) := ⟨(k - 1).toNat, by omega⟩
      have hlj : j + 1 < l.length := by omega
      obtain ⟨ad, rfl, hc1, hc2⟩ := hv.cells hb hlj
      obtain ⟨_, e, hd1, hd2⟩ := hv.cells hb (Nat.lt_of_succ_lt hlj)
      cases e
      have hz := hb.size
      have ej : ((j + 1 : Nat) : Int) - 1 = (j : Int) := by omega
      have HS := Lib.hid (show aheadB l[j + 1] l[j] = false → srtFrom l j from fun h0 i hi hi2 => by
        rcases Nat.lt_or_ge j i with h1 | h1
        · exact hs i hi (by omega)
        · obtain rfl : i = j := by omega
          exact h0)
      have HN := Lib.hid (show aheadB l[j + 1] l[j] = true → srt l = false from fun h0 => by
        cases hq : srt l
        · rfl
        · rw [(srt_at l).1 hq j hlj] at h0; cases h0)
      have cA := fun W => order_below l[j + 1] l[j] W
      clear hs
      rcases ordI_cases l[j + 1] l[j] with ⟨ho, ha⟩ | ⟨ho, ha⟩
      · rw [ho] at cA
        have HN2 := Lib.hid (HN.out ha)
        clear HN HS ho ha
        go_wp2_with fail
        refine wp_region_later (by kernel_rfl) (by kernel_rfl) ?_
        repeat (go_big_quiet_step (first | (go_at_call 88; exact later_of (cA _))))
        refine wpQuiet_nil ?_
        intro _ hw'
        obtain ⟨pq, rfl⟩ := hw'
        have hbn : Below w.heap.size w pq.W := hb.trans (pq.h.mono hz)
        clear hc1 hc2 hd1 hd2
        generalize pq.W = w2 at *
        go_wp2_with fail
        go_ret
        refine ⟨?_, hbn⟩
        rw [HN2.out]
        rfl
      · have hs2 := HS.out ha
        clear HN HS ha
        rcases ho with ho | ho <;> rw [ho] at cA <;> clear ho
        all_goals
          go_wp2_with fail
          refine wp_region_later (by kernel_rfl) (by kernel_rfl) ?_
          repeat (go_big_quiet_step (first | (go_at_call 88; exact later_of (cA _))))
          refine wpQuiet_nil ?_
          intro _ hw'
          obtain ⟨pq, rfl⟩ := hw'
          have hbn : Below w.heap.size w pq.W := hb.trans (pq.h.mono hz)
          clear hc1 hc2 hd1 hd2
          generalize pq.W = w2 at *
          go_wp2_with fail
          go_roundw
          case rel => exact ⟨j, by omega, by omega, by go_num, hs2, hbn⟩
          case measure => simp [intOf]
    · have hlt1 : (0 < k) = False := eq_false hlt
      go_wp2_with fail
      go_ret
      refine ⟨?_, hb⟩
      rw [(srt_at l).2 fun i h => hs i h (by omega)]
      rfl

theorem inOrder_any (v : Value) (l : List Pr) (w : World) (hv : Prs w w.heap.size v l) (h9 : l.length ≤ maxLen) :
    Calls Tryd.prog 79 #[v] w fun e w' => e = .returned (.bool (srt l)) ∧ Below w.heap.size w w' := by
  have cS := isSorted_any v l w hv h9
  generalize srt l = bb at *
  go_enter Tryd.func79, Tryd.ntmps79
  go_wp2_with (go_at_call 87; refine cS.mono ?_; rintro e w1 ⟨rfl, hb1⟩)
  go_ret
  exact ⟨rfl, hb1⟩

set_option maxHeartbeats 1000000 in
theorem tRight_any (x : Value) (f : Bool) (l : List Pr) (w : World) (hx : Tk w x f l) (h9 : l.length ≤ maxLen) :
    Calls Tryd.prog 63 #[x] w fun e w' => e = .returned (.bool (rightT l)) ∧ Below w.heap.size w w' := by
  obtain ⟨A, c, rfl, hc, hv⟩ := hx.form
  have cS := inOrder_any _ l _ (hv.alloc (.cells #[.bool f, .slice A l.length c] 28)) h9
  have hb0 := boxed w f (.slice A l.length c)
  have h9' : l.length ≤ 9223372036854775807 := h9
  unfold rightT
  generalize srt l = bb at *
  by_cases hl : l.length ≤ 2048
  · have hl1 : ((l.length : Int) ≤ 2048) = True := eq_true (by omega)
    have hl2 : (l.length ≤ 2048) = True := eq_true hl
    rw [decide_eq_true hl, Bool.and_true]
    clear hl
    go_enter Tryd.func63, Tryd.ntmps63
    go_wp2_with (go_at_call 79; refine cS.mono ?_; rintro e w1 ⟨rfl, hb1⟩)
    go_ret
    exact ⟨rfl, bstep hb0 hb1 hb0.size⟩
  · have hl1 : ((l.length : Int) ≤ 2048) = False := eq_false (by omega)
    have hl2 : (l.length ≤ 2048) = False := eq_false hl
    rw [decide_eq_false hl, Bool.and_false]
    clear hl
    go_enter Tryd.func63, Tryd.ntmps63
    go_wp2_with fail
    go_ret
    exact ⟨rfl, hb0⟩

theorem firstByte_any (x : Value) (f : Bool) (l : List Pr) (w : World) (hx : Tk w x f l) :
    Calls Tryd.prog 66 #[x] w fun e w' => e = .returned (.int .u8 (if f then 1 else 0)) ∧ Below w.heap.size w w' := by
  obtain ⟨A, c, rfl, hc, hv⟩ := hx.form
  have hb0 := boxed w f (.slice A l.length c)
  cases f
  all_goals
    go_enter Tryd.func66, Tryd.ntmps66
    go_wp2_with fail
    go_ret
    exact ⟨rfl, hb0⟩
end Go.Proofs.YtjipibpcnheniaaDoor
