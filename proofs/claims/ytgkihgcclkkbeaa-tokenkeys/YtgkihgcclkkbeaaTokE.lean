/- The document's own answers for layer 5: Keys. -/
import Derived.Test.YtgkihgcclkkbeaaTokC
namespace Go.Proofs.Ytgkihgcclkkbeaa
open Go.RowKit

theorem info_u64 : (Try.prog.info? 26).map (fun i => (i.zero, i.size, i.bytes)) = some (some (.int .u64 0), 1, 8) := by kernel_rfl
abbrev Wds := Elems (fun n : Nat => Value.int .u64 (n : Int))
/-- Each pair has that root, and no key stands beside itself. -/
def keyAt (root : Nat) (l : List Pr) (i : Nat) : Prop := ∀ h : i < l.length, (l[i]).2 = root ∧ (0 < i → (l[i]).1 ≠ (l[i - 1]).1)
instance (root : Nat) (l : List Pr) (i : Nat) : Decidable (keyAt root l i) := by unfold keyAt; infer_instance
def keysB (root : Nat) (l : List Pr) : Bool := (List.range l.length).all fun i => decide (keyAt root l i)
theorem keysB_iff (root : Nat) (l : List Pr) : keysB root l = true ↔ ∀ i, keyAt root l i := by
  unfold keysB
  rw [List.all_eq_true]
  constructor
  · intro h i
    by_cases hi : i < l.length
    · exact of_decide_eq_true (h i (List.mem_range.2 hi))
    · intro h'; exact absurd h' hi
  · intro h i _; exact decide_eq_true (h i)
theorem keysB_not {root : Nat} {l : List Pr} {i : Nat} (h : ¬ keyAt root l i) : keysB root l = false := by
  cases e : keysB root l
  · rfl
  · exact absurd ((keysB_iff root l).1 e i) h
/-- What Keys tells. -/
def keysT (root : Nat) (l : List Pr) : List Nat × Bool := if rightT l && keysB root l then (l.map (·.1), true) else ([], false)

set_option maxHeartbeats 2000000 in
set_option maxRecDepth 4000 in
theorem rKeys_any (x : Value) (f : Bool) (l : List Pr) (root : Nat) (w : World) (hx : Tk w x f l) (h9 : l.length ≤ maxLen) :
    Calls Try.prog 16 #[x, .int .u64 root] w fun e w' => ∃ v, e = .returned (.tuple #[v, .bool (keysT root l).2]) ∧ Wds w' w'.heap.size v (keysT root l).1 ∧ Below w.heap.size w w' := by
  obtain ⟨A, c, rfl, hc, hv⟩ := hx.form
  obtain ⟨i0, hi, hz0, hz1, hz2⟩ := info_parts info_u64
  obtain ⟨w0, hw0⟩ : ∃ w0, w0 = w.alloc (.cells #[.bool f, .slice A l.length c] 24) := ⟨_, rfl⟩
  have b0 : Below w.heap.size w w0 := by rw [hw0]; exact boxed _ _ _
  have r0 : RowAt w0 w.heap.size 24 [.bool f, .slice A l.length c] := by rw [hw0]; exact RowAt.new w 24 #[.bool f, .slice A l.length c]
  have cR := rRight_any _ f l w0 (hx.on b0) h9
  have hv0 := hv.on b0
  have HW := Lib.hid hw0
  clear hw0 hx hv
  generalize hT : keysT root l = T
  cases hr : rightT l
  · rw [hr] at cR
    have HT := Lib.hid (show T = ([], false) by rw [← hT]; unfold keysT; rw [hr]; rfl)
    clear hr hT
    go_enter Try.func16, Try.ntmps16
    go_wp2_with fail
    rw [← HW.out]
    with_reducible refine cR.mono ?_
    rintro e w1 ⟨rfl, hb1⟩
    have hw1 := bstep b0 hb1 b0.size
    clear cR
    go_wp2_with fail
    go_ret2
    rw [HT.out]
    exact ⟨_, rfl, Elems.nil _ _ _, hw1⟩
  · rw [hr] at cR
    have hl := right_len hr
    have HY := Lib.hid (show keysB root l = true → T = (l.map (·.1), true) from fun h => by rw [← hT]; unfold keysT; rw [hr, h]; rfl)
    have HN := Lib.hid (show keysB root l = false → T = ([], false) from fun h => by rw [← hT]; unfold keysT; rw [hr, h]; rfl)
    clear hr hT
    go_enter Try.func16, Try.ntmps16
    go_wp2_with fail
    rw [← HW.out]
    with_reducible refine cR.mono ?_
    rintro e w1 ⟨rfl, hb1⟩
    have hw1 := bstep b0 hb1 b0.size
    obtain ⟨x0, x1⟩ := (r0.on hb1).two
    clear cR
    go_wp2_with fail
    go_loopw [7, 8] (fun o i wr => ∃ k : Nat, k ≤ l.length ∧ i = .int .i64 k ∧ (∀ j, j < k → keyAt root l j) ∧ wr.ownsRow w0.heap.size 26 1 o k ((l.take k).map fun p => .int .u64 (p.1 : Int)) ∧ Below w0.heap.size w0 wr) (fun _ i _ => l.length - (intOf i).toNat)
    case atStart => exact ⟨0, Nat.zero_le _, rfl, fun j h => by omega, World.ownsRow_nil _ _ _ _, hb1⟩
    case round =>
      obtain ⟨k, hk, rfl, hpre, hown, hb⟩ := hrel
      have hbw := bstep b0 hb b0.size
      obtain ⟨y0, y1⟩ := (r0.on hb).two
      clear x0 x1
      by_cases hlt : k < l.length
      · have hz := hb.size
        obtain ⟨ad, rfl, c1, c2⟩ := hv0.cells hb hlt
        obtain ⟨d0, d1⟩ := (r0.on hb).laters
        have hpre2 : keyAt root l k → ∀ j, j < k + 1 → keyAt root l j := fun h0 j hj => by
          rcases Nat.lt_or_ge j k with h1 | h1
          · exact hpre j h1
          · obtain rfl : j = k := by omega
            exact h0
        have HR := Lib.hid (show ((l.take (k + 1)).map fun p => Value.int .u64 (p.1 : Int)) = ((l.take k).map fun p => Value.int .u64 (p.1 : Int)) ++ [.int .u64 ((l[k]).1 : Int)] by
          rw [List.take_succ_eq_append_getElem hlt, List.map_append]; rfl)
        by_cases hroot : (l[k]).2 = root
        · rcases Nat.eq_zero_or_pos k with h0 | h0
          · have HP := Lib.hid (hpre2 fun _ => ⟨hroot, fun h => by omega⟩)
            have hne : (((l[k]).2 : Int) != (root : Int)) = false := by rw [hroot]; simp
            have hk0 : ((0 : Int) < (k : Int)) = False := eq_false (by omega)
            have hk1 : (0 < k) = False := eq_false (by omega)
            clear hpre2 hroot h0 hpre
            generalize (l[k]).2 = q2 at *
            generalize (l[k]).1 = q1 at *
            go_wp2_with fail
            refine wp_region_later (by kernel_rfl) (by kernel_rfl) ?_
            repeat (go_big_quiet_step (fail))
            refine wpQuiet_nil ?_
            intro _ hw'
            obtain ⟨pq, rfl⟩ := hw'
            have hbn := bstep hb pq.h hz
            have hbwn := bstep b0 hbn b0.size
            have hown2 := owns_below hown pq.h
            have k1 := c1 pq
            have k2 := d0 pq
            have k3 := d1 pq
            clear c1 c2 d0 d1 hown y0 y1
            have hz3 := hbn.size
            have hown' : ∀ g, u7.ownBlock = some g → w0.heap.size ≤ g := fun g hg => (hown2.lt g hg).1
            generalize pq.W = w3 at *
            go_wp2_with (at_builtin; refine wpList_append_own _ rfl _ _ 34 rfl w0.heap.size 26 i0 (.int .u64 0) 1 8 Try.underlying34 hi hz0 hz1 hz2 rfl (by decide) _ _ _ rfl (hown2.alloc _) ⟨w3.heap.size, 0, none⟩ 1 1 [.int .u64 (q1 : Int)] rfl rfl ?c1 ?c2 ?c3 ?c4 ?c5 ?_)
            case c1 =>
              intro j u hj
              match j, hj with
              | 0, hj => simp at hj; subst hj; simp [Addr.add]
            case c2 => intro u hu0; simp at hu0; subst hu0; rfl
            case c3 => unfold maxLen; omega
            case c4 => omega
            case c5 => simp; omega
            intro v' w4 hown4 hgrow _
            have hbw4 : Below w0.heap.size w0 w4 := (hbn.alloc hz3 _).grown hgrow (by simp; omega) (fun g hg => hown' g hg)
            have R : w4.ownsRow w0.heap.size 26 1 v' (k + 1) ((l.take (k + 1)).map fun p => .int .u64 (p.1 : Int)) := by
              rw [HR.out, List.map_take]; exact hown4
            clear hown4 hgrow hown2 hbn
            go_wp2_with fail
            go_roundw
            case rel => exact ⟨k + 1, by omega, by go_num, HP.out, R, hbw4⟩
            case measure => simp [intOf]; omega
          · obtain ⟨j, rfl⟩ : ∃ j, k = j + 1 := ⟨k - 1, by omega⟩
            obtain ⟨_, ee, e1, e2⟩ := hv0.cells hb (show j < l.length by omega)
            cases ee
            have hne : (((l[j + 1]).2 : Int) != (root : Int)) = false := by rw [hroot]; simp
            have ej : ((j + 1 : Nat) : Int) - 1 = (j : Int) := by omega
            have hk0 : ((0 : Int) < ((j + 1 : Nat) : Int)) = True := eq_true (by omega)
            by_cases hkey : (l[j + 1]).1 = (l[j]).1
            · have hkq : (((l[j + 1]).1 : Int) == ((l[j]).1 : Int)) = true := by rw [hkey]; simp
              have HB := Lib.hid (HN.out (keysB_not fun h => (h hlt).2 (by omega) hkey))
              clear hpre2 hroot hkey hpre HR
              generalize (l[j + 1]).2 = q2 at *
              generalize (l[j + 1]).1 = q1 at *
              generalize (l[j]).1 = q0 at *
              go_wp2_with fail
              refine wp_region_later (by kernel_rfl) (by kernel_rfl) ?_
              repeat (go_big_quiet_step (fail))
              refine wpQuiet_nil ?_
              intro _ hw'
              obtain ⟨pq, rfl⟩ := hw'
              have hbn := bstep hb pq.h hz
              have hbwn := bstep b0 hbn b0.size
              have hown2 := owns_below hown pq.h
              clear c1 c2 d0 d1 e1 e2 hown
              generalize pq.W = w3 at *
              go_wp2_with fail
              go_ret2
              rw [HB.out]
              exact ⟨_, rfl, Elems.nil _ _ _, hbwn⟩
            · have hkq : (((l[j + 1]).1 : Int) == ((l[j]).1 : Int)) = false := by rw [beq_int]; exact decide_eq_false hkey
              have HP := Lib.hid (hpre2 fun _ => ⟨hroot, fun _ => hkey⟩)
              clear hpre2 hroot hkey hpre
              generalize (l[j + 1]).2 = q2 at *
              generalize (l[j + 1]).1 = q1 at *
              generalize (l[j]).1 = q0 at *
              go_wp2_with fail
              refine wp_region_later (by kernel_rfl) (by kernel_rfl) ?_
              repeat (go_big_quiet_step (fail))
              refine wpQuiet_nil ?_
              intro _ hw'
              obtain ⟨pq, rfl⟩ := hw'
              have hbn := bstep hb pq.h hz
              have hbwn := bstep b0 hbn b0.size
              have hown2 := owns_below hown pq.h
              have k1 := c1 pq
              have k2 := d0 pq
              have k3 := d1 pq
              clear c1 c2 d0 d1 e1 e2 hown y0 y1
              have hz3 := hbn.size
              have hown' : ∀ g, u7.ownBlock = some g → w0.heap.size ≤ g := fun g hg => (hown2.lt g hg).1
              generalize pq.W = w3 at *
              go_wp2_with (at_builtin; refine wpList_append_own _ rfl _ _ 34 rfl w0.heap.size 26 i0 (.int .u64 0) 1 8 Try.underlying34 hi hz0 hz1 hz2 rfl (by decide) _ _ _ rfl (hown2.alloc _) ⟨w3.heap.size, 0, none⟩ 1 1 [.int .u64 (q1 : Int)] rfl rfl ?c1 ?c2 ?c3 ?c4 ?c5 ?_)
              case c1 =>
                intro j u hj
                match j, hj with
                | 0, hj => simp at hj; subst hj; simp [Addr.add]
              case c2 => intro u hu0; simp at hu0; subst hu0; rfl
              case c3 => unfold maxLen; omega
              case c4 => omega
              case c5 => simp; omega
              intro v' w4 hown4 hgrow _
              have hbw4 : Below w0.heap.size w0 w4 := (hbn.alloc hz3 _).grown hgrow (by simp; omega) (fun g hg => hown' g hg)
              have R : w4.ownsRow w0.heap.size 26 1 v' (j + 1 + 1) ((l.take (j + 1 + 1)).map fun p => .int .u64 (p.1 : Int)) := by
                rw [HR.out, List.map_take]; exact hown4
              clear hown4 hgrow hown2 hbn
              go_wp2_with fail
              go_roundw
              case rel => exact ⟨j + 1 + 1, by omega, by go_num, HP.out, R, hbw4⟩
              case measure => simp [intOf]; omega
        · have hne : (((l[k]).2 : Int) != (root : Int)) = true := by rw [bne, beq_int, decide_eq_false hroot]; rfl
          have HB := Lib.hid (HN.out (keysB_not fun h => hroot (h hlt).1))
          clear hpre2 hroot hpre HR
          generalize (l[k]).2 = q2 at *
          go_wp2_with fail
          refine wp_region_later (by kernel_rfl) (by kernel_rfl) ?_
          repeat (go_big_quiet_step (fail))
          refine wpQuiet_nil ?_
          intro _ hw'
          obtain ⟨pq, rfl⟩ := hw'
          have hbn := bstep hb pq.h hz
          have hbwn := bstep b0 hbn b0.size
          have hown2 := owns_below hown pq.h
          clear c1 c2 d0 d1 hown
          generalize pq.W = w3 at *
          go_wp2_with fail
          go_ret2
          rw [HB.out]
          exact ⟨_, rfl, Elems.nil _ _ _, hbwn⟩
      · go_wp2_with fail
        go_ret2
        have hok : keysB root l = true := (keysB_iff root l).2 fun j hj => hpre j (by omega) hj
        rw [HY.out hok]
        refine ⟨_, rfl, ?_, hbw⟩
        rw [List.take_of_length_le (by omega)] at hown
        exact Elems.own (enc := fun n : Nat => Value.int .u64 (n : Int)) (xs := l.map (·.1)) (by rw [List.length_map, List.map_map, show l.length = k by omega]; exact hown)
end Go.Proofs.Ytgkihgcclkkbeaa
