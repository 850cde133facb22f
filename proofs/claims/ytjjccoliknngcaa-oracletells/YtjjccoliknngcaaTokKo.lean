/- The program's Keys. -/
import Derived.Test.YtjjccoliknngcaaTokG
import Derived.Test.YtjjccoliknngcaaTokE
import Derived.Test.YtjjccoliknngcaaOctA
import Derived.Deep.CutRange
import Derived.Sort.Grow
import Derived.Shelf.Lay
namespace Go.Proofs.Ytjjccoliknngcaa
open Go.RowKit

/-- The first k keys, the rest 0. -/
def keyRow (l : List Pr) (k : Nat) : List Value := (l.take k).map (fun p => Value.int .u64 (p.1 : Int)) ++ List.replicate (l.length - k) (.int .u64 0)
theorem keyRow_cell (l : List Pr) (k : Nat) (h : k < l.length) : (keyRow l k)[k]? = some (.int .u64 0) := by
  unfold keyRow
  rw [List.getElem?_append_right (by simp <;> omega)]
  simp only [List.length_map, List.length_take]
  rw [show k - min k l.length = 0 by omega, List.getElem?_replicate, if_pos (by omega)]
theorem keyRow_set (l : List Pr) (k : Nat) (h : k < l.length) : (keyRow l k).set k (.int .u64 ((l[k]).1 : Int)) = keyRow l (k + 1) := by
  unfold keyRow
  have hlen : ((l.take k).map (fun p => Value.int .u64 (p.1 : Int))).length = k := by simp; omega
  rw [List.set_append_right _ _ (by omega), hlen, Nat.sub_self, show l.length - k = (l.length - (k + 1)) + 1 by omega, List.replicate_succ, List.set_cons_zero, List.take_succ_eq_append_getElem h, List.map_append]
  simp
theorem keyRow_zero (l : List Pr) : keyRow l 0 = List.replicate l.length (.int .u64 0) := by simp [keyRow]
theorem keyRow_all (l : List Pr) : keyRow l l.length = (l.map (·.1)).map (fun n : Nat => Value.int .u64 (n : Int)) := by
  simp [keyRow]

set_option maxHeartbeats 2000000 in
set_option maxRecDepth 4000 in
theorem Keys_any (x : Value) (f : Bool) (l : List Pr) (root : Nat) (w : World) (hx : Tk w x f l) (h9 : l.length ≤ maxLen) :
    Calls Try.prog 29 #[x, .int .u64 root] w fun e w' => ∃ v, e = .returned (.tuple #[v, .bool (keysT root l).2]) ∧ Wds w' w'.heap.size v (keysT root l).1 ∧ Below w.heap.size w w' := by
  obtain ⟨A, c, rfl, hc, hv⟩ := hx.form
  obtain ⟨i0, hi, hz0, hz1, hz2⟩ := info_parts info_u64
  obtain ⟨w0, hw0⟩ : ∃ w0, w0 = w.alloc (.cells #[.bool f, .slice A l.length c] 40) := ⟨_, rfl⟩
  have b0 : Below w.heap.size w w0 := by rw [hw0]; exact boxed _ _ _
  have r0 : RowAt w0 w.heap.size 40 [.bool f, .slice A l.length c] := by rw [hw0]; exact RowAt.new w 40 #[.bool f, .slice A l.length c]
  have cR := tRight_any _ f l w0 (hx.on b0) h9
  have hv0 := hv.on b0
  have HW := Lib.hid hw0
  clear hw0 hx hv
  generalize hT : keysT root l = T
  cases hr : rightT l
  · rw [hr] at cR
    have HT := Lib.hid (show T = ([], false) by rw [← hT]; unfold keysT; rw [hr]; rfl)
    clear hr hT
    go_enter Try.func29, Try.ntmps29
    go_wp2_with fail
    rw [← HW.out]
    with_reducible refine cR.mono ?_
    rintro e w1 ⟨rfl, hb1⟩
    have hw1 := bstep b0 hb1 b0.size
    clear cR
    go_wp2_with fail
    go_ret2
    rw [HT.out]
    exact ⟨_, rfl, Elems.nil _ _ _, hw1⟩
  · rw [hr] at cR
    have hl := right_len hr
    have HY := Lib.hid (show keysB root l = true → T = (l.map (·.1), true) from fun h => by rw [← hT]; unfold keysT; rw [hr, h]; rfl)
    have HN := Lib.hid (show keysB root l = false → T = ([], false) from fun h => by rw [← hT]; unfold keysT; rw [hr, h]; rfl)
    clear hr hT
    obtain ⟨M, hM⟩ : ∃ M, M = madeCells (Value.int .u64 0).cells (l.length * i0.size) := ⟨_, rfl⟩
    have hMs : M.toList = List.replicate l.length (.int .u64 0) := by rw [hM, hz1, Nat.mul_one]; exact toList_madeCells_one _ _
    have hmk : ∀ W : World, (Instr.makeSlice 24 (.int .i64 (l.length : Int)) (.int .i64 (l.length : Int))).run Try.prog W = .ok (.slice (some ⟨W.heap.size, 0, none⟩) l.length l.length) (W.alloc (.cells M 25)) := fun W => by
      have hr := run_make (P := Try.prog) W 24 25 i0 (.int .u64 0) Try.underlying24 hi hz0 .i64 .i64 (l.length : Int) (l.length : Int) (by omega) (by omega) (by rw [hz2]; omega) (by omega)
      rw [hM]
      simpa using hr
    clear hM hi hz0 hz1 hz2
    have HMS := Lib.hid hMs
    clear hMs
    go_enter Try.func29, Try.ntmps29
    go_wp2_with fail
    rw [← HW.out]
    with_reducible refine cR.mono ?_
    rintro e w1 ⟨rfl, hb1⟩
    have hw1 := bstep b0 hb1 b0.size
    have r1 := r0.on hb1
    have hv1 := hv0.on hb1
    obtain ⟨u0, u1⟩ := r1.two
    have x0 := cellA u0 (.cells M 25)
    have x1 := cellA u1 (.cells M 25)
    obtain ⟨w2, hw2⟩ : ∃ w2, w2 = w1.alloc (.cells M 25) := ⟨_, rfl⟩
    have hb2 : Below w1.heap.size w1 w2 := by rw [hw2]; exact (Below.refl _ _).alloc (Nat.le_refl _) _
    have k2 : RowAt w2 w1.heap.size 25 (keyRow l 0) := by
      rw [keyRow_zero, ← HMS.out, hw2]; exact RowAt.new w1 25 M
    have HW2 := Lib.hid hw2
    clear cR r0 hv0 hb1 hw2
    go_wp2_with fail
    rw [← HW2.out]
    go_loopw [19] (fun i wr => ∃ k : Nat, k ≤ l.length ∧ i = .int .i64 k ∧ (∀ j, j < k → keyAt root l j) ∧ RowAt wr w1.heap.size 25 (keyRow l k) ∧ Below w1.heap.size w1 wr) (fun i _ => l.length - (intOf i).toNat)
    case atStart => exact ⟨0, Nat.zero_le _, rfl, fun j h => by omega, k2, hb2⟩
    case round =>
      obtain ⟨k, hk, rfl, hpre, hK, hb⟩ := hrel
      have hbw := bstep hw1 hb hw1.size
      clear x0 x1 u0 u1
      by_cases hlt : k < l.length
      · have hz := hb.size
        obtain ⟨ad, rfl, _, t1, t2⟩ := (hv1.below hb (Nat.le_refl _)).at_ hlt
        have hpre2 : keyAt root l k → ∀ j, j < k + 1 → keyAt root l j := fun h0 j hj => by
          rcases Nat.lt_or_ge j k with h1 | h1
          · exact hpre j h1
          · obtain rfl : j = k := by omega
            exact h0
        have HKC := Lib.hid (keyRow_cell l k hlt)
        have HKS := Lib.hid (keyRow_set l k hlt)
        obtain ⟨wa, hwa⟩ : ∃ wa, wa = wr.alloc (.cells #[.int .u64 ((l[k]).1 : Int), .int .u64 ((l[k]).2 : Int)] 27) := ⟨_, rfl⟩
        have hba : Below wr.heap.size wr wa := by rw [hwa]; exact (Below.refl _ _).alloc (Nat.le_refl _) _
        have ra : RowAt wa wr.heap.size 27 [.int .u64 ((l[k]).1 : Int), .int .u64 ((l[k]).2 : Int)] := by rw [hwa]; exact RowAt.new wr 27 #[.int .u64 ((l[k]).1 : Int), .int .u64 ((l[k]).2 : Int)]
        have hbr := bstep hb hba hb.size
        have HA := Lib.hid hwa
        obtain ⟨d0, d1⟩ := (r1.on hbr).laters
        obtain ⟨e0, e1⟩ := ra.laters
        clear hwa
        by_cases hroot : (l[k]).2 = root
        · rcases Nat.eq_zero_or_pos k with h0 | h0
          · have HP := Lib.hid (hpre2 fun _ => ⟨hroot, fun h => by omega⟩)
            have hne : (((l[k]).2 : Int) != (root : Int)) = false := by rw [hroot]; simp
            have hk0 : ((0 : Int) < (k : Int)) = False := eq_false (by omega)
            have hk1 : (0 < k) = False := eq_false (by omega)
            clear hpre2 hroot h0 hpre
            generalize (l[k]).2 = q2 at *
            generalize (l[k]).1 = q1 at *
            go_upto_region 7 with (fail)
            rw [← HA.out]
            refine wp_region_later (by kernel_rfl) (by kernel_rfl) ?_
            repeat (go_big_quiet_step (fail))
            refine wpQuiet_nil ?_
            intro _ hw'
            obtain ⟨pq, rfl⟩ := hw'
            have hbn := bstep hba pq.h hba.size
            have K3 := hK.on hbn
            have hb3 := bstep hb hbn hb.size
            have g1 := e0 pq
            have c3 : pq.W.cell? ⟨w1.heap.size, k, none⟩ = some (.int .u64 0) := by rw [K3.cell]; exact HKC.out
            have f3 := K3.frozen k
            have K4 := K3.set k (.int .u64 (q1 : Int))
            rw [HKS.out] at K4
            have hb4 := hb3.setCell (p := ⟨w1.heap.size, k, none⟩) (Nat.le_refl _) (.int .u64 (q1 : Int))
            clear d0 d1 e0 e1 t1 t2 hK K3 HKC
            generalize pq.W = w3 at *
            go_wp2_with fail
            go_roundw
            case rel => exact ⟨k + 1, by omega, by go_num, HP.out, K4, hb4⟩
            case measure => simp [intOf]; omega
          · obtain ⟨j, rfl⟩ : ∃ j, k = j + 1 := ⟨k - 1, by omega⟩
            obtain ⟨_, ee, s1, s2⟩ := hv1.cells hbr (show j < l.length by omega)
            cases ee
            have hrj : (l[j]).2 = root := (hpre j (by omega) (by omega)).1
            have hne : (((l[j + 1]).2 : Int) != (root : Int)) = false := by rw [hroot]; simp
            have ej : ((j + 1 : Nat) : Int) - 1 = (j : Int) := by omega
            have hk0 : ((0 : Int) < ((j + 1 : Nat) : Int)) = True := eq_true (by omega)
            have hq2 : (l[j + 1]).2 = (l[j]).2 := by rw [hroot, hrj]
            by_cases hkey : (l[j + 1]).1 = (l[j]).1
            · have HB := Lib.hid (HN.out (keysB_not fun h => (h hlt).2 (by omega) hkey))
              clear hpre2 hroot hpre HKC HKS hrj
              generalize (l[j + 1]).2 = q2 at *
              generalize (l[j + 1]).1 = q1 at *
              generalize (l[j]).1 = q0 at *
              generalize (l[j]).2 = q3 at *
              subst hkey
              subst hq2
              go_upto_region 7 with (fail)
              try rw [← HA.out]
              refine wp_region_later (by kernel_rfl) (by kernel_rfl) ?_
              repeat (go_big_quiet_step (fail))
              refine wpQuiet_nil ?_
              intro _ hw'
              obtain ⟨pq, rfl⟩ := hw'
              have hbwn := bstep hbw (bstep hba pq.h hba.size) hbw.size
              clear d0 d1 e0 e1 s1 s2 t1 t2 hK
              generalize pq.W = w3 at *
              go_wp2_with fail
              go_ret2
              rw [HB.out]
              exact ⟨_, rfl, Elems.nil _ _ _, hbwn⟩
            · have hkq : ((((l[j + 1]).1 : Nat) : Int) = ((l[j]).1 : Int)) = False := eq_false (by omega)
              have HP := Lib.hid (hpre2 fun _ => ⟨hroot, fun _ => hkey⟩)
              clear hpre2 hroot hkey hpre hrj hq2
              generalize (l[j + 1]).2 = q2 at *
              generalize (l[j + 1]).1 = q1 at *
              generalize (l[j]).1 = q0 at *
              generalize (l[j]).2 = q3 at *
              go_upto_region 7 with (fail)
              try rw [← HA.out]
              refine wp_region_later (by kernel_rfl) (by kernel_rfl) ?_
              repeat (go_big_quiet_step (fail))
              refine wpQuiet_nil ?_
              intro _ hw'
              obtain ⟨pq, rfl⟩ := hw'
              have hbn := bstep hba pq.h hba.size
              have K3 := hK.on hbn
              have hb3 := bstep hb hbn hb.size
              have g1 := e0 pq
              have c3 : pq.W.cell? ⟨w1.heap.size, j + 1, none⟩ = some (.int .u64 0) := by rw [K3.cell]; exact HKC.out
              have f3 := K3.frozen (j + 1)
              have K4 := K3.set (j + 1) (.int .u64 (q1 : Int))
              rw [HKS.out] at K4
              have hb4 := hb3.setCell (p := ⟨w1.heap.size, j + 1, none⟩) (Nat.le_refl _) (.int .u64 (q1 : Int))
              clear d0 d1 e0 e1 s1 s2 t1 t2 hK K3 HKC
              generalize pq.W = w3 at *
              go_wp2_with fail
              go_roundw
              case rel => exact ⟨j + 1 + 1, by omega, by go_num, HP.out, K4, hb4⟩
              case measure => simp [intOf]; omega
        · have hne : (((l[k]).2 : Int) != (root : Int)) = true := by rw [bne, beq_int, decide_eq_false hroot]; rfl
          have HB := Lib.hid (HN.out (keysB_not fun h => hroot (h hlt).1))
          clear hpre2 hroot hpre HKC HKS
          generalize (l[k]).2 = q2 at *
          generalize (l[k]).1 = q1 at *
          go_upto_region 7 with (fail)
          try rw [← HA.out]
          refine wp_region_later (by kernel_rfl) (by kernel_rfl) ?_
          repeat (go_big_quiet_step (fail))
          refine wpQuiet_nil ?_
          intro _ hw'
          obtain ⟨pq, rfl⟩ := hw'
          have hbwn := bstep hbw (bstep hba pq.h hba.size) hbw.size
          clear d0 d1 e0 e1 t1 t2 hK
          generalize pq.W = w3 at *
          go_wp2_with fail
          go_ret2
          rw [HB.out]
          exact ⟨_, rfl, Elems.nil _ _ _, hbwn⟩
      · obtain rfl : l.length = k := by omega
        have hok : keysB root l = true := (keysB_iff root l).2 fun j hj => hpre j hj hj
        have HYT := Lib.hid (HY.out hok)
        rw [keyRow_all] at hK
        have hE := Elems.row (enc := fun n : Nat => Value.int .u64 (n : Int)) hK
        rw [List.length_map] at hE
        clear hok hpre hK HY HN
        go_wp2_with fail
        go_ret2
        rw [HYT.out]
        exact ⟨_, rfl, hE, hbw⟩
end Go.Proofs.Ytjjccoliknngcaa
