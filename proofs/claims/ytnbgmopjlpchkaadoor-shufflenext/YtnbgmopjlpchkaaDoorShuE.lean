/- shuffle.All. -/
import Derived.Test.YtnbgmopjlpchkaaDoorShuD
namespace Go.Proofs.YtnbgmopjlpchkaaDoor
open Go.RowKit Go.Shelf
attribute [local go_sem] Oper.semAt_some

/-- Where each number comes to by these rounds. -/
abbrev runL (st : Nat → Nat → Nat) (N : Nat) (q : List Nat) : List Nat := (List.range N).map (runS st q)
theorem runL_nil (st : Nat → Nat → Nat) (N : Nat) : runL st N [] = List.range N := by
  unfold runL
  conv => rhs; rw [← List.map_id (List.range N)]
  rfl
theorem swap_run (N seed R : Nat) (q : List Nat) : swapS N seed R (runL (roundS N seed) N q) N = runL (roundS N seed) N (R :: q) := by
  unfold swapS
  rw [swapTo_all]
  apply List.map_congr_left
  intro j hj
  have hj := List.mem_range.1 hj
  have hlt : roundS N seed R j < N := roundS_lt hj
  show (runL (roundS N seed) N q).getD (roundS N seed R j) 0 = _
  rw [runS_cons, List.getD_eq_getElem?_getD]
  simp [runL, List.getElem?_map, List.getElem?_range hlt]
theorem runL_length (st : Nat → Nat → Nat) (N : Nat) (q : List Nat) : (runL st N q).length = N := by simp [runL]

def fillL (N k : Nat) : List Nat := (List.range N).map fun j => if j < k then j else 0
theorem fillL_zero (N : Nat) : fillL N 0 = List.replicate N 0 := by
  apply List.ext_getElem
  · simp [fillL]
  · intro j h1 h2; simp [fillL]
theorem fillL_all (N : Nat) : fillL N N = List.range N := by
  unfold fillL
  conv => rhs; rw [← List.map_id (List.range N)]
  apply List.map_congr_left
  intro j hj
  rw [if_pos (List.mem_range.1 hj)]; rfl
theorem fillL_get (N k : Nat) (h : k < N) : (fillL N k)[k]? = some 0 := by simp [fillL, List.getElem?_range h]
theorem fillL_set (N k : Nat) : (fillL N k).set k k = fillL N (k + 1) := by
  apply List.ext_getElem
  · simp [fillL]
  · intro j h1 h2
    rw [List.getElem_set]
    by_cases e : k = j
    · subst e; simp [fillL]
    · simp [fillL, e]; split <;> split <;> omega
theorem intsV_zero (N : Nat) : intsV (List.replicate N 0) = List.replicate N (.int .i64 0) := by simp [intsV]

theorem keepsOthers_but {W W' : World} {g : Nat} {t : TypeId} {l : List Value} (hr : RowAt W g t l) (h : But g W W') : KeepsOthers W W' :=
  ⟨h.size, fun k o hk ho => (h.block k (by
    rcases Nat.lt_or_ge k W.heap.size with c | c
    · exact c
    · rw [Array.getElem?_eq_none c] at hk; cases hk) (by
    rintro rfl
    have := (show W.heap[k]? = _ from hr).symm.trans hk
    cases this; cases ho)).trans hk⟩
theorem All_no (n m s : Int) (w : World) (h : mayB n m 0 = false) :
    Calls Tryd.prog 16 #[.int .i64 n, .int .i64 m, .int .u64 s] w fun e w' => e = .returned (.tuple #[.slice none 0 0, .int .i64 1]) ∧ Below w.heap.size w w' := by
  rw [mayB_eq] at h
  have cA := fun W => fits_any n 0 W
  have cB := fun W => fitsRounds_any m W
  have hB : Below w.heap.size w (w.alloc (.cells #[.int .u64 s] 22)) := (Below.refl _ w).alloc (Nat.le_refl _) _
  obtain ⟨b, hb⟩ : ∃ b, fitsN n 0 = b := ⟨_, rfl⟩
  rw [hb] at h cA
  cases b
  · go_enter Tryd.func16, Tryd.ntmps16
    go_wp2_with (first | (with_reducible refine (cA _).mono ?_; rintro e w1 ⟨rfl, rfl⟩))
    go_ret2
    exact ⟨rfl, hB⟩
  · have h : fitsR m = false := by simpa using h
    rw [h] at cB
    go_enter Tryd.func16, Tryd.ntmps16
    go_wp2_with (first | (with_reducible refine (cA _).mono ?_; rintro e w1 ⟨rfl, rfl⟩) | (with_reducible refine (cB _).mono ?_; rintro e w1 ⟨rfl, rfl⟩))
    go_ret2
    exact ⟨rfl, hB⟩

set_option maxRecDepth 100000 in
set_option maxHeartbeats 2000000 in
theorem All_in (N M seed : Nat) (w : World) (hT : Tab w) (h1 : 1 ≤ N) (h2 : N ≤ 65536) (h4 : M ≤ 90) :
    CallsIn Fence.wide 6 Tryd.prog 16 #[.int .i64 N, .int .i64 M, .int .u64 seed] w fun e w' => ∃ g, e = .returned (.tuple #[.slice (some ⟨g, 0, none⟩) N N, .int .i64 0]) ∧ w.heap.size ≤ g ∧ RowAt w' g 3 (intsV (runL (roundS N seed) N (List.range M))) ∧ Below w.heap.size w w' := by
  obtain ⟨i0, hi, hz0, hz1, hz2⟩ := info_parts info_int
  obtain ⟨Z, hZ⟩ : ∃ Z, Z = madeCells (Value.int .i64 0).cells (N * i0.size) := ⟨_, rfl⟩
  have hZs : Z.toList = List.replicate N (.int .i64 0) := by rw [hZ, hz1, Nat.mul_one]; exact toList_madeCells_one _ _
  have hmk : ∀ W : World, (Instr.makeSlice 31 (.int .i64 (N : Int)) (.int .i64 (N : Int))).run Tryd.prog W = .ok (.slice (some ⟨W.heap.size, 0, none⟩) N N) (W.alloc (.cells Z 3)) := fun W => by
    have hr := run_make (P := Tryd.prog) W 31 3 i0 (.int .i64 0) Tryd.underlying31 hi hz0 .i64 .i64 (N : Int) (N : Int) (by omega) (by omega) (by rw [hz2]; omega) (by omega)
    rw [hZ]
    simpa using hr
  clear hZ hi hz0 hz1 hz2
  have cA : ∀ W, Calls Tryd.prog 19 #[.int .i64 N, .int .i64 0] W fun e w' => e = .returned (.bool true) ∧ W = w' := fun W => by
    have := fits_any (N : Int) 0 W
    rwa [show fitsN N 0 = true by simp [fitsN]; omega] at this
  have cB : ∀ W, Calls Tryd.prog 27 #[.int .i64 M] W fun e w' => e = .returned (.bool true) ∧ W = w' := fun W => by
    have := fitsRounds_any (M : Int) W
    rwa [show fitsR M = true by simp [fitsR]; omega] at this
  have t1 : Fence.wide.fn 19 := trivial
  have t2 : Fence.wide.fn 27 := trivial
  have t3 : Fence.wide.fn 26 := trivial
  have t4 : Fence.wide.fn 28 := trivial
  refine callsIn_of_wp_marks Tryd.func16 rfl trivial ?_ rfl
  simp only [Tryd.ntmps16, List.size_toArray, List.length_cons, List.length_nil, Nat.reduceAdd, Nat.reduceSub, Array.replicate_succ, Array.replicate_zero, List.push_toArray, List.append_toArray, List.nil_append, List.cons_append]
  gi_wp2_with (fail)
  refine (callsIn_wide.2 (cA _)).mono ?_
  rintro e w1 ⟨rfl, rfl⟩
  gi_wp2_with (fail)
  refine (callsIn_wide.2 (cB _)).mono ?_
  rintro e w1 ⟨rfl, rfl⟩
  gi_wp2_with (fail)
  clear cA cB hmk
  obtain ⟨W4, hW4⟩ : ∃ W4, W4 = ((w.alloc (.cells #[.int .u64 (seed : Int)] 22)).alloc (.cells Z 3)).alloc (.cells #[.slice (some ⟨w.heap.size + 1, 0, none⟩) N N] 31) := ⟨_, rfl⟩
  have r0 : RowAt W4 w.heap.size 22 [.int .u64 (seed : Int)] := by rw [hW4]; exact ((RowAt.new w 22 #[.int .u64 (seed : Int)]).alloc _).alloc _
  have r1 : RowAt W4 (w.heap.size + 1) 3 (intsV (fillL N 0)) := by
    have := (RowAt.new (w.alloc (.cells #[.int .u64 (seed : Int)] 22)) 3 Z).alloc (.cells #[.slice (some ⟨w.heap.size + 1, 0, none⟩) N N] 31)
    rw [World.size_alloc, hZs, ← intsV_zero, ← fillL_zero] at this
    rw [hW4]; exact this
  have r2 : RowAt W4 (w.heap.size + 1 + 1) 31 [.slice (some ⟨w.heap.size + 1, 0, none⟩) N N] := by
    have := RowAt.new ((w.alloc (.cells #[.int .u64 (seed : Int)] 22)).alloc (.cells Z 3)) 31 #[.slice (some ⟨w.heap.size + 1, 0, none⟩) N N]
    rw [World.size_alloc, World.size_alloc] at this
    rw [hW4]; exact this
  have hs4 : W4.heap.size = w.heap.size + 3 := by rw [hW4]; simp only [World.size_alloc]
  have hB4 : Below w.heap.size w W4 := by
    rw [hW4]
    exact (((Below.refl _ w).alloc (Nat.le_refl _) _).alloc (by simp) _).alloc (by simp; omega) _
  rw [← hW4]
  clear hW4 hZs
  gi_loopw [23] (fun i wr => ∃ k : Nat, k ≤ N ∧ i = .int .i64 k ∧ (RowAt wr w.heap.size 22 [.int .u64 (seed : Int)] ∧ RowAt wr (w.heap.size + 1) 3 (intsV (fillL N k)) ∧ RowAt wr (w.heap.size + 1 + 1) 31 [.slice (some ⟨w.heap.size + 1, 0, none⟩) N N]) ∧ Below w.heap.size w wr) (fun i _ => N - (intOf i).toNat)
  case atStart => exact ⟨0, Nat.zero_le _, rfl, ⟨r0, r1, r2⟩, hB4⟩
  case round =>
    obtain ⟨k, hk, rfl, ⟨b0, b1, b2⟩, hb⟩ := hrel
    clear r0 r1 r2 hB4 hs4
    by_cases hlt : k < N
    · have q2 := b2.one
      have q1 : wr.cell? ⟨w.heap.size + 1, k, none⟩ = some (.int .i64 0) := by rw [b1.cell]; exact intsV_get (fillL_get N k hlt)
      have z1 := b1.frozen k
      have R1 := b1.set k (.int .i64 (k : Int))
      rw [intsV_set, fillL_set] at R1
      have R0 := b0.far (p := ⟨w.heap.size + 1, k, none⟩) (by simp) (.int .i64 (k : Int))
      have R2 := b2.far (p := ⟨w.heap.size + 1, k, none⟩) (by simp) (.int .i64 (k : Int))
      have RB := hb.setCell (p := ⟨w.heap.size + 1, k, none⟩) (by simp) (.int .i64 (k : Int))
      clear b0 b1 b2 hb
      gi_wp2_with (fail)
      go_roundw
      case rel => exact ⟨k + 1, by omega, by go_num, ⟨R0, R1, R2⟩, RB⟩
      case measure => simp [intOf]; omega
    · obtain rfl : k = N := by omega
      have q2 := b2.one
      rw [fillL_all, ← runL_nil (roundS k seed)] at b1
      gi_wp2_with (fail)
      refine (callsIn_wide.2 (backs_any _ _)).mono ?_
      rintro e w1 ⟨rfl, hw1⟩
      have hc5 : w1.cell? ⟨wr.heap.size, 0, none⟩ = some (.int .i64 (M : Int)) := by rw [hw1]; exact cell_new1 _ _ _
      have d0 : RowAt w1 w.heap.size 22 [.int .u64 (seed : Int)] := by rw [hw1]; exact b0.alloc _
      have d1 : RowAt w1 (w.heap.size + 1) 3 (intsV (runL (roundS k seed) k [])) := by rw [hw1]; exact b1.alloc _
      have d2 : RowAt w1 (w.heap.size + 1 + 1) 31 [.slice (some ⟨w.heap.size + 1, 0, none⟩) k k] := by rw [hw1]; exact b2.alloc _
      have hB5 : Below w.heap.size w w1 := by rw [hw1]; exact hb.alloc hb.size _
      have hs5 : w.heap.size + 3 ≤ w1.heap.size := by rw [hw1, World.size_alloc]; have := b2.lt; omega
      clear b0 b1 b2 q2 hb hw1
      gi_wp2_with (fail)
      clear t1 t2 t3
      have hst : ∀ W0, W0 = w1 → SeqStopsK Fence.wide (6 - 1) Tryd.prog 33 #[.pointer (some ⟨wr.heap.size, 0, none⟩)] encR (fun _ _ => True) (fun ys => valsR ys = (List.range M).reverse) (fun _ => True) 90 W0 := fun W0 h0 => by
        subst h0; exact back_stops M h4 Fence.wide 5 trivial rfl (by omega) wr.heap.size _ hc5
      refine wpIn_rangeFunc_ownG rfl (by omega) (gf := 33) (lb := #[.pointer (some ⟨wr.heap.size, 0, none⟩)]) rfl trivial (enters_of Tryd.func33 (by kernel_rfl) rfl) (hst w1 rfl) (fun _ _ => trivial) (fun _ _ _ _ _ _ _ _ => trivial) (Below.refl _ _) (fun _ => rfl)
        (fun pre W => (RowAt W w.heap.size 22 [.int .u64 (seed : Int)] ∧ RowAt W (w.heap.size + 1) 3 (intsV (runL (roundS k seed) k (valsR pre).reverse)) ∧ RowAt W (w.heap.size + 1 + 1) 31 [.slice (some ⟨w.heap.size + 1, 0, none⟩) k k]) ∧ Below w.heap.size w W)
        (fun _ _ _ => False)
        (by
          rintro pre X Y row ⟨⟨b0, b1, b2⟩, h5⟩ hg hr
          have hr' := fun r e => (hr r e).2
          exact ⟨⟨b0.stays hg hr', b1.stays hg hr', b2.stays hg hr'⟩, h5.grown hg h5.size (fun k e => by have := (hr k e).1; omega)⟩)
        (fun _ _ _ _ _ hs _ _ => hs)
        ⟨⟨d0, d1, d2⟩, hB5⟩
        (fun x => { tmps := #[.int .i64 k, .int .i64 M, .int .u64 seed, undef, undef, .pointer (some ⟨w.heap.size, 0, none⟩), .slice none 0 0, .int .i64 0, .pointer (some ⟨w.heap.size + 1 + 1, 0, none⟩), u9, .int .i64 (x.val : Int), .int .i64 k, .bool true, .bool false, .bool false, .int .i64 M, .bool true, .bool false, .bool false, .int .i64 k, .slice (some ⟨w.heap.size + 1, 0, none⟩) k k, .slice (some ⟨w.heap.size + 1, 0, none⟩) k k, .int .i64 k, .int .i64 k, .bool false, u25, u26, u27, u28, u29, u30, .int .i64 M, .func (.func 33) #[] #[.pointer (some ⟨wr.heap.size, 0, none⟩)], .int .i64 (x.val : Int), undef, undef, undef, undef, undef], defers := [] }) ?assign ?body ?done ?stop
      case assign =>
        intro l x W K hK
        gi_wp2
        exact hK
      case body =>
        rintro l pre x W ⟨⟨b0, b1, b2⟩, hB⟩ hlt
        have c0 := b0.one
        have c2 := b2.one
        have HX := Lib.hid (show swapS k seed x.val (runL (roundS k seed) k (valsR pre).reverse) k = runL (roundS k seed) k (valsR (pre ++ [x])).reverse by rw [swap_run]; simp [valsR])
        have cS := swap_any k seed x.val (w.heap.size + 1) _ W (hT.below hB hT.lt) (by omega) h1 h2 x.isLt (runL_length _ _ _) b1
        rw [HX.out] at cS
        gi_wp2_with (fail)
        refine ((callsIn_wide.2 cS).inRound l).mono ?_
        rintro e w3 ⟨rfl, hr3, hb3⟩
        gi_wp2_with (fail)
        exact ⟨(keepsOthers_but b1 hb3).from _, trivial, ⟨hb3.rowAt b0 (by simp), hr3, hb3.rowAt b2 (by simp)⟩, But.below hB hb3 (by simp) hB.size⟩
      case done =>
        rintro D zs W hD hS ⟨⟨b0, b1, b2⟩, hB⟩ hK
        have c2 := b2.one
        rw [hS, List.reverse_reverse] at b1
        gi_wp2
        refine ⟨by simp, .inl ⟨_, _, rfl, run_takeDeferred hK, ?_⟩⟩
        refine ⟨.tuple #[.slice (some ⟨w.heap.size + 1, 0, none⟩) k k, .int .i64 0], by simp [results, Tryd.results16, go_sem], w.heap.size + 1, rfl, by omega, ?_, ?_⟩
        · exact (World.putObj_heap_other (by omega)).trans b1
        · exact hB.trans (belowK_b (w := w) (Nat.le_refl _) W D _ _ (by omega) hK rfl rfl)
      case stop =>
        rintro D c pre W _ _ h _
        exact h.elim
theorem All_yes (N M seed : Nat) (w : World) (hT : Tab w) (h1 : 1 ≤ N) (h2 : N ≤ 65536) (h4 : M ≤ 90) :
    Calls Tryd.prog 16 #[.int .i64 N, .int .i64 M, .int .u64 seed] w fun e w' => ∃ g, e = .returned (.tuple #[.slice (some ⟨g, 0, none⟩) N N, .int .i64 0]) ∧ w.heap.size ≤ g ∧ RowAt w' g 3 (intsV (runL (roundS N seed) N (List.range M))) ∧ Below w.heap.size w w' :=
  callsIn_wide.1 (All_in N M seed w hT h1 h2 h4)
end Go.Proofs.YtnbgmopjlpchkaaDoor
