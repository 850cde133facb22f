/- shuffle.through, Place, Back. -/
import Derived.Test.YtnbgmopjlpchkaaDoorShuB
namespace Go.Proofs.YtnbgmopjlpchkaaDoor
open Go.RowKit Go.Shelf
attribute [local go_sem] Oper.semAt_some

theorem keepsOthers_below {W W' : World} (h : Below W.heap.size W W') : KeepsOthers W W' :=
  ⟨h.size, fun k o hk _ => (h.block k (by
    rcases Nat.lt_or_ge k W.heap.size with c | c
    · exact c
    · rw [Array.getElem?_eq_none c] at hk; cases hk)).trans hk⟩
set_option maxRecDepth 100000 in
set_option maxHeartbeats 2000000 in
/-- through, of whatever tells rounds. -/
theorem through_in (N M seed I : Nat) (w : World) (hT : Tab w) (h1 : 1 ≤ N) (h2 : N ≤ 65536) (h3 : I < N) (h4 : M ≤ 90) (gf : Nat) (lb : Array Value) (eg : ∀ args w, (callFunc gf args).run Tryd.prog w = .ok (.enter gf args) w)
    (ys : List Nat) (hseq : ∀ W, Below w.heap.size w W → SeqStopsK Fence.wide 5 Tryd.prog gf lb encR (fun _ _ => True) (fun l => valsR l = ys) (fun _ => True) 90 W) :
    CallsIn Fence.wide 6 Tryd.prog 24 #[.func (.func gf) #[] lb, .int .i64 N, .int .i64 M, .int .u64 seed, .int .i64 I] w fun e w' => e = .returned (.tuple #[.int .i64 (runS (roundS N seed) ys I), .int .i64 0]) ∧ Below w.heap.size w w' := by
  have cA : ∀ W, Calls Tryd.prog 19 #[.int .i64 N, .int .i64 I] W fun e w' => e = .returned (.bool true) ∧ W = w' := fun W => by
    have := fits_any (N : Int) (I : Int) W
    rwa [show fitsN N I = true by simp [fitsN]; omega] at this
  have cB : ∀ W, Calls Tryd.prog 27 #[.int .i64 M] W fun e w' => e = .returned (.bool true) ∧ W = w' := fun W => by
    have := fitsRounds_any (M : Int) W
    rwa [show fitsR M = true by simp [fitsR]; omega] at this
  have t1 : Fence.wide.fn 19 := trivial
  have t2 : Fence.wide.fn 27 := trivial
  have t3 : Fence.wide.fn 20 := trivial
  refine callsIn_of_wp_marks Tryd.func24 rfl trivial ?_ rfl
  simp only [Tryd.ntmps24, List.size_toArray, List.length_cons, List.length_nil, Nat.reduceAdd, Nat.reduceSub, Array.replicate_succ, Array.replicate_zero, List.push_toArray, List.append_toArray, List.nil_append, List.cons_append]
  gi_wp2_with (fail)
  refine (callsIn_wide.2 (cA _)).mono ?_
  rintro e w1 ⟨rfl, rfl⟩
  gi_wp2_with (fail)
  refine (callsIn_wide.2 (cB _)).mono ?_
  rintro e w1 ⟨rfl, rfl⟩
  gi_wp2_with (fail)
  obtain ⟨W4, hW4⟩ : ∃ W4, W4 = ((w.alloc (.cells #[.int .i64 (N : Int)] 3)).alloc (.cells #[.int .u64 (seed : Int)] 22)).alloc (.cells #[.int .i64 (I : Int)] 3) := ⟨_, rfl⟩
  have r0 : RowAt W4 w.heap.size 3 [.int .i64 (N : Int)] := by rw [hW4]; exact ((RowAt.new w 3 #[.int .i64 (N : Int)]).alloc _).alloc _
  have r1 : RowAt W4 (w.heap.size + 1) 22 [.int .u64 (seed : Int)] := by
    have := (RowAt.new (w.alloc (.cells #[.int .i64 (N : Int)] 3)) 22 #[.int .u64 (seed : Int)]).alloc (.cells #[.int .i64 (I : Int)] 3)
    rw [World.size_alloc] at this
    rw [hW4]; exact this
  have r2 : RowAt W4 (w.heap.size + 1 + 1) 3 [.int .i64 (I : Int)] := by
    have := RowAt.new ((w.alloc (.cells #[.int .i64 (N : Int)] 3)).alloc (.cells #[.int .u64 (seed : Int)] 22)) 3 #[.int .i64 (I : Int)]
    rw [World.size_alloc, World.size_alloc] at this
    rw [hW4]; exact this
  have hs4 : W4.heap.size = w.heap.size + 3 := by rw [hW4]; simp only [World.size_alloc]
  have hB4 : Below w.heap.size w W4 := by
    rw [hW4]
    exact (((Below.refl _ w).alloc (Nat.le_refl _) _).alloc (by simp) _).alloc (by simp; omega) _
  rw [← hW4]
  clear hW4 cA cB
  have hsq := hseq W4 hB4
  clear hseq t1 t2
  refine wpIn_rangeFunc_ownG rfl (by omega) (gf := gf) (lb := lb) rfl trivial eg hsq (fun _ _ => trivial) (fun _ _ _ _ _ _ _ _ => trivial) (Below.refl _ _) (fun _ => rfl)
    (fun pre W => (RowAt W w.heap.size 3 [.int .i64 (N : Int)] ∧ RowAt W (w.heap.size + 1) 22 [.int .u64 (seed : Int)] ∧ RowAt W (w.heap.size + 1 + 1) 3 [.int .i64 (runS (roundS N seed) (valsR pre) I : Int)]) ∧ Below w.heap.size w W)
    (fun _ _ _ => False)
    (by
      rintro pre X Y row ⟨⟨b0, b1, b2⟩, h5⟩ hg hr
      have hr' := fun r e => (hr r e).2
      exact ⟨⟨b0.stays hg hr', b1.stays hg hr', b2.stays hg hr'⟩, h5.grown hg h5.size (fun k e => by have := (hr k e).1; omega)⟩)
    (fun _ _ _ _ _ hs _ _ => hs)
    ⟨⟨r0, r1, r2⟩, hB4⟩
    (fun x => { tmps := #[.func (.func gf) #[] lb, .int .i64 N, .int .i64 M, .int .u64 seed, .int .i64 I, undef, .pointer (some ⟨w.heap.size, 0, none⟩), undef, .pointer (some ⟨w.heap.size + 1, 0, none⟩), .pointer (some ⟨w.heap.size + 1 + 1, 0, none⟩), .int .i64 0, .int .i64 0, .int .i64 (x.val : Int), .int .i64 N, .int .i64 I, .bool true, .bool false, .bool false, .int .i64 M, .bool true, .bool false, .bool false, .func (.func gf) #[] lb, .int .i64 (x.val : Int), undef, undef, undef, undef, undef, undef], defers := [] }) ?assign ?body ?done ?stop
  case assign =>
    intro l x W K hK
    gi_wp2
    exact hK
  case body =>
    rintro l pre x W ⟨⟨b0, b1, b2⟩, hB⟩ hlt
    have c0 := b0.one
    have c1 := b1.one
    have c2 := b2.one
    have f2 := b2.frozen 0
    have hX : runS (roundS N seed) (valsR pre) I < N := runS_lt stS_lt _ h3
    have HX := Lib.hid (show runS (roundS N seed) (valsR (pre ++ [x])) I = roundS N seed x.val (runS (roundS N seed) (valsR pre) I) by rw [← runS_snoc (st := roundS N seed)]; simp [valsR])
    have cC := become_any N seed x.val (runS (roundS N seed) (valsR pre) I) W (hT.below hB hT.lt) h1 h2 hX x.isLt
    generalize runS (roundS N seed) (valsR pre) I = X at *
    gi_wp2_with (fail)
    refine ((callsIn_wide.2 cC).inRound l).mono ?_
    rintro e w3 ⟨rfl, hb3⟩
    have d0 := b0.on hb3
    have d1 := b1.on hb3
    have d2 := b2.on hb3
    have e2 := d2.frozen 0
    have g2 := d2.one
    have hB3 := bstep hB hb3 hB.size
    clear c0 c1 c2 f2 b0 b1 b2 cC
    gi_wp2_with (fail)
    refine ⟨((keepsOthers_below hb3).trans (KeepsOthers.setCell _ _ _)).from _, trivial, ⟨?_, ?_, ?_⟩, hB3.setCell (p := ⟨w.heap.size + 1 + 1, 0, none⟩) (by simp; omega) _⟩
    · exact d0.far (p := ⟨w.heap.size + 1 + 1, 0, none⟩) (by simp; omega) _
    · exact d1.far (p := ⟨w.heap.size + 1 + 1, 0, none⟩) (by simp) _
    · rw [HX.out]; exact d2.set 0 _
  case done =>
    rintro D zs W hD hS ⟨⟨b0, b1, b2⟩, hB⟩ hK
    have c2 := b2.one
    rw [hS] at c2
    gi_wp2
    refine ⟨by simp, .inl ⟨_, _, rfl, run_takeDeferred hK, ?_⟩⟩
    refine ⟨.tuple #[.int .i64 (runS (roundS N seed) ys I), .int .i64 0], by simp [results, Tryd.results24, go_sem], rfl, ?_⟩
    exact hB.trans (belowK_b (w := w) (Nat.le_refl _) W D _ _ (by omega) hK rfl rfl)
  case stop =>
    rintro D c pre W _ _ h _
    exact h.elim

theorem through_no (told : Value) (n m s i : Int) (w : World) (h : mayB n m i = false) :
    Calls Tryd.prog 24 #[told, .int .i64 n, .int .i64 m, .int .u64 s, .int .i64 i] w fun e w' => e = .returned (.tuple #[.int .i64 0, .int .i64 1]) ∧ Below w.heap.size w w' := by
  rw [mayB_eq] at h
  have cA := fun W => fits_any n i W
  have cB := fun W => fitsRounds_any m W
  have hB : Below w.heap.size w (((w.alloc (.cells #[.int .i64 n] 3)).alloc (.cells #[.int .u64 s] 22)).alloc (.cells #[.int .i64 i] 3)) := (((Below.refl _ w).alloc (Nat.le_refl _) _).alloc (by simp) _).alloc (by simp; omega) _
  obtain ⟨b, hb⟩ : ∃ b, fitsN n i = b := ⟨_, rfl⟩
  rw [hb] at h cA
  cases b
  · go_enter Tryd.func24, Tryd.ntmps24
    go_wp2_with (first | (with_reducible refine (cA _).mono ?_; rintro e w1 ⟨rfl, rfl⟩))
    go_ret2
    exact ⟨rfl, hB⟩
  · have h : fitsR m = false := by simpa using h
    rw [h] at cB
    go_enter Tryd.func24, Tryd.ntmps24
    go_wp2_with (first | (with_reducible refine (cA _).mono ?_; rintro e w1 ⟨rfl, rfl⟩) | (with_reducible refine (cB _).mono ?_; rintro e w1 ⟨rfl, rfl⟩))
    go_ret2
    exact ⟨rfl, hB⟩

theorem Place_no (n m s i : Int) (w : World) (h : mayB n m i = false) :
    Calls Tryd.prog 12 #[.int .i64 n, .int .i64 m, .int .u64 s, .int .i64 i] w fun e w' => e = .returned (.tuple #[.int .i64 0, .int .i64 1]) ∧ Below w.heap.size w w' := by
  have c0 := fun W => forth_any m W
  have c1 := fun told W => through_no told n m s i W h
  go_enter Tryd.func12, Tryd.ntmps12
  go_wp2_with fail
  with_reducible refine (c0 _).mono ?_
  rintro e w1 ⟨rfl, rfl⟩
  have B1 : Below w.heap.size w (w.alloc (.cells #[.int .i64 m] 3)) := (Below.refl _ _).alloc (Nat.le_refl _) _
  go_wp2_with fail
  with_reducible refine (c1 _ _).mono ?_
  rintro e w1 ⟨rfl, b1⟩
  go_wp2_with fail
  go_ret2
  exact ⟨rfl, bstep B1 b1 B1.size⟩
set_option maxHeartbeats 1000000 in
theorem Place_yes (N M seed I : Nat) (w : World) (hT : Tab w) (h1 : 1 ≤ N) (h2 : N ≤ 65536) (h3 : I < N) (h4 : M ≤ 90) :
    Calls Tryd.prog 12 #[.int .i64 N, .int .i64 M, .int .u64 seed, .int .i64 I] w fun e w' => e = .returned (.tuple #[.int .i64 (placeS (roundS N seed) M I), .int .i64 0]) ∧ Below w.heap.size w w' := by
  have c0 := fun W => forth_any (M : Int) W
  have B1 : Below w.heap.size w (w.alloc (.cells #[.int .i64 (M : Int)] 3)) := (Below.refl _ _).alloc (Nat.le_refl _) _
  have hc := (RowAt.new w 3 #[.int .i64 (M : Int)]).one
  have c1 := callsIn_wide.1 (through_in N M seed I (w.alloc (.cells #[.int .i64 (M : Int)] 3)) (hT.on B1) h1 h2 h3 h4 32 #[.pointer (some ⟨w.heap.size, 0, none⟩)] (enters_of Tryd.func32 (by kernel_rfl) rfl) (List.range M)
    (fun W hb => forth_stops M h4 Fence.wide 5 trivial rfl (by omega) w.heap.size W ((hb.cell (p := ⟨w.heap.size, 0, none⟩) (by simp)).trans hc)))
  go_enter Tryd.func12, Tryd.ntmps12
  go_wp2_with fail
  with_reducible refine (c0 _).mono ?_
  rintro e w1 ⟨rfl, rfl⟩
  go_wp2_with fail
  with_reducible refine c1.mono ?_
  rintro e w1 ⟨rfl, b1⟩
  go_wp2_with fail
  go_ret2
  exact ⟨rfl, bstep B1 b1 B1.size⟩

theorem Back_no (n m s i : Int) (w : World) (h : mayB n m i = false) :
    Calls Tryd.prog 14 #[.int .i64 n, .int .i64 m, .int .u64 s, .int .i64 i] w fun e w' => e = .returned (.tuple #[.int .i64 0, .int .i64 1]) ∧ Below w.heap.size w w' := by
  have c0 := fun W => backs_any m W
  have c1 := fun told W => through_no told n m s i W h
  go_enter Tryd.func14, Tryd.ntmps14
  go_wp2_with fail
  with_reducible refine (c0 _).mono ?_
  rintro e w1 ⟨rfl, rfl⟩
  have B1 : Below w.heap.size w (w.alloc (.cells #[.int .i64 m] 3)) := (Below.refl _ _).alloc (Nat.le_refl _) _
  go_wp2_with fail
  with_reducible refine (c1 _ _).mono ?_
  rintro e w1 ⟨rfl, b1⟩
  go_wp2_with fail
  go_ret2
  exact ⟨rfl, bstep B1 b1 B1.size⟩
set_option maxHeartbeats 1000000 in
theorem Back_yes (N M seed I : Nat) (w : World) (hT : Tab w) (h1 : 1 ≤ N) (h2 : N ≤ 65536) (h3 : I < N) (h4 : M ≤ 90) :
    Calls Tryd.prog 14 #[.int .i64 N, .int .i64 M, .int .u64 seed, .int .i64 I] w fun e w' => e = .returned (.tuple #[.int .i64 (backS (roundS N seed) M I), .int .i64 0]) ∧ Below w.heap.size w w' := by
  have c0 := fun W => backs_any (M : Int) W
  have B1 : Below w.heap.size w (w.alloc (.cells #[.int .i64 (M : Int)] 3)) := (Below.refl _ _).alloc (Nat.le_refl _) _
  have hc := (RowAt.new w 3 #[.int .i64 (M : Int)]).one
  have c1 := callsIn_wide.1 (through_in N M seed I (w.alloc (.cells #[.int .i64 (M : Int)] 3)) (hT.on B1) h1 h2 h3 h4 33 #[.pointer (some ⟨w.heap.size, 0, none⟩)] (enters_of Tryd.func33 (by kernel_rfl) rfl) ((List.range M).reverse)
    (fun W hb => back_stops M h4 Fence.wide 5 trivial rfl (by omega) w.heap.size W ((hb.cell (p := ⟨w.heap.size, 0, none⟩) (by simp)).trans hc)))
  go_enter Tryd.func14, Tryd.ntmps14
  go_wp2_with fail
  with_reducible refine (c0 _).mono ?_
  rintro e w1 ⟨rfl, rfl⟩
  go_wp2_with fail
  with_reducible refine c1.mono ?_
  rintro e w1 ⟨rfl, b1⟩
  go_wp2_with fail
  go_ret2
  exact ⟨rfl, bstep B1 b1 B1.size⟩
end Go.Proofs.YtnbgmopjlpchkaaDoor
