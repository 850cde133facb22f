/- bits.Disjoint, bits.Subset. -/
import Derived.Test.YtpojpikndlcbkaaBitJ
namespace Go.Proofs.Ytpojpikndlcbkaa
open Go.RowKit Go.Shelf
attribute [local go_sem] Oper.semAt_some

def disjOf (n : Int) (a : List Int) (m : Int) (b : List Int) : Bool := alikeB n a m b && !(a.any fun x => decide (x ∈ b))
def subOf (n : Int) (a : List Int) (m : Int) (b : List Int) : Bool := alikeB n a m b && a.all fun x => decide (x ∈ b)
theorem both_nil (a b : List Int) : bothOf a b = [] ↔ (a.any fun x => decide (x ∈ b)) = false := by
  unfold bothOf
  rw [List.filter_eq_nil_iff]
  simp
theorem both_all (a b : List Int) : ((bothOf a b).length = a.length) ↔ (a.all fun x => decide (x ∈ b)) = true := by
  unfold bothOf
  rw [List.length_filter_eq_length_iff]
  simp

set_option maxRecDepth 100000 in
set_option maxHeartbeats 2000000 in
theorem Disjoint_in (x y : Value) (n m : Int) (a b : List Int) (w : World) (hx : Bt w x n a) (hy : Bt w y m b) (h9 : a.length ≤ maxLen) (h9b : b.length ≤ maxLen) :
    CallsIn Fence.wide 6 Try.prog 18 #[x, y] w fun e w' => e = .returned (.bool (disjOf n a m b)) ∧ Below w.heap.size w w' := by
  obtain ⟨A, c, rfl, hc, hv⟩ := hx.form
  obtain ⟨A', c', rfl, hc', hv'⟩ := hy.form
  obtain ⟨W0, hW0⟩ : ∃ W0, W0 = ((w.alloc (.cells #[.int .i64 n, .slice A a.length c] 24)).alloc (.cells #[.int .i64 m, .slice A' b.length c'] 24)).alloc (.cells #[.bool false] 4) := ⟨_, rfl⟩
  have p0 : RowAt W0 w.heap.size 24 [.int .i64 n, .slice A a.length c] := by rw [hW0]; exact ((RowAt.new w 24 #[.int .i64 n, .slice A a.length c]).alloc _).alloc _
  have p1 : RowAt W0 (w.heap.size + 1) 24 [.int .i64 m, .slice A' b.length c'] := by
    have := (RowAt.new (w.alloc (.cells #[.int .i64 n, .slice A a.length c] 24)) 24 #[.int .i64 m, .slice A' b.length c']).alloc (.cells #[.bool false] 4)
    rw [World.size_alloc] at this
    rw [hW0]; exact this
  have p2 : RowAt W0 (w.heap.size + 1 + 1) 4 [.bool false] := by
    have := RowAt.new ((w.alloc (.cells #[.int .i64 n, .slice A a.length c] 24)).alloc (.cells #[.int .i64 m, .slice A' b.length c'] 24)) 4 #[.bool false]
    rw [World.size_alloc, World.size_alloc] at this
    rw [hW0]; exact this
  have hB0 : Below w.heap.size w W0 := by rw [hW0]; exact (((Below.refl _ w).alloc (Nat.le_refl _) _).alloc (by simp) _).alloc (by simp; omega) _
  have hs0 : w.heap.size + 3 ≤ W0.heap.size := by rw [hW0]; simp
  have HA := alike_any _ _ _ _ _ _ W0 (hx.on hB0) (hy.on hB0) h9 h9b
  have t42 : Fence.wide.fn 36 := trivial
  have t43 : Fence.wide.fn 37 := trivial
  have HDJ : Hid (disjOf n a m b = (alikeB n a m b && !(a.any fun x => decide (x ∈ b)))) := rfl
  refine callsIn_of_wp_marks Try.func18 rfl trivial ?_ rfl
  simp only [Try.ntmps18, List.size_toArray, List.length_cons, List.length_nil, Nat.reduceAdd, Nat.reduceSub, Array.replicate_succ, Array.replicate_zero, List.push_toArray, List.append_toArray, List.nil_append, List.cons_append]
  gi_wp2_with (fail)
  rw [← hW0]
  refine (callsIn_wide.2 HA).mono ?_
  rintro e w1 ⟨rfl, hb1⟩
  have hw1 : Below w.heap.size w w1 := hB0.trans (hb1.mono hB0.size)
  have q0 := p0.below hb1 p0.lt
  have q1 := p1.below hb1 p1.lt
  have q2 := p2.below hb1 p2.lt
  have hs1 : w.heap.size + 3 ≤ w1.heap.size := Nat.le_trans hs0 hb1.size
  have c00 := q0.cell 0
  have c01 := q0.cell 1
  have c10 := q1.cell 0
  have c11 := q1.cell 1
  have c2 := q2.cell 0
  have f2 := q2.frozen 0
  simp only [List.getElem?_cons_zero, List.getElem?_cons_succ] at c00 c01 c10 c11 c2
  clear hW0 p0 p1 p2 hB0 hs0 HA hb1
  cases hal : alikeB n a m b
  · have e2 := (q2.set 0 (.bool false)).cell 0
    simp only [List.set_cons_zero, List.getElem?_cons_zero] at e2
    gi_wp2_with (fail)
    refine ⟨.bool false, by simp [results, Try.results18, go_sem, e2], ?_, hw1.setCell (p := ⟨w.heap.size + 1 + 1, 0, none⟩) (by simp; omega) _⟩
    rw [HDJ.out, hal]; rfl
  · obtain ⟨hra, hrb⟩ : a.Pairwise (· < ·) ∧ b.Pairwise (· < ·) := by
      simp only [alikeB, Bool.and_eq_true] at hal
      exact ⟨((rightB_iff _ _).1 hal.1.1).2.1, ((rightB_iff _ _).1 hal.1.2).2.1⟩
    gi_wp2_with (fail)
    refine (shared_in Fence.wide 5 trivial rfl _ _ _ _ _ _ _ _ w1).mono ?_
    rintro e W5 ⟨rfl, hW5⟩
    have ra : RowAt W5 w1.heap.size 24 [.int .i64 n, .slice A a.length c] := by rw [hW5]; exact (RowAt.new w1 24 #[.int .i64 n, .slice A a.length c]).alloc _
    have rb : RowAt W5 (w1.heap.size + 1) 24 [.int .i64 m, .slice A' b.length c'] := by
      have := RowAt.new (w1.alloc (.cells #[.int .i64 n, .slice A a.length c] 24)) 24 #[.int .i64 m, .slice A' b.length c']
      rw [World.size_alloc] at this
      rw [hW5]; exact this
    have r2 : RowAt W5 (w.heap.size + 1 + 1) 4 [.bool false] := by rw [hW5]; exact (q2.alloc _).alloc _
    have hb5 : Below w1.heap.size w1 W5 := by rw [hW5]; exact ((Below.refl _ w1).alloc (Nat.le_refl _) _).alloc (by simp) _
    have hB5 : Below w.heap.size w W5 := hw1.trans (hb5.mono hw1.size)
    have hs5 : w1.heap.size + 2 ≤ W5.heap.size := by rw [hW5]; simp
    have hva := hv.on hB5
    have hvb := hv'.on hB5
    clear hW5 q0 q1 q2 c00 c01 c10 c11 c2 f2 t42 t43
    gi_wp2_with (fail)
    refine wpIn_rangeFunc_ownG rfl (by omega) (gf := 43) (lb := #[.pointer (some ⟨w1.heap.size + 1, 0, none⟩), .pointer (some ⟨w1.heap.size, 0, none⟩)]) rfl trivial (enters_of Try.func43 (by kernel_rfl) rfl)
      (shared_stops Fence.wide 5 trivial rfl (by omega) w1.heap.size (w1.heap.size + 1) (· < W5.heap.size) n m _ _ a b W5 (fun _ h => h) (by omega) (by omega) ra rb hva hvb hva.blocks hvb.blocks h9 h9b hra hrb) kept_t (kept_b (fun _ h => h)) (Below.refl _ _) (fun _ => rfl)
      (fun pre W => pre = [] ∧ RowAt W (w.heap.size + 1 + 1) 4 [.bool false] ∧ Below w.heap.size w W)
      (fun c pre W => c = .ret ∧ pre ≠ [] ∧ RowAt W (w.heap.size + 1 + 1) 4 [.bool false] ∧ Below w.heap.size w W)
      (by
        rintro pre X Y row ⟨h1, h2, h5⟩ hg hr
        have hr' := fun r e => (hr r e).2
        exact ⟨h1, h2.stays hg hr', h5.grown hg h5.size (fun k e => by have := (hr k e).1; omega)⟩)
      (by
        rintro cd pre X Y row ⟨h0, h1, h2, h5⟩ hg hr
        have hr' := fun r e => (hr r e).2
        exact ⟨h0, h1, h2.stays hg hr', h5.grown hg h5.size (fun k e => by have := (hr k e).1; omega)⟩)
      ⟨rfl, r2, hB5⟩
      (fun x => { tmps := #[.agg #[.int .i64 n, .slice A a.length c], .agg #[.int .i64 m, .slice A' b.length c'], .pointer (some ⟨w.heap.size, 0, none⟩), .pointer (some ⟨w.heap.size + 1, 0, none⟩), .pointer (some ⟨w.heap.size + 1 + 1, 0, none⟩), .agg #[.int .i64 n, .slice A a.length c], .agg #[.int .i64 m, .slice A' b.length c'], .bool true, .bool false, .agg #[.int .i64 n, .slice A a.length c], .agg #[.int .i64 m, .slice A' b.length c'], .func (.func 43) #[] #[.pointer (some ⟨w1.heap.size + 1, 0, none⟩), .pointer (some ⟨w1.heap.size, 0, none⟩)], .int .i64 x], defers := [] }) ?assign ?body ?done ?stop
    case assign =>
      intro l x W K hK
      gi_wp2
      simpa using hK
    case body =>
      rintro l pre x W ⟨hp, h2, hB⟩ hlt
      have d2 := h2.cell 0
      have f2 := h2.frozen 0
      simp only [List.getElem?_cons_zero] at d2
      gi_wp2
      exact ⟨(KeepsOthers.setCell _ _ _).from _, rfl, by simp, h2.set 0 (.bool false), hB.setCell (p := ⟨w.heap.size + 1 + 1, 0, none⟩) (by simp; omega) _⟩
    case done =>
      rintro D ys W hD rfl ⟨hp, h2, hB⟩ hK
      have HP := Lib.hid hp
      have d2 := h2.cell 0
      have f2 := h2.frozen 0
      simp only [List.getElem?_cons_zero] at d2
      clear hp
      gi_wp2
      have hK' := (KeepsOthers.setCell W ⟨w.heap.size + 1 + 1, 0, none⟩ (.bool true)).same D _ hK rfl
      refine ⟨by simp, .inl ⟨_, _, rfl, run_takeDeferred hK', ?_⟩⟩
      have R := (h2.set 0 (.bool true)).stays (grownBy_putObj' _ D (.deferred none)) (fun r e => by cases e; exact ⟨_, hK', rfl⟩)
      have e2 := R.cell 0
      simp only [List.set_cons_zero, List.getElem?_cons_zero] at e2
      refine ⟨.bool true, by simp [results, Try.results18, go_sem, e2], ?_, (hB.setCell (p := ⟨w.heap.size + 1 + 1, 0, none⟩) (by simp; omega) _).trans (belowK_b (w := w) (Nat.le_refl _) _ D _ _ (by omega) hK' rfl rfl)⟩
      rw [HDJ.out, hal, (both_nil a b).1 HP.out]; rfl
    case stop =>
      rintro D cd pre W hD hpre ⟨rfl, hne, h2, hB⟩ hK
      gi_wp2
      refine ⟨by simp, .inl ⟨_, _, rfl, run_takeDeferred hK, ?_⟩⟩
      have R := h2.stays (grownBy_putObj' _ D (.deferred none)) (fun r e => by cases e; exact ⟨_, hK, rfl⟩)
      have e2 := R.cell 0
      simp only [List.getElem?_cons_zero] at e2
      refine ⟨.bool false, by simp [results, Try.results18, go_sem, e2], ?_, hB.trans (belowK_b (w := w) (Nat.le_refl _) _ D _ _ (by omega) hK rfl rfl)⟩
      have hne2 : bothOf a b ≠ [] := by
        intro e
        rw [e] at hpre
        exact hne (List.prefix_nil.1 hpre)
      have : (a.any fun x => decide (x ∈ b)) = true := by
        cases h : (a.any fun x => decide (x ∈ b))
        · exact absurd ((both_nil a b).2 h) hne2
        · rfl
      rw [HDJ.out, hal, this]; rfl
theorem Disjoint_any (x y : Value) (n m : Int) (a b : List Int) (w : World) (hx : Bt w x n a) (hy : Bt w y m b) (h9 : a.length ≤ maxLen) (h9b : b.length ≤ maxLen) :
    Calls Try.prog 18 #[x, y] w fun e w' => e = .returned (.bool (disjOf n a m b)) ∧ Below w.heap.size w w' :=
  (callsIn_wide (n := 6)).1 (Disjoint_in x y n m a b w hx hy h9 h9b)

set_option maxRecDepth 100000 in
set_option maxHeartbeats 2000000 in
theorem Subset_in (x y : Value) (n m : Int) (a b : List Int) (w : World) (hx : Bt w x n a) (hy : Bt w y m b) (h9 : a.length ≤ maxLen) (h9b : b.length ≤ maxLen) :
    CallsIn Fence.wide 6 Try.prog 20 #[x, y] w fun e w' => e = .returned (.bool (subOf n a m b)) ∧ Below w.heap.size w w' := by
  obtain ⟨A, c, rfl, hc, hv⟩ := hx.form
  obtain ⟨A', c', rfl, hc', hv'⟩ := hy.form
  have h9' : a.length ≤ 9223372036854775807 := h9
  obtain ⟨W0, hW0⟩ : ∃ W0, W0 = (w.alloc (.cells #[.int .i64 n, .slice A a.length c] 24)).alloc (.cells #[.int .i64 m, .slice A' b.length c'] 24) := ⟨_, rfl⟩
  have p0 : RowAt W0 w.heap.size 24 [.int .i64 n, .slice A a.length c] := by rw [hW0]; exact (RowAt.new w 24 #[.int .i64 n, .slice A a.length c]).alloc _
  have p1 : RowAt W0 (w.heap.size + 1) 24 [.int .i64 m, .slice A' b.length c'] := by
    have := RowAt.new (w.alloc (.cells #[.int .i64 n, .slice A a.length c] 24)) 24 #[.int .i64 m, .slice A' b.length c']
    rw [World.size_alloc] at this
    rw [hW0]; exact this
  have hB0 : Below w.heap.size w W0 := by rw [hW0]; exact ((Below.refl _ w).alloc (Nat.le_refl _) _).alloc (by simp) _
  have hs0 : w.heap.size + 2 ≤ W0.heap.size := by rw [hW0]; simp
  have HA := alike_any _ _ _ _ _ _ W0 (hx.on hB0) (hy.on hB0) h9 h9b
  have t42 : Fence.wide.fn 36 := trivial
  have t43 : Fence.wide.fn 37 := trivial
  have HDJ : Hid (subOf n a m b = (alikeB n a m b && a.all fun x => decide (x ∈ b))) := rfl
  refine callsIn_of_wp_marks Try.func20 rfl trivial ?_ rfl
  simp only [Try.ntmps20, List.size_toArray, List.length_cons, List.length_nil, Nat.reduceAdd, Nat.reduceSub, Array.replicate_succ, Array.replicate_zero, List.push_toArray, List.append_toArray, List.nil_append, List.cons_append]
  gi_wp2_with (fail)
  rw [← hW0]
  refine (callsIn_wide.2 HA).mono ?_
  rintro e w1 ⟨rfl, hb1⟩
  have hw1 : Below w.heap.size w w1 := hB0.trans (hb1.mono hB0.size)
  have q0 := p0.below hb1 p0.lt
  have q1 := p1.below hb1 p1.lt
  have hs1 : w.heap.size + 2 ≤ w1.heap.size := Nat.le_trans hs0 hb1.size
  have c00 := cellA (q0.cell 0) (.cells #[.int .i64 0] 3)
  have c01 := cellA (q0.cell 1) (.cells #[.int .i64 0] 3)
  have c10 := cellA (q1.cell 0) (.cells #[.int .i64 0] 3)
  have c11 := cellA (q1.cell 1) (.cells #[.int .i64 0] 3)
  clear hW0 p0 p1 hB0 hs0 HA hb1
  cases hal : alikeB n a m b
  · gi_wp2_with (fail)
    refine ⟨.bool false, by simp [results, Try.results20, go_sem], ?_, hw1⟩
    rw [HDJ.out, hal]; rfl
  · obtain ⟨hra, hrb⟩ : a.Pairwise (· < ·) ∧ b.Pairwise (· < ·) := by
      simp only [alikeB, Bool.and_eq_true] at hal
      exact ⟨((rightB_iff _ _).1 hal.1.1).2.1, ((rightB_iff _ _).1 hal.1.2).2.1⟩
    gi_wp2_with (fail)
    refine (shared_in Fence.wide 5 trivial rfl _ _ _ _ _ _ _ _ _).mono ?_
    rintro e W5 ⟨rfl, hW5⟩
    rw [World.size_alloc]
    obtain ⟨w2, hw2⟩ : ∃ w2, w2 = w1.alloc (.cells #[.int .i64 0] 3) := ⟨_, rfl⟩
    rw [← hw2] at hW5
    have hsw2 : w2.heap.size = w1.heap.size + 1 := by rw [hw2]; simp
    have ra : RowAt W5 (w1.heap.size + 1) 24 [.int .i64 n, .slice A a.length c] := by
      rw [hW5, ← hsw2]; exact (RowAt.new w2 24 #[.int .i64 n, .slice A a.length c]).alloc _
    have rb : RowAt W5 (w1.heap.size + 1 + 1) 24 [.int .i64 m, .slice A' b.length c'] := by
      have := RowAt.new (w2.alloc (.cells #[.int .i64 n, .slice A a.length c] 24)) 24 #[.int .i64 m, .slice A' b.length c']
      rw [World.size_alloc, hsw2] at this
      rw [hW5]; exact this
    have r2 : RowAt W5 w1.heap.size 3 [.int .i64 0] := by rw [hW5, hw2]; exact ((RowAt.new w1 3 #[.int .i64 0]).alloc _).alloc _
    have r0 : RowAt W5 w.heap.size 24 [.int .i64 n, .slice A a.length c] := by rw [hW5, hw2]; exact ((q0.alloc _).alloc _).alloc _
    have hb5 : Below w1.heap.size w1 W5 := by rw [hW5, hw2]; exact (((Below.refl _ w1).alloc (Nat.le_refl _) _).alloc (by simp) _).alloc (by simp; omega) _
    have hB5 : Below w.heap.size w W5 := hw1.trans (hb5.mono hw1.size)
    have hs5 : w1.heap.size + 3 ≤ W5.heap.size := by rw [hW5, hw2]; simp
    have hva := hv.below hB5 (Nat.le_refl _)
    have hvb := hv'.below hB5 (Nat.le_refl _)
    clear hW5 q0 q1 c00 c01 c10 c11 t42 t43 hw2 hsw2
    gi_wp2_with (fail)
    refine wpIn_rangeFunc_ownG rfl (by omega) (gf := 43) (lb := #[.pointer (some ⟨w1.heap.size + 1 + 1, 0, none⟩), .pointer (some ⟨w1.heap.size + 1, 0, none⟩)]) rfl trivial (enters_of Try.func43 (by kernel_rfl) rfl)
      (shared_stops Fence.wide 5 trivial rfl (by omega) (w1.heap.size + 1) (w1.heap.size + 1 + 1) (fun k => k < W5.heap.size ∧ k ≠ w1.heap.size) n m _ _ a b W5 (fun _ h => h.1) (by omega) (by omega) ra rb (hva.more (by have := hB5.size; omega)) (hvb.more (by have := hB5.size; omega)) (fun h0 ad n' c' e => by have := hva.blocks h0 ad n' c' e; omega) (fun h0 ad n' c' e => by have := hvb.blocks h0 ad n' c' e; omega) h9 h9b hra hrb) kept_t (kept_b (fun _ h => h.1)) (Below.refl _ _) (fun _ => rfl)
      (fun pre W => RowAt W w1.heap.size 3 [.int .i64 (pre.length : Int)] ∧ RowAt W w.heap.size 24 [.int .i64 n, .slice A a.length c] ∧ Below w.heap.size w W)
      (fun _ _ _ => False)
      (by
        rintro pre X Y row ⟨h1, h2, h5⟩ hg hr
        have hr' := fun r e => (hr r e).2
        exact ⟨h1.stays hg hr', h2.stays hg hr', h5.grown hg h5.size (fun k e => by have := (hr k e).1; omega)⟩)
      (fun _ _ _ _ _ hs _ _ => hs)
      ⟨r2, r0, hB5⟩
      (fun x => { tmps := #[.agg #[.int .i64 n, .slice A a.length c], .agg #[.int .i64 m, .slice A' b.length c'], .pointer (some ⟨w.heap.size, 0, none⟩), .pointer (some ⟨w.heap.size + 1, 0, none⟩), .bool false, .pointer (some ⟨w1.heap.size, 0, none⟩), .agg #[.int .i64 n, .slice A a.length c], .agg #[.int .i64 m, .slice A' b.length c'], .bool true, .bool false, .agg #[.int .i64 n, .slice A a.length c], .agg #[.int .i64 m, .slice A' b.length c'], .func (.func 43) #[] #[.pointer (some ⟨w1.heap.size + 1 + 1, 0, none⟩), .pointer (some ⟨w1.heap.size + 1, 0, none⟩)], .int .i64 x, undef, undef, undef, undef, undef, undef, undef], defers := [] }) ?assign ?body ?done ?stop
    case assign =>
      intro l x W K hK
      gi_wp2
      simpa using hK
    case body =>
      rintro l pre x W ⟨h2, h0, hB⟩ hlt
      have d2 := h2.cell 0
      have f2 := h2.frozen 0
      simp only [List.getElem?_cons_zero] at d2
      gi_wp2
      refine ⟨(KeepsOthers.setCell _ _ _).from _, (Kept.refl _ _).setCell (p := ⟨w1.heap.size, 0, none⟩) (by simp) _, ?_, h0.far (p := ⟨w1.heap.size, 0, none⟩) (by show w.heap.size ≠ w1.heap.size; omega) _, hB.setCell (p := ⟨w1.heap.size, 0, none⟩) hw1.size _⟩
      have := h2.set 0 (.int .i64 ((pre.length : Int) + 1))
      simpa using this
    case done =>
      rintro D ys W hD rfl ⟨h2, h0, hB⟩ hK
      have d2 := h2.cell 0
      have d0 := h0.cell 1
      simp only [List.getElem?_cons_zero, List.getElem?_cons_succ] at d2 d0
      gi_wp2
      refine ⟨by simp, .inl ⟨_, _, rfl, run_takeDeferred hK, ?_⟩⟩
      refine ⟨_, results_tmp rfl _ _ _, ?_, hB.trans (belowK_b (w := w) (Nat.le_refl _) _ D _ _ (by omega) hK rfl rfl)⟩
      rw [HDJ.out, hal]
      show Ending.returned (Value.bool (((bothOf a b).length : Int) == (a.length : Int))) = _
      congr 2
      rw [Bool.true_and]
      by_cases h : (bothOf a b).length = a.length
      · rw [(both_all a b).1 h, h]; simp
      · have h2 : (a.all fun x => decide (x ∈ b)) = false := by
          cases e : (a.all fun x => decide (x ∈ b))
          · rfl
          · exact absurd ((both_all a b).2 e) h
        rw [h2]
        simp only [beq_eq_false_iff_ne, ne_eq]
        omega
    case stop =>
      rintro D cd pre W _ _ h _
      exact h.elim
theorem Subset_any (x y : Value) (n m : Int) (a b : List Int) (w : World) (hx : Bt w x n a) (hy : Bt w y m b) (h9 : a.length ≤ maxLen) (h9b : b.length ≤ maxLen) :
    Calls Try.prog 20 #[x, y] w fun e w' => e = .returned (.bool (subOf n a m b)) ∧ Below w.heap.size w w' :=
  (callsIn_wide (n := 6)).1 (Subset_in x y n m a b w hx hy h9 h9b)
end Go.Proofs.Ytpojpikndlcbkaa
