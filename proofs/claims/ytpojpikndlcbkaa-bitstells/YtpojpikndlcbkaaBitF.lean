/- bits.Unvector. -/
import Derived.Test.YtpojpikndlcbkaaBitE
namespace Go.Proofs.Ytpojpikndlcbkaa
open Go.RowKit Go.Shelf
attribute [local go_sem] Oper.semAt_some

set_option maxHeartbeats 1000000 in
theorem Unvector_arg (s : ByteArray) (n : Int) (w : World) (hf : fitsB n = false) :
    Calls Try.prog 25 #[.string s, .int .i64 n] w fun e w' => e = .returned (.tuple #[.agg #[.int .i64 0, .slice none 0 0], .int .i64 1]) ∧ Below w.heap.size w w' := by
  go_enter Try.func25, Try.ntmps25
  go_wp2_with fail
  with_reducible refine (fitsLen_any _ _).mono ?_
  rintro e w1 ⟨rfl, rfl⟩
  rw [hf]
  go_wp2_with fail
  refine bodyPost_ret (v := .tuple #[.agg #[.int .i64 0, .slice none 0 0], .int .i64 1]) (by simp [results, Try.results25, go_sem]) rfl ?_
  exact ⟨rfl, (((Below.refl _ w).alloc (Nat.le_refl _) _).alloc (by simp) _).alloc (by simp; omega) _⟩

set_option maxHeartbeats 1000000 in
theorem Unvector_form (s : ByteArray) (m : Nat) (w : World) (hm : m ≤ 2048) (hl : s.size ≠ (m + 7) / 8) :
    Calls Try.prog 25 #[.string s, .int .i64 m] w fun e w' => e = .returned (.tuple #[.agg #[.int .i64 0, .slice none 0 0], .int .i64 2]) ∧ Below w.heap.size w w' := by
  have hf : fitsB m = true := (fitsB_iff _).2 (by omega)
  have hne : ((s.size : Int) != (((m + 7) / 8 : Nat) : Int)) = true := by simp only [bne_iff_ne, ne_eq]; omega
  have VB := fun W => vectorBytes_any m W hm
  clear hl
  generalize (m + 7) / 8 = q at *
  go_enter Try.func25, Try.ntmps25
  go_wp2_with fail
  with_reducible refine (fitsLen_any _ _).mono ?_
  rintro e w1 ⟨rfl, rfl⟩
  rw [hf]
  go_wp2_with fail
  with_reducible refine (VB _).mono ?_
  rintro e w1 ⟨rfl, rfl⟩
  go_wp2_with fail
  refine bodyPost_ret (v := .tuple #[.agg #[.int .i64 0, .slice none 0 0], .int .i64 2]) (by simp [results, Try.results25, go_sem]) rfl ?_
  exact ⟨rfl, (((Below.refl _ w).alloc (Nat.le_refl _) _).alloc (by simp) _).alloc (by simp; omega) _⟩

theorem unvec_cases (l : List UInt8) (m : Nat) (hm : m ≤ 2048) (hl : l.length = (m + 7) / 8) : ((∀ y ∈ onsOf l, y < (m : Int)) → unvecOf l m = ((m : Int), onsOf l, 0)) ∧ ((∃ y ∈ onsOf l, (m : Int) ≤ y) → unvecOf l m = (0, [], 2)) := by
  have hf : ¬ fitsB m = false := by rw [(fitsB_iff _).2 ⟨by omega, by omega⟩]; simp
  have h2 : ¬ (l.length : Int) ≠ ((m : Int) + 7) / 8 := by omega
  constructor
  · intro h
    unfold unvecOf
    rw [if_neg hf, if_neg h2, if_neg]
    simp only [List.any_eq_true, decide_eq_true_eq, not_exists, not_and]
    intro x hx hx2
    have := h x hx
    omega
  · rintro ⟨y, hy, hy2⟩
    unfold unvecOf
    rw [if_neg hf, if_neg h2, if_pos]
    exact List.any_eq_true.2 ⟨y, hy, by simpa using hy2⟩

set_option maxRecDepth 100000 in
set_option maxHeartbeats 2000000 in
theorem Unvector_loop (s : ByteArray) (m : Nat) (w : World) (hm : m ≤ 2048) (hl : s.size = (m + 7) / 8) :
    CallsIn Fence.wide 6 Try.prog 25 #[.string s, .int .i64 m] w fun e w' => ∃ x, e = .returned (.tuple #[x, .int .i64 (unvecOf s.data.toList m).2.2]) ∧ Bt w' x (unvecOf s.data.toList m).1 (unvecOf s.data.toList m).2.1 ∧ Below w.heap.size w w' := by
  obtain ⟨i0, hi, hz0, hz1, hz2⟩ := info_parts info_int
  have hf : fitsB m = true := (fitsB_iff _).2 (by omega)
  have VB : ∀ W, Calls Try.prog 29 #[.int .i64 (m : Int)] W fun e w' => e = .returned (.int .i64 (s.size : Int)) ∧ W = w' := fun W => by rw [hl]; exact vectorBytes_any m W hm
  have HL := Lib.hid hl
  have HC := Lib.hid (unvec_cases s.data.toList m hm (by rw [bytes_length]; exact hl))
  clear hl
  have t36 : Fence.wide.fn 30 := trivial
  have t35 : Fence.wide.fn 29 := trivial
  have t40 : Fence.wide.fn 34 := trivial
  refine callsIn_of_wp_marks Try.func25 rfl trivial ?_ rfl
  simp only [Try.ntmps25, List.size_toArray, List.length_cons, List.length_nil, Nat.reduceAdd, Nat.reduceSub, Array.replicate_succ, Array.replicate_zero, List.push_toArray, List.append_toArray, List.nil_append, List.cons_append]
  gi_wp2_with (fail)
  refine (callsIn_wide.2 (fitsLen_any _ _)).mono ?_
  rintro e w1 ⟨rfl, rfl⟩
  rw [hf]
  gi_wp2_with (fail)
  refine (callsIn_wide.2 (VB _)).mono ?_
  rintro e w1 ⟨rfl, rfl⟩
  obtain ⟨c, o, hcv, hel⟩ := bytes_of s ((((w.alloc (.cells #[.int .i64 (m : Int)] 3)).alloc (.cells #[.int .i64 0, .slice none 0 0] 24)).alloc (.cells #[.int .i64 0] 28)).alloc (.cells #[.int .i64 (m : Int), .slice none 0 0] 24)) (w.heap.size + 1 + 1 + 1 + 1) (by simp)
  gi_wp2_with (fail)
  obtain ⟨W4, hW4⟩ : ∃ W4, W4 = (((((w.alloc (.cells #[.int .i64 (m : Int)] 3)).alloc (.cells #[.int .i64 0, .slice none 0 0] 24)).alloc (.cells #[.int .i64 0] 28)).alloc (.cells #[.int .i64 (m : Int), .slice none 0 0] 24)).alloc o).drew := ⟨_, rfl⟩
  have r0 : RowAt W4 w.heap.size 3 [.int .i64 (m : Int)] := by rw [hW4]; exact ((((RowAt.new w 3 #[.int .i64 (m : Int)]).alloc _).alloc _).alloc _).alloc _
  have r1 : RowAt W4 (w.heap.size + 1) 24 [.int .i64 0, .slice none 0 0] := by
    have := (((RowAt.new (w.alloc (.cells #[.int .i64 (m : Int)] 3)) 24 #[.int .i64 0, .slice none 0 0]).alloc (.cells #[.int .i64 0] 28)).alloc (.cells #[.int .i64 (m : Int), .slice none 0 0] 24)).alloc o
    rw [World.size_alloc] at this
    rw [hW4]; exact this
  have r2 : RowAt W4 (w.heap.size + 1 + 1) 28 [.int .i64 0] := by
    have := ((RowAt.new ((w.alloc (.cells #[.int .i64 (m : Int)] 3)).alloc (.cells #[.int .i64 0, .slice none 0 0] 24)) 28 #[.int .i64 0]).alloc (.cells #[.int .i64 (m : Int), .slice none 0 0] 24)).alloc o
    rw [World.size_alloc, World.size_alloc] at this
    rw [hW4]; exact this
  have r3 : RowAt W4 (w.heap.size + 1 + 1 + 1) 24 [.int .i64 (m : Int), .slice none 0 0] := by
    have := (RowAt.new (((w.alloc (.cells #[.int .i64 (m : Int)] 3)).alloc (.cells #[.int .i64 0, .slice none 0 0] 24)).alloc (.cells #[.int .i64 0] 28)) 24 #[.int .i64 (m : Int), .slice none 0 0]).alloc o
    rw [World.size_alloc, World.size_alloc, World.size_alloc] at this
    rw [hW4]; exact this
  have hs4 : W4.heap.size = w.heap.size + 5 := by
    rw [hW4]
    show (World.alloc _ _).heap.size = _
    simp only [World.size_alloc]
  have hB4 : Below w.heap.size w W4 := by
    rw [hW4]
    exact ((((((Below.refl _ w).alloc (Nat.le_refl _) _).alloc (by simp) _).alloc (by simp; omega) _).alloc (by simp; omega) _).alloc (by simp; omega) _).drew
  rw [← hW4] at hel ⊢
  clear hW4 hcv VB
  refine (marked_in Fence.wide 5 trivial rfl _ rfl W4).mono ?_
  rintro e W5 ⟨rfl, hW5⟩
  have hcm : W5.cell? ⟨W4.heap.size, 0, none⟩ = some (.slice (some ⟨w.heap.size + 1 + 1 + 1 + 1, 0, none⟩) s.size c) := by rw [hW5]; exact cell_new1 _ _ _
  have hs5 : w.heap.size + 6 ≤ W5.heap.size := by rw [hW5, World.size_alloc, hs4]; exact Nat.le_refl _
  have hB5 : Below w.heap.size w W5 := by rw [hW5]; exact hB4.alloc (by omega) _
  have q0 : RowAt W5 w.heap.size 3 [.int .i64 (m : Int)] := by rw [hW5]; exact r0.alloc _
  have q1 : RowAt W5 (w.heap.size + 1) 24 [.int .i64 0, .slice none 0 0] := by rw [hW5]; exact r1.alloc _
  have q2 : RowAt W5 (w.heap.size + 1 + 1) 28 [.int .i64 0] := by rw [hW5]; exact r2.alloc _
  have q3 : RowAt W5 (w.heap.size + 1 + 1 + 1) 24 [.int .i64 (m : Int), .slice none 0 0] := by rw [hW5]; exact r3.alloc _
  have hel5 : Elems enc8 W5 W5.heap.size (.slice (some ⟨w.heap.size + 1 + 1 + 1 + 1, 0, none⟩) s.size c) s.data.toList := by rw [hW5]; exact hel.alloc _
  rw [hs4] at hcm ⊢
  have hsz : s.data.toList.length ≤ 300 := by rw [bytes_length, HL.out]; omega
  clear r0 r1 r2 r3 hs4 hB4 hel hW5 t36 t35 t40
  gi_wp2_with (fail)
  have hK5 : ∀ k, (k = w.heap.size + 5 ∨ k = w.heap.size + 1 + 1 + 1 + 1) → k < W5.heap.size := by intro k hk; omega
  refine wpIn_rangeFunc_ownG rfl (by omega) (gf := 42) (lb := #[.pointer (some ⟨w.heap.size + 5, 0, none⟩)]) rfl trivial (enters_of Try.func42 (by kernel_rfl) rfl)
    (marked_stops Fence.wide 5 trivial rfl (by omega) (w.heap.size + 5) _ s.data.toList W5 (fun k => k = w.heap.size + 5 ∨ k = w.heap.size + 1 + 1 + 1 + 1) (.inl rfl) hK5 hcm hel5 (by
      intro _ ad n' c' e
      injection e with e1 _ _
      injection e1 with e1
      subst e1
      exact .inr rfl) (by omega)) kept_t (kept_b hK5) (Below.refl _ _) (fun _ => rfl)
    (fun pre W => (∃ v, RowAt W (w.heap.size + 1 + 1 + 1) 24 [.int .i64 (m : Int), v] ∧ W.ownsRow W5.heap.size 3 1 v pre.length (pre.map (Value.int .i64))) ∧ (RowAt W w.heap.size 3 [.int .i64 (m : Int)] ∧ RowAt W (w.heap.size + 1) 24 [.int .i64 0, .slice none 0 0] ∧ RowAt W (w.heap.size + 1 + 1) 28 [.int .i64 0]) ∧ (∀ y ∈ pre, y < (m : Int)) ∧ W5.heap.size ≤ W.heap.size ∧ Below w.heap.size w W)
    (fun c pre W => c = .ret ∧ (∃ y ∈ pre, (m : Int) ≤ y) ∧ RowAt W (w.heap.size + 1) 24 [.int .i64 0, .slice none 0 0] ∧ RowAt W (w.heap.size + 1 + 1) 28 [.int .i64 2] ∧ Below w.heap.size w W)
    (by
      rintro pre X Y row ⟨⟨v, a1, a2⟩, ⟨b0, b1, b2⟩, h3, h4, h5⟩ hg hr
      have hr' := fun r e => (hr r e).2
      exact ⟨⟨v, a1.stays hg hr', owns_stays a2 hg hr'⟩, ⟨b0.stays hg hr', b1.stays hg hr', b2.stays hg hr'⟩, h3, Nat.le_trans h4 hg.size, h5.grown hg h5.size (fun k e => by have := (hr k e).1; omega)⟩)
    (by
      rintro cd pre X Y row ⟨h1, h2, b1, b2, h5⟩ hg hr
      have hr' := fun r e => (hr r e).2
      exact ⟨h1, h2, b1.stays hg hr', b2.stays hg hr', h5.grown hg h5.size (fun k e => by have := (hr k e).1; omega)⟩)
    ⟨⟨_, q3, World.ownsRow_nil _ _ _ _⟩, ⟨q0, q1, q2⟩, by simp, Nat.le_refl _, hB5⟩
    (fun x => { tmps := #[.string s, .int .i64 (m : Int), undef, .pointer (some ⟨w.heap.size, 0, none⟩), .pointer (some ⟨w.heap.size + 1, 0, none⟩), .pointer (some ⟨w.heap.size + 1 + 1, 0, none⟩), .pointer (some ⟨w.heap.size + 1 + 1 + 1, 0, none⟩), .int .i64 x, .int .i64 (m : Int), .bool true, .bool false, undef, .string s, .int .i64 (s.size : Int), .int .i64 (m : Int), .int .i64 (s.size : Int), .bool false, undef, .int .i64 (m : Int), .agg #[.int .i64 (m : Int), .slice none 0 0], .string s, .slice (some ⟨w.heap.size + 1 + 1 + 1 + 1, 0, none⟩) s.size c, .func (.func 42) #[] #[.pointer (some ⟨w.heap.size + 5, 0, none⟩)], .int .i64 x, undef, undef, undef, undef, undef, undef, undef, undef, undef, undef, undef], defers := [] }) ?assign ?body ?done ?stop
  case assign =>
    intro l x W K hK
    gi_wp2
    exact hK
  case body =>
    rintro l pre x W ⟨⟨v, a1, hrow⟩, ⟨b0, b1, b2⟩, hall, hsW, hB⟩ hlt
    have c0 := b0.cell 0
    have c10 := b1.cell 0
    have c11 := b1.cell 1
    have c2 := b2.cell 0
    have c30 := a1.cell 0
    have c31 := a1.cell 1
    simp only [List.getElem?_cons_zero, List.getElem?_cons_succ] at c0 c10 c11 c2 c30 c31
    have f10 := b1.frozen 0
    have f11 := b1.frozen 1
    have f2 := b2.frozen 0
    by_cases hx : (m : Int) ≤ x
    · gi_wp2
      refine ⟨((KeepsOthers.setCell _ _ _).trans ((KeepsOthers.setCell _ _ _).trans (KeepsOthers.setCell _ _ _))).from _, rfl, ⟨x, by simp, hx⟩, ?_, ?_, ?_⟩
      · exact (((b1.set 0 (.int .i64 0)).set 1 (.slice none 0 0)).far (p := ⟨w.heap.size + 1 + 1, 0, none⟩) (by simp) _)
      · exact ((b2.far (p := ⟨w.heap.size + 1, 0, none⟩) (by simp) _).far (p := ⟨w.heap.size + 1, 1, none⟩) (by simp) _).set 0 (.int .i64 2)
      · exact ((hB.setCell (p := ⟨w.heap.size + 1, 0, none⟩) (by simp) _).setCell (p := ⟨w.heap.size + 1, 1, none⟩) (by simp) _).setCell (p := ⟨w.heap.size + 1 + 1, 0, none⟩) (by simp; omega) _
    · have a1' := a1
      gi_wp2_with (gi_at_builtin; refine wpListIn_append_own _ rfl _ _ 22 rfl W5.heap.size 3 i0 (.int .i64 0) 1 8 Try.underlying22 hi hz0 hz1 hz2 rfl (by decide) _ _ _ rfl (hrow.alloc _) ⟨W.heap.size, 0, none⟩ 1 1 [.int .i64 x] rfl rfl (cell_one_new _ _ _) (by simp [Value.oneCell']) (by have : maxLen = 9223372036854775807 := rfl; omega) (by omega) (by simp; omega) ?_; intro v' w1 hown' hgrow _; obtain ⟨g', cap', rfl⟩ := ownsRow_succ hown'; have d3 := rowAt_append hrow hgrow a1' (by omega); have d31 := d3.cell 1; have d30 := d3.frozen 1; simp only [List.getElem?_cons_zero, List.getElem?_cons_succ] at d31)
      have hgrow' : (W.alloc (.cells #[.int .i64 x] 3)).grownBy w1 v.ownBlock := hgrow
      refine ⟨(keepsOthers_append hrow hgrow' _ _).from _, kept_append hrow hgrow' hK5 hsW (p := ⟨w.heap.size + 1 + 1 + 1, 1, none⟩) (by simp) _, ⟨_, d3.set 1 _, ?_⟩, ⟨?_, ?_, ?_⟩, ?_, ?_, ?_⟩
      · have := ownsRow_setCell_below hown' (a := ⟨w.heap.size + 1 + 1 + 1, 1, none⟩) (by show w.heap.size + 1 + 1 + 1 < _; omega) (.slice (some ⟨g', 0, none⟩) (pre.length + 1) cap')
        simpa using this
      · exact (rowAt_append hrow hgrow' b0 (by omega)).far (p := ⟨w.heap.size + 1 + 1 + 1, 1, none⟩) (by simp; omega) _
      · exact (rowAt_append hrow hgrow' b1 (by omega)).far (p := ⟨w.heap.size + 1 + 1 + 1, 1, none⟩) (by simp) _
      · exact (rowAt_append hrow hgrow' b2 (by omega)).far (p := ⟨w.heap.size + 1 + 1 + 1, 1, none⟩) (by simp) _
      · intro y hy
        simp only [List.mem_append, List.mem_singleton] at hy
        rcases hy with hy | rfl
        · exact hall y hy
        · omega
      · have := hgrow'.size
        simp [World.setCell] at this ⊢
        omega
      · exact hB.trans (below_append hrow hgrow' (by omega) (by omega) (p := ⟨w.heap.size + 1 + 1 + 1, 1, none⟩) (by show w.heap.size ≤ w.heap.size + 1 + 1 + 1; omega) _)
  case done =>
    rintro D ys W hD rfl ⟨⟨v, a1, hrow⟩, ⟨b0, b1, b2⟩, hall, hsW, hB⟩ hK
    obtain ⟨A, cc, rfl⟩ : ∃ A cc, v = .slice A (onsOf s.data.toList).length cc := by
      obtain ⟨A, cc, e, _⟩ := (Elems.own (enc := Value.int .i64) (xs := onsOf s.data.toList) hrow).form
      exact ⟨A, cc, e⟩
    have HU := Lib.hid (HC.out.1 hall)
    have HR := Lib.hid hrow
    clear hrow hall
    have c10 := b1.cell 0
    have c11 := b1.cell 1
    have c2 := b2.cell 0
    have c30 := a1.cell 0
    have c31 := a1.cell 1
    simp only [List.getElem?_cons_zero, List.getElem?_cons_succ] at c10 c11 c2 c30 c31
    have f10 := b1.frozen 0
    have f11 := b1.frozen 1
    have f2 := b2.frozen 0
    gi_wp2
    have hK' := ((KeepsOthers.setCell W ⟨w.heap.size + 1, 0, none⟩ (.int .i64 (m : Int))).trans ((KeepsOthers.setCell _ ⟨w.heap.size + 1, 1, none⟩ (.slice A (onsOf s.data.toList).length cc)).trans (KeepsOthers.setCell _ ⟨w.heap.size + 1 + 1, 0, none⟩ (.int .i64 0)))).same D _ hK rfl
    refine ⟨by simp, .inl ⟨_, _, rfl, run_takeDeferred hK', ?_⟩⟩
    have R1 := (((b1.set 0 (.int .i64 (m : Int))).set 1 (.slice A (onsOf s.data.toList).length cc)).far (p := ⟨w.heap.size + 1 + 1, 0, none⟩) (by simp) (.int .i64 0)).stays (grownBy_putObj' _ D (.deferred none)) (fun r e => by cases e; exact ⟨_, hK', rfl⟩)
    have R2 := (((b2.far (p := ⟨w.heap.size + 1, 0, none⟩) (by simp) (.int .i64 (m : Int))).far (p := ⟨w.heap.size + 1, 1, none⟩) (by simp) (.slice A (onsOf s.data.toList).length cc)).set 0 (.int .i64 0)).stays (grownBy_putObj' _ D (.deferred none)) (fun r e => by cases e; exact ⟨_, hK', rfl⟩)
    have hB' := ((hB.setCell (p := ⟨w.heap.size + 1, 0, none⟩) (by simp) (.int .i64 (m : Int))).setCell (p := ⟨w.heap.size + 1, 1, none⟩) (by simp) (.slice A (onsOf s.data.toList).length cc)).setCell (p := ⟨w.heap.size + 1 + 1, 0, none⟩) (by simp; omega) (.int .i64 0)
    have hO := owns_stays (ownsRow_setCell_below (ownsRow_setCell_below (ownsRow_setCell_below HR.out (a := ⟨w.heap.size + 1, 0, none⟩) (by show w.heap.size + 1 < _; omega) (.int .i64 (m : Int))) (a := ⟨w.heap.size + 1, 1, none⟩) (by show w.heap.size + 1 < _; omega) (.slice A (onsOf s.data.toList).length cc)) (a := ⟨w.heap.size + 1 + 1, 0, none⟩) (by show w.heap.size + 1 + 1 < _; omega) (.int .i64 0)) (grownBy_putObj' _ D (.deferred none)) (fun r e => by cases e; exact ⟨_, hK', rfl⟩)
    have e10 := R1.cell 0
    have e11 := R1.cell 1
    have e2 := R2.cell 0
    simp only [List.set_cons_zero, List.set_cons_succ, List.getElem?_cons_zero, List.getElem?_cons_succ] at e10 e11 e2
    refine ⟨.tuple #[.agg #[.int .i64 (m : Int), .slice A (onsOf s.data.toList).length cc], .int .i64 0], by simp [results, Try.results25, go_sem, e10, e11, e2], ?_⟩
    rw [HU.out]
    exact ⟨_, rfl, ⟨_, rfl, Elems.own hO⟩, hB'.trans (belowK_b (w := w) (Nat.le_refl _) _ D _ _ (by omega) hK' rfl rfl)⟩
  case stop =>
    rintro D cd pre W hD hpre ⟨rfl, ⟨y, hy1, hy2⟩, b1, b2, hB⟩ hK
    have HU := Lib.hid (HC.out.2 ⟨y, hpre.subset hy1, hy2⟩)
    clear hy1 hy2 hpre
    gi_wp2
    refine ⟨by simp, .inl ⟨_, _, rfl, run_takeDeferred hK, ?_⟩⟩
    have R1 := b1.stays (grownBy_putObj' _ D (.deferred none)) (fun r e => by cases e; exact ⟨_, hK, rfl⟩)
    have R2 := b2.stays (grownBy_putObj' _ D (.deferred none)) (fun r e => by cases e; exact ⟨_, hK, rfl⟩)
    have e10 := R1.cell 0
    have e11 := R1.cell 1
    have e2 := R2.cell 0
    simp only [List.getElem?_cons_zero, List.getElem?_cons_succ] at e10 e11 e2
    refine ⟨.tuple #[.agg #[.int .i64 0, .slice none 0 0], .int .i64 2], by simp [results, Try.results25, go_sem, e10, e11, e2], ?_⟩
    rw [HU.out]
    exact ⟨_, rfl, ⟨_, rfl, Elems.nil _ _ _⟩, hB.trans (belowK_b (w := w) (Nat.le_refl _) _ D _ _ (by omega) hK rfl rfl)⟩

theorem Unvector_any (s : ByteArray) (n : Int) (w : World) :
    Calls Try.prog 25 #[.string s, .int .i64 n] w fun e w' => ∃ x, e = .returned (.tuple #[x, .int .i64 (unvecOf s.data.toList n).2.2]) ∧ Bt w' x (unvecOf s.data.toList n).1 (unvecOf s.data.toList n).2.1 ∧ Below w.heap.size w w' := by
  by_cases hf : fitsB n = true
  · obtain ⟨h0, h1⟩ := (fitsB_iff n).1 hf
    obtain ⟨m, rfl⟩ := Int.eq_ofNat_of_zero_le h0
    by_cases hl : s.size = (m + 7) / 8
    · exact (callsIn_wide (n := 6)).1 (Unvector_loop s m w (by omega) hl)
    · have e : unvecOf s.data.toList m = (0, [], 2) := by
        unfold unvecOf
        rw [if_neg (by rw [hf]; simp), if_pos (by rw [bytes_length]; omega)]
      rw [e]
      exact (Unvector_form s m w (by omega) hl).mono fun e w' ⟨he, hb⟩ => ⟨_, he, ⟨_, rfl, Elems.nil _ _ _⟩, hb⟩
  · have hf' : fitsB n = false := by simpa using hf
    have e : unvecOf s.data.toList n = (0, [], 1) := by
      unfold unvecOf
      rw [if_pos hf']
    rw [e]
    exact (Unvector_arg s n w hf').mono fun e w' ⟨he, hb⟩ => ⟨_, he, ⟨_, rfl, Elems.nil _ _ _⟩, hb⟩
end Go.Proofs.Ytpojpikndlcbkaa
