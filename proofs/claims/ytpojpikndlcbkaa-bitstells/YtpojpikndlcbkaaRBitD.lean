/- The document's own answers of layer 2: Subset, set, Unlist, Unvector. -/
import Derived.Test.YtpojpikndlcbkaaRBitC
namespace Go.Proofs.Ytpojpikndlcbkaa
open Go.RowKit Go.Shelf

set_option maxHeartbeats 2000000 in
set_option maxRecDepth 100000 in
theorem rSubset_any (x y : Value) (n m : Int) (a b : List Int) (w : World) (hx : Bt w x n a) (hy : Bt w y m b) (h9 : a.length ≤ maxLen) (h9b : b.length ≤ maxLen) :
    Calls Try.prog 21 #[x, y] w fun e w' => e = .returned (.bool (subOf n a m b)) ∧ Below w.heap.size w w' := by
  obtain ⟨A, c, rfl, hc, hv⟩ := hx.form
  obtain ⟨A', c', rfl, hc', hv'⟩ := hy.form
  have h9' : a.length ≤ 9223372036854775807 := h9
  obtain ⟨W0, hW0⟩ : ∃ W0, W0 = (w.alloc (.cells #[.int .i64 n, .slice A a.length c] 24)).alloc (.cells #[.int .i64 m, .slice A' b.length c'] 24) := ⟨_, rfl⟩
  have p0 : RowAt W0 w.heap.size 24 [.int .i64 n, .slice A a.length c] := by rw [hW0]; exact (RowAt.new w 24 #[.int .i64 n, .slice A a.length c]).alloc _
  have p1 : RowAt W0 (w.heap.size + 1) 24 [.int .i64 m, .slice A' b.length c'] := by
    have := RowAt.new (w.alloc (.cells #[.int .i64 n, .slice A a.length c] 24)) 24 #[.int .i64 m, .slice A' b.length c']
    rw [World.size_alloc] at this
    rw [hW0]; exact this
  have hB0 : Below w.heap.size w W0 := by rw [hW0]; exact ((Below.refl _ w).alloc (Nat.le_refl _) _).alloc (by simp) _
  have HD : Hid (subOf n a m b = (alikeB n a m b && a.all fun x => decide (x ∈ b))) := rfl
  go_enter Try.func21, Try.ntmps21
  go_wp2_with fail
  rw [← hW0]
  with_reducible refine (ralike_any _ _ _ _ _ _ _ (hx.on hB0) (hy.on hB0) h9 h9b).mono ?_
  rintro e w1 ⟨rfl, hb1⟩
  have hw1 := hB0.trans (hb1.mono hB0.size)
  replace p0 := p0.on hb1
  replace p1 := p1.on hb1
  clear hW0 hb1 hB0
  generalize alikeB n a m b = t at *
  go_wp2_with fail
  go_loopw [5, 6] (fun tv iv wr => ∃ k : Nat, k ≤ a.length ∧ iv = .int .i64 k ∧ tv = .bool (t && (a.take k).all fun x => decide (x ∈ b)) ∧ Below w1.heap.size w1 wr) (fun _ iv _ => a.length - (intOf iv).toNat)
  case atStart => exact ⟨0, Nat.zero_le _, rfl, by simp, Below.refl _ _⟩
  case round =>
    obtain ⟨k, hk, rfl, rfl, hbw⟩ := hrel
    have q0 := p0.on hbw
    have q1 := p1.on hbw
    have hB := hw1.trans (hbw.mono hw1.size)
    obtain ⟨c00, c01⟩ := q0.two
    by_cases hlt : k < a.length
    · obtain ⟨ad, rfl, hbl, hcell⟩ := (hv.on hB).at_ hlt
      have HS := Lib.hid (all_step a b k hlt)
      have HON : ∀ p : Later wr, Calls Try.prog 32 #[.agg #[.int .i64 m, .slice A' b.length c'], .int .i64 a[k]] p.W fun e w'' => e = .returned (.bool (decide (a[k] ∈ b))) ∧ ∃ p : Later wr, w'' = p.W := fun p => later_of (ron_any _ m b a[k] p.W ((hy.on hB).on p.h) h9b)
      have x01 : ∀ p : Later wr, p.W.cell? ⟨w.heap.size, 1, none⟩ = some (.slice (some ad) a.length c) := q0.later 1 _ rfl
      have x10 : ∀ p : Later wr, p.W.cell? ⟨w.heap.size + 1, 0, none⟩ = some (.int .i64 m) := q1.later 0 _ rfl
      have x11 : ∀ p : Later wr, p.W.cell? ⟨w.heap.size + 1, 1, none⟩ = some (.slice A' b.length c') := q1.later 1 _ rfl
      have xk : ∀ p : Later wr, p.W.cell? (ad.add k) = some (.int .i64 a[k]) := fun p => (p.h.cell (by rw [add_block]; exact hbl)).trans hcell
      generalize decide (a[k] ∈ b) = u at *
      generalize hyk : a[k] = y at *
      generalize ((a.take k).all fun x => decide (x ∈ b)) = s at *
      clear hyk
      obtain ⟨r, hr⟩ : ∃ r, (t && s) = r := ⟨_, rfl⟩
      rw [hr]
      have HR : Hid ((t && (a.take (k + 1)).all fun x => decide (x ∈ b)) = (r && u)) := by
        show _ = _
        rw [HS.out, ← hr]
        cases t <;> cases s <;> cases u <;> rfl
      clear hr
      go_wp2_with fail
      refine wp_region_later (by kernel_rfl) (by kernel_rfl) ?_
      repeat (go_big_quiet_step (first | (go_at_call 32; exact HON _)))
      refine wpQuiet_nil ?_
      intro _ hw'
      obtain ⟨pq, rfl⟩ := hw'
      have hb1 := pq.h
      generalize pq.W = W2 at hb1 ⊢
      clear pq x01 x10 x11 xk HON
      cases r
      all_goals
        go_wp2_with fail
        go_roundw
        case rel => exact ⟨k + 1, by omega, by go_num, by rw [HR.out]; simp, hbw.trans (hb1.mono hbw.size)⟩
        case measure => simp [intOf]; omega
    · obtain rfl : k = a.length := by omega
      rw [List.take_length]
      go_wp2_with fail
      go_ret
      exact ⟨by rw [HD.out]; rfl, hB⟩

set_option maxHeartbeats 2000000 in
set_option maxRecDepth 100000 in
theorem rset_any (s : ByteArray) (n : Nat) (w : World) (hn : n ≤ 8 * s.size) (hs : n ≤ 100000) :
    Calls Try.prog 39 #[.string s, .int .i64 n] w fun e w' => ∃ A c, e = .returned (.agg #[.int .i64 (n : Int), .slice A (onsTo s.data.toList n).length c]) ∧ Bt w' (.agg #[.int .i64 (n : Int), .slice A (onsTo s.data.toList n).length c]) n (onsTo s.data.toList n) ∧ FromOn w.heap.size (.slice A (onsTo s.data.toList n).length c) ∧ Below w.heap.size w w' := by
  obtain ⟨i0, hi, hz0, hz1, hz2⟩ := info_parts info_int
  obtain ⟨W0, hW0⟩ : ∃ W0, W0 = (w.alloc (.cells #[.int .i64 0, .slice none 0 0] 24)).alloc (.cells #[.int .i64 (n : Int), .slice none 0 0] 24) := ⟨_, rfl⟩
  have p0 : RowAt W0 w.heap.size 24 [.int .i64 0, .slice none 0 0] := by rw [hW0]; exact (RowAt.new w 24 #[.int .i64 0, .slice none 0 0]).alloc _
  have p1 : RowAt W0 (w.heap.size + 1) 24 [.int .i64 (n : Int), .slice none 0 0] := by
    have := RowAt.new (w.alloc (.cells #[.int .i64 0, .slice none 0 0] 24)) 24 #[.int .i64 (n : Int), .slice none 0 0]
    rw [World.size_alloc] at this
    rw [hW0]; exact this
  have hB0 : Below w.heap.size w W0 := by rw [hW0]; exact ((Below.refl _ w).alloc (Nat.le_refl _) _).alloc (by simp) _
  have hs0 : w.heap.size + 2 ≤ W0.heap.size := by rw [hW0]; simp
  go_enter Try.func39, Try.ntmps39
  go_wp2_with fail
  rw [← hW0]
  clear hW0
  go_loopw [6] (fun iv wr => ∃ i : Nat, i ≤ n ∧ iv = .int .i64 i ∧ (∃ u, RowAt wr (w.heap.size + 1) 24 [.int .i64 (n : Int), u] ∧ wr.ownsRow W0.heap.size 3 1 u (onsTo s.data.toList i).length ((onsTo s.data.toList i).map (Value.int .i64))) ∧ RowAt wr w.heap.size 24 [.int .i64 0, .slice none 0 0] ∧ W0.heap.size ≤ wr.heap.size ∧ Below w.heap.size w wr) (fun i _ => n - (intOf i).toNat)
  case atStart => exact ⟨0, Nat.zero_le _, rfl, ⟨_, p1, World.ownsRow_nil _ _ _ _⟩, p0, Nat.le_refl _, hB0⟩
  case round =>
    obtain ⟨i, hip, rfl, ⟨u, q1, hown⟩, q0, hsz, hB⟩ := hrel
    clear p0 p1 hB0
    obtain ⟨c10, c11⟩ := q1.two
    by_cases hlt : i < n
    · have hidx : i / 8 < s.size := by omega
      have hbit : s[i / 8].toNat.testBit (i % 8) = bitAt s.data.toList i := by
        unfold bitAt
        rw [byte_getD]
      have hmod := bit_mod s[i / 8] (i % 8)
      rw [hbit] at hmod
      have hlen := onsTo_length s.data.toList i
      have HON := Lib.hid (@onsTo_succ_on s.data.toList i)
      have HOFF := Lib.hid (@onsTo_succ_off s.data.toList i)
      generalize bitAt s.data.toList i = t at *
      clear hbit
      cases t
      · simp only [Bool.false_eq_true, if_false] at hmod
        go_wp2_with fail
        go_roundw
        case rel =>
          refine ⟨i + 1, by omega, by go_num, ⟨u, q1, ?_⟩, q0, hsz, hB⟩
          rw [HOFF.out (by trivial)]; exact hown
        case measure => simp [intOf]; omega
      · simp only [if_true] at hmod
        go_wp2_with (at_builtin; refine wpList_append_own _ rfl _ _ 22 rfl W0.heap.size 3 i0 (.int .i64 0) 1 8 Try.underlying22 hi hz0 hz1 hz2 rfl (by decide) _ _ _ rfl (hown.alloc _) ⟨wr.heap.size, 0, none⟩ 1 1 [.int .i64 (i : Int)] rfl rfl (cell_one_new _ _ _) (by simp [Value.oneCell']) (by have : maxLen = 9223372036854775807 := rfl; omega) (by omega) (by simp; omega) ?_; intro v' w1 hown2 hgrow _; obtain ⟨g', cap', rfl⟩ := ownsRow_succ hown2; have d3 := rowAt_append hown hgrow q1 (by omega); have d31 := d3.cell 1; have d30 := d3.frozen 1; simp only [List.getElem?_cons_zero, List.getElem?_cons_succ] at d31)
        have hgrow' : (wr.alloc (.cells #[.int .i64 (i : Int)] 3)).grownBy w1 u.ownBlock := hgrow
        go_roundw
        case rel =>
          refine ⟨i + 1, by omega, by go_num, ⟨_, d3.set 1 _, ?_⟩, (rowAt_append hown hgrow' q0 (by omega)).far (p := ⟨w.heap.size + 1, 1, none⟩) (by simp) _, ?_, hB.trans (below_append hown hgrow' (by omega) (by have := hB.size; omega) (p := ⟨w.heap.size + 1, 1, none⟩) (by simp) _)⟩
          · have := ownsRow_setCell_below hown2 (a := ⟨w.heap.size + 1, 1, none⟩) (by show w.heap.size + 1 < _; omega) (.slice (some ⟨g', 0, none⟩) ((onsTo s.data.toList i).length + 1) cap')
            rw [HON.out (by trivial)]
            simpa using this
          · have := hgrow'.size
            simp [World.setCell] at this ⊢
            omega
        case measure => simp [intOf]; omega
    · obtain rfl : n = i := by omega
      obtain ⟨Au, cu, rfl⟩ : ∃ Au cu, u = .slice Au (onsTo s.data.toList n).length cu := by
        obtain ⟨Au, cu, e, _⟩ := (Elems.own (enc := Value.int .i64) (xs := onsTo s.data.toList n) hown).form
        exact ⟨Au, cu, e⟩
      have HO := Lib.hid hown
      have HQ := Lib.hid q0
      obtain ⟨c00, c01⟩ := q0.two
      have f0 := q0.frozen 0
      have f1 := q0.frozen 1
      clear hown q0
      go_wp2_with fail
      have R := (HQ.out.set 0 (.int .i64 (n : Int))).set 1 (.slice Au (onsTo s.data.toList n).length cu)
      have e0 := R.cell 0
      have e1 := R.cell 1
      simp only [List.set_cons_zero, List.set_cons_succ, List.getElem?_cons_zero, List.getElem?_cons_succ] at e0 e1
      refine bodyPost_ret (v := .agg #[.int .i64 (n : Int), .slice Au (onsTo s.data.toList n).length cu]) (by simp [results, Try.results39, go_sem, e0, e1]) rfl ?_
      refine ⟨Au, cu, rfl, ⟨_, rfl, ?_⟩, (fromOn_own HO.out).less (by omega), (hB.setCell (p := ⟨w.heap.size, 0, none⟩) (Nat.le_refl _) _).setCell (p := ⟨w.heap.size, 1, none⟩) (Nat.le_refl _) _⟩
      have := ownsRow_setCell_below (ownsRow_setCell_below HO.out (a := ⟨w.heap.size, 0, none⟩) (by show w.heap.size < _; omega) (.int .i64 (n : Int))) (a := ⟨w.heap.size, 1, none⟩) (by show w.heap.size < _; omega) (.slice Au (onsTo s.data.toList n).length cu)
      exact Elems.own this

theorem ints_store2 {w : World} {v : Value} {l : List Int} {g lo : Nat} (h : Ints w w.heap.size v l) (hf : FromOn lo v) (hg : g < lo) (u u' : Value) : Ints ((w.setCell ⟨g, 0, none⟩ u).setCell ⟨g, 1, none⟩ u') ((w.setCell ⟨g, 0, none⟩ u).setCell ⟨g, 1, none⟩ u').heap.size v l := by
  have hne : ∀ ad n c, v = .slice (some ad) n c → ad.block ≠ g := fun ad n c e => by have := hf ad n c e; omega
  have := Elems.apart_of (Elems.apart_of h hne (p := ⟨g, 0, none⟩) rfl u) hne (p := ⟨g, 1, none⟩) rfl u'
  simpa [World.setCell] using this
theorem onsTo_end {l : List UInt8} (h0 : l ≠ []) (h1 : l.getD (l.length - 1) 0 ≠ 0) : onsTo l (endAt l).toNat = (onsOf l).dropLast := by
  obtain ⟨e0, e1, e2, e3⟩ := end_top h0 h1
  obtain ⟨p, hm⟩ := drop_mem h0 h1
  refine rise_ext (onsTo_rises _ _) p fun x => ?_
  rw [mem_onsTo, hm]
  constructor
  · rintro ⟨g0, g1, g2⟩; exact ⟨g0, g2, by omega⟩
  · rintro ⟨g0, g1, g2⟩; exact ⟨g0, by omega, g1⟩
theorem bits_of_vec (l : List UInt8) (n : Nat) (hn : n ≤ 2048) (hl : l.length = (n + 7) / 8) : (vecOf n (onsTo l n) = l ↔ ∀ y ∈ onsOf l, y < (n : Int)) ∧ rightB n (onsTo l n) = true ∧ ((∀ y ∈ onsOf l, y < (n : Int)) → onsTo l n = onsOf l) := by
  have hr : rightB n (onsTo l n) = true := (rightB_iff _ _).2 ⟨⟨by omega, by omega⟩, onsTo_rises _ _, fun x hx => by have := mem_onsTo.1 hx; omega⟩
  refine ⟨⟨fun h y hy => ?_, fun h => ?_⟩, hr, fun h => ?_⟩
  · have h2 := onsOf_vecOf hr
    rw [h] at h2
    rw [h2] at hy
    exact (mem_onsTo.1 hy).2.1
  · refine bytes_ext_bits (by rw [vecOf_length, hl, Int.toNat_natCast]) fun j => ?_
    rw [bitAt_vecOf hr]
    have e : ((j : Int).toNat) = j := by omega
    by_cases hb : bitAt l j = true
    · have hj := h (j : Int) (mem_onsOf.2 ⟨by omega, by rw [e]; exact hb⟩)
      have : (j : Int) ∈ onsTo l n := mem_onsTo.2 ⟨by omega, hj, by rw [e]; exact hb⟩
      simp [this, hb]
    · have : ¬ (j : Int) ∈ onsTo l n := fun k => hb (by have := (mem_onsTo.1 k).2.2; rwa [e] at this)
      simp [this, hb]
  · refine rise_ext (onsTo_rises _ _) (onsOf_rises _) fun x => ?_
    rw [mem_onsTo, mem_onsOf]
    constructor
    · rintro ⟨g0, _, g2⟩; exact ⟨g0, g2⟩
    · rintro ⟨g0, g2⟩; exact ⟨g0, h x (mem_onsOf.2 ⟨g0, g2⟩), g2⟩
end Go.Proofs.Ytpojpikndlcbkaa
