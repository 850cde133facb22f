/- The document's own answers of layer 2: Unlist, Unvector. -/
import Derived.Test.YtpojpikndlcbkaaRBitD
namespace Go.Proofs.Ytpojpikndlcbkaa
open Go.RowKit Go.Shelf

set_option maxHeartbeats 2000000 in
theorem rUnlist_form (s : ByteArray) (most : Int) (w : World) (hs : s.size ≤ 1000000) (h : s.data.toList = [] ∨ s.data.toList.getD (s.data.toList.length - 1) 0 = 0) :
    Calls Try.prog 24 #[.string s, .int .i64 most] w fun e w' => e = .returned (.tuple #[.agg #[.int .i64 0, .slice none 0 0], .int .i64 2]) ∧ Below w.heap.size w w' := by
  rcases Nat.eq_zero_or_pos s.size with h0 | h0
  · obtain rfl : s = ⟨#[]⟩ := by
      apply WideShapes.bytes_inj
      exact List.eq_nil_of_length_eq_zero (by simpa using h0)
    clear h h0 hs
    go_enter Try.func24, Try.ntmps24
    go_wp2_with fail
    refine bodyPost_ret (v := .tuple #[.agg #[.int .i64 0, .slice none 0 0], .int .i64 2]) (by simp [results, Try.results24, go_sem]) rfl ?_
    exact ⟨rfl, (Below.refl _ w).alloc (Nat.le_refl _) _⟩
  · have hz : s[s.size - 1].toNat = 0 := by
      rw [byte_getD]
      rcases h with h | h
      · have h1 : s.data.toList.length = 0 := by rw [h]; rfl
        rw [bytes_length] at h1; omega
      · rw [bytes_length] at h
        rw [h]; rfl
    have hd : ((s.size : Int) == 0) = false := by simp only [beq_eq_false_iff_ne, ne_eq]; omega
    clear h
    go_enter Try.func24, Try.ntmps24
    go_wp2_with fail
    refine bodyPost_ret (v := .tuple #[.agg #[.int .i64 0, .slice none 0 0], .int .i64 2]) (by simp [results, Try.results24, go_sem]) rfl ?_
    exact ⟨rfl, (Below.refl _ w).alloc (Nat.le_refl _) _⟩

set_option maxHeartbeats 4000000 in
set_option maxRecDepth 100000 in
theorem rUnlist_rest (s : ByteArray) (most : Int) (w : World) (hs : s.size ≤ 1000000) (h : ¬ (s.data.toList = [] ∨ s.data.toList.getD (s.data.toList.length - 1) 0 = 0)) :
    Calls Try.prog 24 #[.string s, .int .i64 most] w fun e w' => ∃ x, e = .returned (.tuple #[x, .int .i64 (unlistOf s.data.toList most).2.2]) ∧ Bt w' x (unlistOf s.data.toList most).1 (unlistOf s.data.toList most).2.1 ∧ Below w.heap.size w w' := by
  obtain ⟨h0, hne, hz⟩ := not_nil_of h
  have hz1 : ((s[s.size - 1].toNat : Int) == 0) = false := by
    rw [byte_getD]
    simp only [beq_eq_false_iff_ne, ne_eq]
    intro e
    exact hz (UInt8.toNat_inj.1 (by simpa using e))
  have hd : ((s.size : Int) == 0) = false := by simp only [beq_eq_false_iff_ne, ne_eq]; omega
  obtain ⟨e0, e1, e2, e3⟩ := end_top (l := s.data.toList) (fun e => h (.inl e)) (fun e => h (.inr e))
  have HE := Lib.hid (onsTo_end (l := s.data.toList) (fun e => h (.inl e)) (fun e => h (.inr e)))
  have HU : Hid (unlistOf s.data.toList most = if most < endAt s.data.toList ∨ 2048 < endAt s.data.toList then (0, [], 4) else (endAt s.data.toList, (onsOf s.data.toList).dropLast, 0)) := by
    unfold unlistOf
    rw [if_neg h]; rfl
  rw [bytes_length] at e3
  obtain ⟨E, hE⟩ := Int.eq_ofNat_of_zero_le e0
  rw [hE] at e1 e2 e3 HE HU
  rw [Int.toNat_natCast] at e1 e3 HE
  clear h hz hne e0 hE
  have E2 := Lib.hid e2
  have hE8 : E < 8 * s.size := by omega
  clear e2 e3
  have r0 : RowAt (w.alloc (.cells #[.int .i64 0, .slice none 0 0] 24)) w.heap.size 24 [.int .i64 0, .slice none 0 0] := RowAt.new w 24 #[.int .i64 0, .slice none 0 0]
  have hw0 : Below w.heap.size w (w.alloc (.cells #[.int .i64 0, .slice none 0 0] 24)) := (Below.refl _ w).alloc (Nat.le_refl _) _
  go_enter Try.func24, Try.ntmps24
  go_wp2_with fail
  go_loop [6] (fun nv => ∃ j : Nat, E ≤ j ∧ j < 8 * s.size ∧ nv = .int .i64 j) (fun nv => (intOf nv).toNat)
  case atStart => exact ⟨8 * s.size - 1, by omega, by omega, by go_num⟩
  case round =>
    obtain ⟨j, hj1, hj2, rfl⟩ := hrel
    have hidx : j / 8 < s.size := by omega
    have hbit : s[j / 8].toNat.testBit (j % 8) = bitAt s.data.toList j := by
      unfold bitAt
      rw [byte_getD]
    have hmod := bit_mod s[j / 8] (j % 8)
    rw [hbit] at hmod
    by_cases hjE : j = E
    · subst hjE
      rw [e1] at hmod
      simp only [if_true] at hmod
      clear hbit
      by_cases c1 : most < (j : Int)
      · rw [if_pos (.inl c1)] at HU
        go_wp2_with fail
        refine bodyPost_ret (v := .tuple #[.agg #[.int .i64 0, .slice none 0 0], .int .i64 4]) (by simp [results, Try.results24, go_sem]) rfl ?_
        rw [HU.out]
        exact ⟨_, rfl, ⟨_, rfl, Elems.nil _ _ _⟩, hw0⟩
      · by_cases c2 : 2048 < (j : Int)
        · rw [if_pos (.inr c2)] at HU
          go_wp2_with fail
          refine bodyPost_ret (v := .tuple #[.agg #[.int .i64 0, .slice none 0 0], .int .i64 4]) (by simp [results, Try.results24, go_sem]) rfl ?_
          rw [HU.out]
          exact ⟨_, rfl, ⟨_, rfl, Elems.nil _ _ _⟩, hw0⟩
        · rw [if_neg (by omega)] at HU
          go_wp2_with fail
          with_reducible refine (rset_any s j _ (by omega) (by omega)).mono ?_
          rintro e w1 ⟨A, c, rfl, hA, hfo, hb1⟩
          have HA := Lib.hid hA.ints
          have HF := Lib.hid hfo
          clear hfo
          replace r0 := r0.on hb1
          have hw1 := hw0.trans (hb1.mono hw0.size)
          obtain ⟨c0, c1'⟩ := r0.two
          have f0 := r0.frozen 0
          have f1 := r0.frozen 1
          have HQ := Lib.hid r0
          clear hb1 r0 hmod
          go_wp2_with fail
          have R := (HQ.out.set 0 (.int .i64 (j : Int))).set 1 (.slice A (onsTo s.data.toList j).length c)
          have g0 := R.cell 0
          have g1 := R.cell 1
          simp only [List.set_cons_zero, List.set_cons_succ, List.getElem?_cons_zero, List.getElem?_cons_succ] at g0 g1
          refine bodyPost_ret (v := .tuple #[.agg #[.int .i64 (j : Int), .slice A (onsTo s.data.toList j).length c], .int .i64 0]) (by simp [results, Try.results24, go_sem, g0, g1]) rfl ?_
          rw [HU.out, ← HE.out]
          refine ⟨_, rfl, ⟨_, rfl, ?_⟩, (hw1.setCell (p := ⟨w.heap.size, 0, none⟩) (Nat.le_refl _) _).setCell (p := ⟨w.heap.size, 1, none⟩) (Nat.le_refl _) _⟩
          exact ints_store2 HA.out HF.out (by simp) _ _
    · have hoff := E2.out j (by omega)
      rw [hoff] at hmod
      simp only [Bool.false_eq_true, if_false] at hmod
      clear hbit hoff
      go_wp2_with fail
      go_round
      case rel => exact ⟨j - 1, by omega, by omega, by go_num⟩
      case measure => simp [intOf]; omega

theorem rUnlist_any (s : ByteArray) (most : Int) (w : World) (hs : s.size ≤ 1000000) :
    Calls Try.prog 24 #[.string s, .int .i64 most] w fun e w' => ∃ x, e = .returned (.tuple #[x, .int .i64 (unlistOf s.data.toList most).2.2]) ∧ Bt w' x (unlistOf s.data.toList most).1 (unlistOf s.data.toList most).2.1 ∧ Below w.heap.size w w' := by
  by_cases h : s.data.toList = [] ∨ s.data.toList.getD (s.data.toList.length - 1) 0 = 0
  · have e : unlistOf s.data.toList most = (0, [], 2) := by unfold unlistOf; rw [if_pos h]
    rw [e]
    exact (rUnlist_form s most w hs h).mono fun e w' ⟨he, hb⟩ => ⟨_, he, ⟨_, rfl, Elems.nil _ _ _⟩, hb⟩
  · exact rUnlist_rest s most w hs h

set_option maxHeartbeats 4000000 in
set_option maxRecDepth 100000 in
theorem rUnvector_rest (s : ByteArray) (n : Nat) (w : World) (hn : n ≤ 2048) (hl : s.size = (n + 7) / 8) :
    Calls Try.prog 26 #[.string s, .int .i64 n] w fun e w' => ∃ x, e = .returned (.tuple #[x, .int .i64 (unvecOf s.data.toList n).2.2]) ∧ Bt w' x (unvecOf s.data.toList n).1 (unvecOf s.data.toList n).2.1 ∧ Below w.heap.size w w' := by
  have hl' : s.data.toList.length = (n + 7) / 8 := by rw [bytes_length]; exact hl
  obtain ⟨hv1, hr, hv2⟩ := bits_of_vec s.data.toList n hn hl'
  have hlen := onsTo_length s.data.toList n
  have l9 := small_len (l := onsTo s.data.toList n) (by omega)
  obtain ⟨V, hV⟩ : ∃ V : ByteArray, (⟨(vctOf n (onsTo s.data.toList n)).toArray⟩ : ByteArray) = V := ⟨_, rfl⟩
  have lV : V.data.toList = vecOf n (onsTo s.data.toList n) := by rw [← hV]; simp [vctOf, hr]
  have hRV := fun x W (hx : Bt W x n (onsTo s.data.toList n)) => rVector_any x n (onsTo s.data.toList n) W hx l9
  rw [hV, show argErr (rightB n (onsTo s.data.toList n)) = 0 by simp [argErr, hr]] at hRV
  have hneq : ((s.size : Int) != ((n : Int) + 7) / 8) = false := by simp only [bne_eq_false_iff_eq]; omega
  have HC := Lib.hid (unvec_cases s.data.toList n hn hl')
  obtain ⟨q, hq⟩ : ∃ q : Bool, (!V.toList == s.toList) = q := ⟨_, rfl⟩
  have Hq : Hid (q = false ↔ ∀ y ∈ onsOf s.data.toList, y < (n : Int)) := by
    show _ ↔ _
    rw [← hq, ByteArray.toList_eq, ByteArray.toList_eq, lV, ← hv1]
    simp
  have HV2 := Lib.hid hv2
  clear hv1 hv2 hr hV lV hl hl'
  have r0 : RowAt (w.alloc (.cells #[.int .i64 0, .slice none 0 0] 24)) w.heap.size 24 [.int .i64 0, .slice none 0 0] := RowAt.new w 24 #[.int .i64 0, .slice none 0 0]
  have hw0 : Below w.heap.size w (w.alloc (.cells #[.int .i64 0, .slice none 0 0] 24)) := (Below.refl _ w).alloc (Nat.le_refl _) _
  have hs8 : n ≤ 8 * s.size := by
    have : (s.size : Int) = ((n : Int) + 7) / 8 := by simpa using hneq
    omega
  go_enter Try.func26, Try.ntmps26
  go_wp2_with fail
  with_reducible refine (rset_any s n _ hs8 (by omega)).mono ?_
  rintro e w1 ⟨A, c, rfl, hA, hfo, hb1⟩
  replace r0 := r0.on hb1
  have hw1 := hw0.trans (hb1.mono hw0.size)
  have hfo' : FromOn (w.heap.size + 1) (.slice A (onsTo s.data.toList n).length c) := hfo.less (by simp)
  clear hb1 hfo hw0
  generalize hL : onsTo s.data.toList n = L at *
  have HL := Lib.hid hL
  clear hL
  have rb : RowAt (w1.alloc (.cells #[.int .i64 (n : Int), .slice A L.length c] 24)) w1.heap.size 24 [.int .i64 (n : Int), .slice A L.length c] := RowAt.new w1 24 #[.int .i64 (n : Int), .slice A L.length c]
  have hbA : Below w1.heap.size w1 (w1.alloc (.cells #[.int .i64 (n : Int), .slice A L.length c] 24)) := (Below.refl _ _).alloc (Nat.le_refl _) _
  have RV := hRV _ _ (hA.on hbA)
  go_wp2_with fail
  with_reducible refine RV.mono ?_
  rintro e w2 ⟨rfl, hb2⟩
  have hb12 := hbA.trans (hb2.mono hbA.size)
  replace r0 := r0.on hb12
  replace rb := rb.on hb2
  replace hA := hA.on hb12
  have hw2 := hw1.trans (hb12.mono hw1.size)
  obtain ⟨c0, c1⟩ := r0.two
  obtain ⟨cb0, cb1⟩ := rb.two
  have f0 := r0.frozen 0
  have f1 := r0.frozen 1
  have HQ := Lib.hid r0
  clear hbA hb2 hb12 RV hRV r0 hw1
  cases q
  · have HUV := Lib.hid (HC.out.1 (Hq.out.1 rfl))
    have HLL := Lib.hid (HV2.out (Hq.out.1 rfl))
    clear HC Hq HV2
    go_wp2_with fail
    have R := (HQ.out.set 0 (.int .i64 (n : Int))).set 1 (.slice A L.length c)
    have g0 := R.cell 0
    have g1 := R.cell 1
    simp only [List.set_cons_zero, List.set_cons_succ, List.getElem?_cons_zero, List.getElem?_cons_succ] at g0 g1
    refine bodyPost_ret (v := .tuple #[.agg #[.int .i64 (n : Int), .slice A L.length c], .int .i64 0]) (by simp [results, Try.results26, go_sem, g0, g1]) rfl ?_
    rw [HUV.out, ← HLL.out]
    exact ⟨_, rfl, ⟨_, rfl, ints_store2 hA.ints hfo' (by omega) _ _⟩, (hw2.setCell (p := ⟨w.heap.size, 0, none⟩) (Nat.le_refl _) _).setCell (p := ⟨w.heap.size, 1, none⟩) (Nat.le_refl _) _⟩
  · have hex : ∃ y ∈ onsOf s.data.toList, (n : Int) ≤ y := by
      apply Classical.byContradiction
      intro hno
      have := Hq.out.2 (fun y hy => by
        rcases Int.lt_or_le y (n : Int) with k | k
        · exact k
        · exact absurd ⟨y, hy, k⟩ hno)
      cases this
    have HUV := Lib.hid (HC.out.2 hex)
    clear HC Hq HV2 hex
    go_wp2_with fail
    have R := (HQ.out.set 0 (.int .i64 0)).set 1 (.slice none 0 0)
    have g0 := R.cell 0
    have g1 := R.cell 1
    simp only [List.set_cons_zero, List.set_cons_succ, List.getElem?_cons_zero, List.getElem?_cons_succ] at g0 g1
    refine bodyPost_ret (v := .tuple #[.agg #[.int .i64 0, .slice none 0 0], .int .i64 2]) (by simp [results, Try.results26, go_sem, g0, g1]) rfl ?_
    rw [HUV.out]
    exact ⟨_, rfl, ⟨_, rfl, Elems.nil _ _ _⟩, (hw2.setCell (p := ⟨w.heap.size, 0, none⟩) (Nat.le_refl _) _).setCell (p := ⟨w.heap.size, 1, none⟩) (Nat.le_refl _) _⟩

set_option maxHeartbeats 2000000 in
theorem rUnvector_any (s : ByteArray) (n : Int) (w : World) (hs : s.size ≤ 1000000) :
    Calls Try.prog 26 #[.string s, .int .i64 n] w fun e w' => ∃ x, e = .returned (.tuple #[x, .int .i64 (unvecOf s.data.toList n).2.2]) ∧ Bt w' x (unvecOf s.data.toList n).1 (unvecOf s.data.toList n).2.1 ∧ Below w.heap.size w w' := by
  by_cases hf : fitsB n = true
  · obtain ⟨h0, h1⟩ := (fitsB_iff n).1 hf
    obtain ⟨m, rfl⟩ := Int.eq_ofNat_of_zero_le h0
    by_cases hl : s.size = (m + 7) / 8
    · exact rUnvector_rest s m w (by omega) hl
    · have e : unvecOf s.data.toList m = (0, [], 2) := by
        unfold unvecOf
        rw [if_neg (by rw [hf]; simp), if_pos (by rw [bytes_length]; omega)]
      rw [e]
      have hneq : ((s.size : Int) != ((m : Int) + 7) / 8) = true := by simp only [bne_iff_ne, ne_eq]; omega
      clear hf hl e
      go_enter Try.func26, Try.ntmps26
      go_wp2_with fail
      refine bodyPost_ret (v := .tuple #[.agg #[.int .i64 0, .slice none 0 0], .int .i64 2]) (by simp [results, Try.results26, go_sem]) rfl ?_
      exact ⟨_, rfl, ⟨_, rfl, Elems.nil _ _ _⟩, (Below.refl _ w).alloc (Nat.le_refl _) _⟩
  · have hf' : fitsB n = false := by simpa using hf
    have e : unvecOf s.data.toList n = (0, [], 1) := by
      unfold unvecOf
      rw [if_pos hf']
    rw [e]
    clear e hf'
    rcases Int.lt_or_le n 0 with h | h
    · clear hf
      go_enter Try.func26, Try.ntmps26
      go_wp2_with fail
      refine bodyPost_ret (v := .tuple #[.agg #[.int .i64 0, .slice none 0 0], .int .i64 1]) (by simp [results, Try.results26, go_sem]) rfl ?_
      exact ⟨_, rfl, ⟨_, rfl, Elems.nil _ _ _⟩, (Below.refl _ w).alloc (Nat.le_refl _) _⟩
    · have h2 : 2048 < n := by
        rcases Int.lt_or_le 2048 n with h2 | h2
        · exact h2
        · exact absurd ((fitsB_iff n).2 ⟨h, h2⟩) hf
      clear hf
      go_enter Try.func26, Try.ntmps26
      go_wp2_with fail
      refine bodyPost_ret (v := .tuple #[.agg #[.int .i64 0, .slice none 0 0], .int .i64 1]) (by simp [results, Try.results26, go_sem]) rfl ?_
      exact ⟨_, rfl, ⟨_, rfl, Elems.nil _ _ _⟩, (Below.refl _ w).alloc (Nat.le_refl _) _⟩
end Go.Proofs.Ytpojpikndlcbkaa
