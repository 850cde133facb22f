/- bits.Unlist. -/
import Derived.Test.YtpojpikndlcbkaaBitD
import Derived.WideShapes
namespace Go.Proofs.Ytpojpikndlcbkaa
open Go.RowKit Go.Shelf

theorem byte_getD (T : ByteArray) (i : Nat) (h : i < T.size) : T[i]'h = T.data.toList.getD i 0 := by
  have h' : i < T.data.toList.length := by simpa using h
  rw [List.getD_eq_getElem?_getD, List.getElem?_eq_getElem h']
  rfl
theorem bytes_length (s : ByteArray) : s.data.toList.length = s.size := by simp
theorem byte_fin (b : UInt8) : ∃ k : Fin 256, b = UInt8.ofNat k.val := ⟨⟨b.toNat, b.toNat_lt⟩, by simp⟩

set_option maxHeartbeats 1000000 in
set_option maxRecDepth 100000 in
theorem Len8_any (b : UInt8) (w : World) :
    Calls Try.prog 44 #[.int .u8 (b.toNat : Int)] w fun e w' => e = .returned (.int .i64 (bitLen8 b : Int)) ∧ w = w' := by
  have hb := UInt8.toNat_lt b
  go_enter Try.func44, Try.ntmps44
  go_wp2_with fail
  go_ret
  refine ⟨?_, rfl⟩
  refine congrArg (fun z => Ending.returned (Value.int .i64 z)) ?_
  simp only [byte_getD]
  clear hb
  obtain ⟨k, rfl⟩ := byte_fin b
  revert k
  decide +kernel

theorem bitLen8_le (b : UInt8) : bitLen8 b ≤ 8 := by
  obtain ⟨k, rfl⟩ := byte_fin b
  revert k
  decide +kernel

set_option maxHeartbeats 1000000 in
theorem endOf_any (s : ByteArray) (w : World) (h0 : 0 < s.size) (h1 : s.size ≤ 1000000000000000) :
    Calls Try.prog 38 #[.string s] w fun e w' => e = .returned (.int .i64 (endAt s.data.toList)) ∧ w = w' := by
  go_enter Try.func38, Try.ntmps38
  go_wp2_with fail
  with_reducible refine (Len8_any _ _).mono ?_
  rintro e w1 ⟨rfl, rfl⟩
  have hq : bitLen8 s[s.size - 1] ≤ 8 := bitLen8_le _
  have HE : Hid (endAt s.data.toList = 8 * ((s.size : Int) - 1) + (bitLen8 s[s.size - 1] : Int) - 1) := by
    unfold endAt
    rw [byte_getD]
    simp [Hid]
  generalize bitLen8 s[s.size - 1] = q at *
  go_wp2_with fail
  go_ret
  refine ⟨?_, rfl⟩
  rw [HE.out]
  show Ending.returned (Value.int .i64 (((s.size : Int) - 1) * 8 + (q : Int) - 1)) = _
  congr 2
  omega

theorem bytes_of (s : ByteArray) (W : World) (B : Nat) (hB : W.heap.size = B) : ∃ c o, (convert 9 42 (.string s)).run Try.prog W = .ok (.slice (some ⟨B, 0, none⟩) s.size c) (W.alloc o).drew ∧ Elems enc8 (W.alloc o).drew (W.alloc o).drew.heap.size (.slice (some ⟨B, 0, none⟩) s.size c) s.data.toList := by
  subst hB
  refine ⟨_, _, run_bytes_of_string W 9 42 5 s Try.underlying9 Try.underlying42 Try.underlying5, _, _, rfl, ?_, fun h0 => ⟨⟨W.heap.size, 0, none⟩, rfl, ?_, fun j x hx => ?_⟩⟩
  · simpa using grownCap_ge W s.size 0 5
  · show W.heap.size < (W.alloc _).heap.size; simp
  · have hj : j < s.data.size := by
      have := (List.getElem?_eq_some_iff.1 hx).1
      simpa using this
    rw [addr0]
    have hh : (W.drew.alloc (.cells (bytesRow s (grownCap W s.size 0 5)) 5 ((bytesRow s (grownCap W s.size 0 5)).size, (bytesRow s (grownCap W s.size 0 5)).size + 1))).heap[W.heap.size]? = some (.cells (bytesRow s (grownCap W s.size 0 5)) 5 ((bytesRow s (grownCap W s.size 0 5)).size, (bytesRow s (grownCap W s.size 0 5)).size + 1)) := heap_alloc_new W.drew _
    refine (cell_of_row _ _ j _ _ _ hh).trans ?_
    rw [bytesRow_at s _ j hj]
    have : x = s.data[j] := by
      have h2 := (List.getElem?_eq_some_iff.1 hx).2
      simpa using h2.symm
    rw [this]

set_option maxHeartbeats 1000000 in
theorem Unlist_form (s : ByteArray) (most : Int) (w : World) (hs : s.size ≤ 1000000000000000) (h : s.data.toList = [] ∨ s.data.toList.getD (s.data.toList.length - 1) 0 = 0) :
    Calls Try.prog 23 #[.string s, .int .i64 most] w fun e w' => e = .returned (.tuple #[.agg #[.int .i64 0, .slice none 0 0], .int .i64 2]) ∧ Below w.heap.size w w' := by
  rcases Nat.eq_zero_or_pos s.size with h0 | h0
  · obtain rfl : s = ⟨#[]⟩ := by
      apply WideShapes.bytes_inj
      exact List.eq_nil_of_length_eq_zero (by simpa using h0)
    clear h h0 hs
    go_enter Try.func23, Try.ntmps23
    go_wp2_with fail
    refine bodyPost_ret (v := .tuple #[.agg #[.int .i64 0, .slice none 0 0], .int .i64 2]) (by simp [results, Try.results23, go_sem]) rfl ?_
    exact ⟨rfl, (Below.refl _ w).alloc (Nat.le_refl _) _⟩
  · have hne : s.toList.isEmpty = false := by
      rw [ByteArray.toList_eq]
      cases e : s.data.toList with
      | nil => have h1 : s.data.toList.length = 0 := by rw [e]; rfl
               rw [bytes_length] at h1; omega
      | cons a l => rfl
    have hz : s[s.size - 1].toNat = 0 := by
      rw [byte_getD]
      rcases h with h | h
      · have h1 : s.data.toList.length = 0 := by rw [h]; rfl
        rw [bytes_length] at h1; omega
      · rw [bytes_length] at h
        rw [h]; rfl
    clear h
    go_enter Try.func23, Try.ntmps23
    go_wp2_with fail
    refine bodyPost_ret (v := .tuple #[.agg #[.int .i64 0, .slice none 0 0], .int .i64 2]) (by simp [results, Try.results23, go_sem]) rfl ?_
    exact ⟨rfl, (Below.refl _ w).alloc (Nat.le_refl _) _⟩

theorem not_nil_of {s : ByteArray} (h : ¬ (s.data.toList = [] ∨ s.data.toList.getD (s.data.toList.length - 1) 0 = 0)) : 0 < s.size ∧ s.toList.isEmpty = false ∧ s.data.toList.getD (s.size - 1) 0 ≠ 0 := by
  have h0 : 0 < s.size := by
    rcases Nat.eq_zero_or_pos s.size with k | k
    · exact absurd (.inl (List.eq_nil_of_length_eq_zero (by rw [bytes_length]; exact k))) h
    · exact k
  refine ⟨h0, ?_, fun e => h (.inr (by rw [bytes_length]; exact e))⟩
  rw [ByteArray.toList_eq]
  cases e : s.data.toList with
  | nil => exact absurd (.inl e) h
  | cons a l => rfl

set_option maxHeartbeats 1000000 in
theorem Unlist_long (s : ByteArray) (most : Int) (w : World) (hs : s.size ≤ 1000000000000000) (h : ¬ (s.data.toList = [] ∨ s.data.toList.getD (s.data.toList.length - 1) 0 = 0)) (hl : most < endAt s.data.toList ∨ 2048 < endAt s.data.toList) :
    Calls Try.prog 23 #[.string s, .int .i64 most] w fun e w' => e = .returned (.tuple #[.agg #[.int .i64 0, .slice none 0 0], .int .i64 4]) ∧ Below w.heap.size w w' := by
  obtain ⟨h0, hne, hz⟩ := not_nil_of h
  have hz1 : ((s[s.size - 1].toNat : Int) == 0) = false := by
    rw [byte_getD]
    simp only [beq_eq_false_iff_ne, ne_eq]
    intro e
    exact hz (UInt8.toNat_inj.1 (by simpa using e))
  have HE := fun W => endOf_any s W h0 hs
  generalize endAt s.data.toList = E at *
  clear h hz
  by_cases c1 : most < E
  · go_enter Try.func23, Try.ntmps23
    go_wp2_with fail
    with_reducible refine (HE _).mono ?_
    rintro e w1 ⟨rfl, rfl⟩
    go_wp2_with fail
    refine bodyPost_ret (v := .tuple #[.agg #[.int .i64 0, .slice none 0 0], .int .i64 4]) (by simp [results, Try.results23, go_sem]) rfl ?_
    exact ⟨rfl, (Below.refl _ w).alloc (Nat.le_refl _) _⟩
  · have hf : fitsB E = false := by
      cases e : fitsB E
      · rfl
      · have := (fitsB_iff E).1 e; omega
    go_enter Try.func23, Try.ntmps23
    go_wp2_with fail
    with_reducible refine (HE _).mono ?_
    rintro e w1 ⟨rfl, rfl⟩
    go_wp2_with fail
    with_reducible refine (fitsLen_any _ _).mono ?_
    rintro e w1 ⟨rfl, rfl⟩
    rw [hf]
    go_wp2_with fail
    refine bodyPost_ret (v := .tuple #[.agg #[.int .i64 0, .slice none 0 0], .int .i64 4]) (by simp [results, Try.results23, go_sem]) rfl ?_
    exact ⟨rfl, (Below.refl _ w).alloc (Nat.le_refl _) _⟩

set_option maxHeartbeats 1000000 in
theorem Unlist_ok (s : ByteArray) (most : Int) (w : World) (hs : s.size ≤ 1000000000000000) (h : ¬ (s.data.toList = [] ∨ s.data.toList.getD (s.data.toList.length - 1) 0 = 0)) (hl : ¬ (most < endAt s.data.toList ∨ 2048 < endAt s.data.toList)) :
    Calls Try.prog 23 #[.string s, .int .i64 most] w fun e w' => ∃ x, e = .returned (.tuple #[x, .int .i64 0]) ∧ Bt w' x (endAt s.data.toList) (onsOf s.data.toList).dropLast ∧ Below w.heap.size w w' := by
  obtain ⟨h0, hne, hz⟩ := not_nil_of h
  have hz1 : ((s[s.size - 1].toNat : Int) == 0) = false := by
    rw [byte_getD]
    simp only [beq_eq_false_iff_ne, ne_eq]
    intro e
    exact hz (UInt8.toNat_inj.1 (by simpa using e))
  have HE := fun W => endOf_any s W h0 hs
  obtain ⟨e0, _, _, e3⟩ := end_top (l := s.data.toList) (fun e => h (.inl e)) (fun e => h (.inr e))
  have HD := Lib.hid (onsOf_end (l := s.data.toList) (fun e => h (.inl e)) (fun e => h (.inr e)))
  have hsz : s.data.toList.length ≤ 300 := by omega
  have hlen : (onsOf s.data.toList).length ≤ 3000 := by
    have := onsTo_length s.data.toList (8 * s.data.toList.length)
    unfold onsOf
    omega
  clear h hz e3
  generalize endAt s.data.toList = E at *
  have hf : fitsB E = true := (fitsB_iff E).2 (by omega)
  obtain ⟨c, o, hcv, hel⟩ := bytes_of s (w.alloc (.cells #[.int .i64 0, .slice none 0 0] 24)) (w.heap.size + 1) (by simp)
  go_enter Try.func23, Try.ntmps23
  go_wp2_with fail
  with_reducible refine (HE _).mono ?_
  rintro e w1 ⟨rfl, rfl⟩
  go_wp2_with fail
  with_reducible refine (fitsLen_any _ _).mono ?_
  rintro e w1 ⟨rfl, rfl⟩
  rw [hf]
  go_wp2_with fail
  with_reducible refine (marked_any _ _ _ _).mono ?_
  rintro e w2 ⟨rfl, rfl⟩
  obtain ⟨W1, hW1⟩ : ∃ W1, W1 = ((w.alloc (.cells #[.int .i64 0, .slice none 0 0] 24)).alloc o).drew := ⟨_, rfl⟩
  have hrow0 : RowAt W1 w.heap.size 24 [.int .i64 0, .slice none 0 0] := by rw [hW1]; exact (RowAt.new w 24 #[.int .i64 0, .slice none 0 0]).alloc o
  have hb1 : Below w.heap.size w W1 := by rw [hW1]; exact (((Below.refl _ w).alloc (Nat.le_refl _) _).alloc (by simp) _).drew
  rw [← hW1] at hel ⊢
  clear hcv HE hW1
  go_wp2_with fail
  with_reducible refine (Collect_marked W1.heap.size _ s.data.toList _ (by simp) (cell_new1 _ _ _) (hel.alloc _) (by omega)).mono ?_
  rintro e w3 ⟨v, rfl, hv, hfo, hb3⟩
  have hrow3 := (hrow0.alloc (.cells #[.slice (some ⟨w.heap.size + 1, 0, none⟩) s.size c] 42)).below hb3 (by have := hrow0.lt; simp; omega)
  have hw3 : Below w.heap.size w w3 := (hb1.alloc hb1.size _).trans (hb3.mono (by have := hb1.size; simp; omega))
  have hpos : 0 < (onsOf s.data.toList).length := by rw [HD.out]; simp
  obtain ⟨A, cc, rfl, hcc⟩ := hv.form
  obtain ⟨ad, rfl, -, -⟩ := hv.at_ hpos
  have hfirst := hv.first ((onsOf s.data.toList).length - 1) (by omega)
  rw [← List.dropLast_eq_take] at hfirst
  have hne3 : ∀ ad' n' c', Value.slice (some ad) ((onsOf s.data.toList).length - 1) cc = .slice (some ad') n' c' → ad'.block ≠ w.heap.size := by
    intro ad' n' c' e
    injection e with e1 _ _
    injection e1 with e1
    subst e1
    have := hfo ad _ _ rfl
    have := hb1.size
    simp at *
    omega
  have HX := fun u u' => Lib.hid (Elems.apart_of (Elems.apart_of hfirst hne3 (p := ⟨w.heap.size, 0, none⟩) rfl u) hne3 (p := ⟨w.heap.size, 1, none⟩) rfl u')
  clear hfirst hne3
  have R : ∀ u u', RowAt ((w3.setCell ⟨w.heap.size, 0, none⟩ u).setCell ⟨w.heap.size, 1, none⟩ u') w.heap.size 24 [u, u'] := fun u u' => (hrow3.set 0 u).set 1 u'
  have HR := fun u u' => Lib.hid (R u u')
  generalize hN : (onsOf s.data.toList).length = N at *
  have hc30 := hrow3.cell 0
  have hc31 := hrow3.cell 1
  have hf30 := hrow3.frozen 0
  have hf31 := hrow3.frozen 1
  clear hel hrow0 hb3 hb1 HD hN R hrow3 hfo hv
  go_wp2_with fail
  have hr0 := (HR (.int .i64 E) (.slice (some ad) (N - 1) cc)).out.cell 0
  have hr1 := (HR (.int .i64 E) (.slice (some ad) (N - 1) cc)).out.cell 1
  simp only [List.getElem?_cons_zero, List.getElem?_cons_succ] at hr0 hr1
  refine bodyPost_ret (v := .tuple #[.agg #[.int .i64 E, .slice (some ad) (N - 1) cc], .int .i64 0]) (by simp [results, Try.results23, go_sem, hr0, hr1]) rfl ?_
  refine ⟨_, rfl, ⟨_, rfl, ?_⟩, (hw3.setCell (p := ⟨w.heap.size, 0, none⟩) (Nat.le_refl _) _).setCell (p := ⟨w.heap.size, 1, none⟩) (Nat.le_refl _) _⟩
  have := (HX (.int .i64 E) (.slice (some ad) (N - 1) cc)).out
  simpa [World.setCell] using this

theorem Unlist_any (s : ByteArray) (most : Int) (w : World) (hs : s.size ≤ 1000000000000000) :
    Calls Try.prog 23 #[.string s, .int .i64 most] w fun e w' => ∃ x, e = .returned (.tuple #[x, .int .i64 (unlistOf s.data.toList most).2.2]) ∧ Bt w' x (unlistOf s.data.toList most).1 (unlistOf s.data.toList most).2.1 ∧ Below w.heap.size w w' := by
  unfold unlistOf
  by_cases h : s.data.toList = [] ∨ s.data.toList.getD (s.data.toList.length - 1) 0 = 0
  · rw [if_pos h]
    refine (Unlist_form s most w hs h).mono fun e w' ⟨he, hb⟩ => ⟨_, he, ⟨_, rfl, Elems.nil _ _ _⟩, hb⟩
  · rw [if_neg h]
    by_cases hl : most < endAt s.data.toList ∨ 2048 < endAt s.data.toList
    · rw [if_pos hl]
      exact (Unlist_long s most w hs h hl).mono fun e w' ⟨he, hb⟩ => ⟨_, he, ⟨_, rfl, Elems.nil _ _ _⟩, hb⟩
    · rw [if_neg hl]
      exact Unlist_ok s most w hs h hl
end Go.Proofs.Ytpojpikndlcbkaa
