/- bits.List, bits.Vector.
   bits.Unlist. -/
import Derived.Test.YtieheieiolobaaaGreatDoorBitK
import Derived.WideShapes
namespace Go.Proofs.YtieheieiolobaaaGreatDoor
open Go.RowKit Go.Shelf

theorem info_u8 : (Tryz.prog.info? 5).map (fun i => (i.zero, i.size, i.bytes)) = some (some (.int .u8 0), 1, 1) := by kernel_rfl
theorem make_bytes (x : Int) (m : Nat) (hx : x = (m : Int)) (hm : m ≤ 1000000) : ∃ M : Array Value, M.toList = byteVals (List.replicate m 0) ∧
    ∀ W : World, (Instr.makeSlice 63 (.int .i64 x) (.int .i64 x)).run Tryz.prog W = .ok (.slice (some ⟨W.heap.size, 0, none⟩) m m) (W.alloc (.cells M 5)) := by
  obtain ⟨i0, hi, hz0, hz1, hz2⟩ := info_parts info_u8
  subst hx
  refine ⟨madeCells (Value.int .u8 0).cells (m * i0.size), ?_, fun W => ?_⟩
  · rw [hz1, Nat.mul_one]; refine (toList_madeCells_one _ _).trans ?_; simp [byteVals]
  · have hr := run_make (P := Tryz.prog) W 63 5 i0 (.int .u8 0) Tryz.underlying63 hi hz0 .i64 .i64 (m : Int) (m : Int) (by omega) (by omega) (by rw [hz2]; omega) (by omega)
    simpa using hr
theorem mark_len (L g c : Nat) (l : List UInt8) (on : List Int) (v : Value) (w : World) (hL : l.length = L) (hr : RowAt w g 5 (byteVals l)) (hv : Ints w w.heap.size v on) (hap : 0 < on.length → Apart v g)
    (h9 : on.length ≤ maxLen) (hl : L ≤ 1000000) (hon : ∀ x ∈ on, 0 ≤ x ∧ x.toNat / 8 < L) :
    Calls Tryz.prog 82 #[.slice (some ⟨g, 0, none⟩) L c, v] w fun e w' => e = .returned (.tuple #[]) ∧ RowAt w' g 5 (byteVals (putBits l on)) ∧ But g w w' := by
  subst hL
  exact mark_any g c l on v w hr hv hap h9 hl hon
theorem back_bytes (L g c : Nat) (l : List UInt8) (w : World) (hL : l.length = L) (hr : RowAt w g 5 (byteVals l)) :
    (convert 63 9 (.slice (some ⟨g, 0, none⟩) L c)).run Tryz.prog w = .ok (.string ⟨l.toArray⟩) w := by
  subst hL
  refine run_convert_bytes_back (P := Tryz.prog) w 63 9 5 ⟨g, 0, none⟩ c l Tryz.underlying63 Tryz.underlying5 Tryz.underlying9 (fun j hj => ?_)
  rw [addr0, hr.cell]
  simp [byteVals, List.getElem?_eq_getElem hj]

/-- Two cells of a struct's box, kept. -/
theorem box_bits {w w' : World} (x y : Value) (t : TypeId) (hb : Below (w.alloc (.cells #[x, y] t)).heap.size (w.alloc (.cells #[x, y] t)) w') : w'.cell? ⟨w.heap.size, 0, none⟩ = some x ∧ w'.cell? ⟨w.heap.size, 1, none⟩ = some y := by
  have hr := RowAt.new w t #[x, y]
  have h0 := hr.cell 0
  have h1 := hr.cell 1
  have hlt : w.heap.size < (w.alloc (.cells #[x, y] t)).heap.size := by simp
  exact ⟨(hb.cell (p := ⟨w.heap.size, 0, none⟩) hlt).trans h0, (hb.cell (p := ⟨w.heap.size, 1, none⟩) hlt).trans h1⟩

theorem right_nat {n : Int} {on : List Int} (h : rightB n on = true) : ∃ m : Nat, n = (m : Int) ∧ m ≤ 2048 ∧ ∀ x ∈ on, 0 ≤ x ∧ x < (m : Int) := by
  obtain ⟨⟨h1, h2⟩, _, h4⟩ := (rightB_iff n on).1 h
  obtain ⟨m, rfl⟩ := Int.eq_ofNat_of_zero_le h1
  exact ⟨m, rfl, by omega, h4⟩
theorem Elems.apart {α : Type} {enc : α → Value} {w : World} {B g : Nat} {A : Option Addr} {n c : Nat} {xs : List α} (h : Elems enc w B (.slice A n c) xs) (hn : 0 < xs.length) (hg : B ≤ g) : Apart (.slice A n c) g := by
  obtain ⟨ad, rfl, hb, _⟩ := h.at_ hn
  intro ad' n' c' e
  injection e with e1 _ _
  injection e1 with e1
  subst e1
  omega

set_option maxHeartbeats 1000000 in
theorem List_no (x : Value) (n : Int) (on : List Int) (w : World) (hx : Bt w x n on) (h9 : on.length ≤ maxLen) (hr : rightB n on = false) :
    Calls Tryz.prog 58 #[x] w fun e w' => e = .returned (.tuple #[.string ⟨#[]⟩, .int .i64 1]) ∧ Below w.heap.size w w' := by
  obtain ⟨A, c, rfl, hc, hv⟩ := hx.form
  have hx1 := hx.alloc (.cells #[.int .i64 n, .slice A on.length c] 27)
  go_enter Tryz.func58, Tryz.ntmps58
  go_wp2_with fail
  with_reducible refine (Right_any _ _ _ _ hx1 h9).mono ?_
  rintro e w1 ⟨rfl, hb1⟩
  rw [hr]
  go_wp2
  go_ret2
  exact ⟨rfl, ((Below.refl _ w).alloc (Nat.le_refl _) _).trans (hb1.mono (by simp))⟩

set_option maxHeartbeats 1000000 in
theorem List_yes (x : Value) (n : Int) (on : List Int) (w : World) (hx : Bt w x n on) (h9 : on.length ≤ maxLen) (hr : rightB n on = true) :
    Calls Tryz.prog 58 #[x] w fun e w' => e = .returned (.tuple #[.string ⟨(listOf n on).toArray⟩, .int .i64 0]) ∧ Below w.heap.size w w' := by
  obtain ⟨m, rfl, hm, hon⟩ := right_nat hr
  obtain ⟨A, c, rfl, hc, hv⟩ := hx.form
  have hx1 := hx.alloc (.cells #[.int .i64 (m : Int), .slice A on.length c] 27)
  obtain ⟨M, hM, hmk⟩ := make_bytes ((m : Int) / 8 + 1) (m / 8 + 1) (by omega) (by omega)
  go_enter Tryz.func58, Tryz.ntmps58
  go_wp2_with fail
  with_reducible refine (Right_any _ _ _ _ hx1 h9).mono ?_
  rintro e w1 ⟨rfl, hb1⟩
  rw [hr]
  obtain ⟨hc0, hc1⟩ := box_bits _ _ _ hb1
  have hw1 : Below w.heap.size w w1 := ((Below.refl _ w).alloc (Nat.le_refl _) _).trans (hb1.mono (by simp))
  have hlt1 : w.heap.size < w1.heap.size := Nat.lt_of_lt_of_le (by simp) hb1.size
  have hcA := cellA hc1 (.cells M 5)
  go_wp2_with fail
  have hrow := RowAt.new w1 5 M
  rw [hM] at hrow
  have hv2 := (hv.on hw1).alloc (.cells M 5)
  with_reducible refine (mark_len (m / 8 + 1) w1.heap.size (m / 8 + 1) _ on _ _ (by simp) hrow hv2 ?_ h9 (by omega) (fun x hx => ⟨(hon x hx).1, by have := hon x hx; omega⟩)).mono ?_
  · intro h0; exact (hv.apart h0 hw1.size)
  rintro e w2 ⟨rfl, hrow2, hbut2⟩
  have hcB : w2.cell? ⟨w.heap.size, 0, none⟩ = some (.int .i64 (m : Int)) := (hbut2.cell (p := ⟨w.heap.size, 0, none⟩) (by simp; omega) (by simp; omega)).trans (cellA hc0 _)
  have hw2 : Below w.heap.size w w2 := But.below (hw1.alloc hw1.size _) hbut2 hw1.size (by have := hw1.size; simp; omega)
  have hsz2 := hbut2.size
  clear hc0 hc1 hcA hmk hb1
  go_wp2_with fail
  have hrow3 := hrow2.alloc (.cells #[.int .i64 (m : Int)] 3)
  have hv3 : Ints (w2.alloc (.cells #[.int .i64 (m : Int)] 3)) (w2.alloc (.cells #[.int .i64 (m : Int)] 3)).heap.size (.slice (some ⟨w2.heap.size, 0, none⟩) 1 1) [(m : Int)] := Elems.row (xs := [(m : Int)]) (RowAt.new w2 3 #[.int .i64 (m : Int)])
  with_reducible refine (mark_len (m / 8 + 1) w1.heap.size (m / 8 + 1) _ [(m : Int)] _ _ (by rw [putBits_length, List.length_replicate]) hrow3 hv3 ?_ (by simp [maxLen]) (by omega) (fun x hx => by simp at hx; subst hx; omega)).mono ?_
  · intro _ ad n' c' e
    injection e with e1 _ _
    injection e1 with e1
    subst e1
    simp at hsz2
    show w2.heap.size ≠ w1.heap.size
    omega
  rintro e w3 ⟨rfl, hrow4, hbut3⟩
  have hcv := back_bytes (m / 8 + 1) w1.heap.size (m / 8 + 1) _ w3 (by rw [putBits_length, putBits_length, List.length_replicate]) hrow4
  have hw3 : Below w.heap.size w w3 := But.below (hw2.alloc hw2.size _) hbut3 hw1.size (by have := hw2.size; simp; omega)
  clear hrow hrow2 hrow3 hrow4 hcB
  go_wp2_with fail
  go_ret2
  refine ⟨?_, hw3⟩
  simp [listOf, putBits]

/-- What List and Vector answer. -/
def lstOf (n : Int) (on : List Int) : List UInt8 := if rightB n on then listOf n on else []
def vctOf (n : Int) (on : List Int) : List UInt8 := if rightB n on then vecOf n on else []
def argErr (b : Bool) : Int := if b then 0 else 1
theorem List_any (x : Value) (n : Int) (on : List Int) (w : World) (hx : Bt w x n on) (h9 : on.length ≤ maxLen) :
    Calls Tryz.prog 58 #[x] w fun e w' => e = .returned (.tuple #[.string ⟨(lstOf n on).toArray⟩, .int .i64 (argErr (rightB n on))]) ∧ Below w.heap.size w w' := by
  unfold lstOf argErr
  cases h : rightB n on
  · exact List_no x n on w hx h9 h
  · exact List_yes x n on w hx h9 h
end Go.Proofs.YtieheieiolobaaaGreatDoor

namespace Go.Proofs.YtieheieiolobaaaGreatDoor
open Go.RowKit Go.Shelf

theorem byte_getD (T : ByteArray) (i : Nat) (h : i < T.size) : T[i]'h = T.data.toList.getD i 0 := by
  have h' : i < T.data.toList.length := by simpa using h
  rw [List.getD_eq_getElem?_getD, List.getElem?_eq_getElem h']
  rfl
theorem bytes_length (s : ByteArray) : s.data.toList.length = s.size := by simp
theorem byte_fin (b : UInt8) : ∃ k : Fin 256, b = UInt8.ofNat k.val := ⟨⟨b.toNat, b.toNat_lt⟩, by simp⟩

set_option maxHeartbeats 1000000 in
set_option maxRecDepth 100000 in
theorem Len8_any (b : UInt8) (w : World) :
    Calls Tryz.prog 106 #[.int .u8 (b.toNat : Int)] w fun e w' => e = .returned (.int .i64 (bitLen8 b : Int)) ∧ w = w' := by
  have hb := UInt8.toNat_lt b
  go_enter Tryz.func106, Tryz.ntmps106
  go_wp2_with fail
  go_ret
  refine ⟨?_, rfl⟩
  refine congrArg (fun z => Ending.returned (Value.int .i64 z)) ?_
  simp only [byte_getD]
  clear hb
  obtain ⟨k, rfl⟩ := byte_fin b
  revert k
  decide +kernel

theorem bitLen8_le (b : UInt8) : bitLen8 b ≤ 8 := by
  obtain ⟨k, rfl⟩ := byte_fin b
  revert k
  decide +kernel

set_option maxHeartbeats 1000000 in
theorem endOf_any (s : ByteArray) (w : World) (h0 : 0 < s.size) (h1 : s.size ≤ 1000000000000000) :
    Calls Tryz.prog 92 #[.string s] w fun e w' => e = .returned (.int .i64 (endAt s.data.toList)) ∧ w = w' := by
  go_enter Tryz.func92, Tryz.ntmps92
  go_wp2_with fail
  with_reducible refine (Len8_any _ _).mono ?_
  rintro e w1 ⟨rfl, rfl⟩
  have hq : bitLen8 s[s.size - 1] ≤ 8 := bitLen8_le _
  have HE : Hid (endAt s.data.toList = 8 * ((s.size : Int) - 1) + (bitLen8 s[s.size - 1] : Int) - 1) := by
    unfold endAt
    rw [byte_getD]
    simp [Hid]
  generalize bitLen8 s[s.size - 1] = q at *
  go_wp2_with fail
  go_ret
  refine ⟨?_, rfl⟩
  rw [HE.out]
  show Ending.returned (Value.int .i64 (((s.size : Int) - 1) * 8 + (q : Int) - 1)) = _
  congr 2
  omega

theorem bytes_of (s : ByteArray) (W : World) (B : Nat) (hB : W.heap.size = B) : ∃ c o, (convert 9 63 (.string s)).run Tryz.prog W = .ok (.slice (some ⟨B, 0, none⟩) s.size c) (W.alloc o).drew ∧ Elems enc8 (W.alloc o).drew (W.alloc o).drew.heap.size (.slice (some ⟨B, 0, none⟩) s.size c) s.data.toList := by
  subst hB
  refine ⟨_, _, run_bytes_of_string W 9 63 5 s Tryz.underlying9 Tryz.underlying63 Tryz.underlying5, _, _, rfl, ?_, fun h0 => ⟨⟨W.heap.size, 0, none⟩, rfl, ?_, fun j x hx => ?_⟩⟩
  · simpa using grownCap_ge W s.size 0 5
  · show W.heap.size < (W.alloc _).heap.size; simp
  · have hj : j < s.data.size := by
      have := (List.getElem?_eq_some_iff.1 hx).1
      simpa using this
    rw [addr0]
    have hh : (W.drew.alloc (.cells (bytesRow s (grownCap W s.size 0 5)) 5 ((bytesRow s (grownCap W s.size 0 5)).size, (bytesRow s (grownCap W s.size 0 5)).size + 1))).heap[W.heap.size]? = some (.cells (bytesRow s (grownCap W s.size 0 5)) 5 ((bytesRow s (grownCap W s.size 0 5)).size, (bytesRow s (grownCap W s.size 0 5)).size + 1)) := heap_alloc_new W.drew _
    refine (cell_of_row _ _ j _ _ _ hh).trans ?_
    rw [bytesRow_at s _ j hj]
    have : x = s.data[j] := by
      have h2 := (List.getElem?_eq_some_iff.1 hx).2
      simpa using h2.symm
    rw [this]

set_option maxHeartbeats 1000000 in
set_option maxRecDepth 100000 in
theorem Unlist_form (s : ByteArray) (most : Int) (w : World) (hs : s.size ≤ 1000000000000000) (h : s.data.toList = [] ∨ s.data.toList.getD (s.data.toList.length - 1) 0 = 0) :
    Calls Tryz.prog 67 #[.string s, .int .i64 most] w fun e w' => e = .returned (.tuple #[.agg #[.int .i64 0, .slice none 0 0], .int .i64 2]) ∧ Below w.heap.size w w' := by
  rcases Nat.eq_zero_or_pos s.size with h0 | h0
  · obtain rfl : s = ⟨#[]⟩ := by
      apply WideShapes.bytes_inj
      exact List.eq_nil_of_length_eq_zero (by simpa using h0)
    clear h h0 hs
    go_enter Tryz.func67, Tryz.ntmps67
    go_wp2_with fail
    refine bodyPost_ret (v := .tuple #[.agg #[.int .i64 0, .slice none 0 0], .int .i64 2]) (by simp [results, Tryz.results67, go_sem]) rfl ?_
    exact ⟨rfl, (Below.refl _ w).alloc (Nat.le_refl _) _⟩
  · have hne : s.toList.isEmpty = false := by
      rw [ByteArray.toList_eq]
      cases e : s.data.toList with
      | nil => have h1 : s.data.toList.length = 0 := by rw [e]; rfl
               rw [bytes_length] at h1; omega
      | cons a l => rfl
    have hz : s[s.size - 1].toNat = 0 := by
      rw [byte_getD]
      rcases h with h | h
      · have h1 : s.data.toList.length = 0 := by rw [h]; rfl
        rw [bytes_length] at h1; omega
      · rw [bytes_length] at h
        rw [h]; rfl
    clear h
    go_enter Tryz.func67, Tryz.ntmps67
    go_wp2_with fail
    refine bodyPost_ret (v := .tuple #[.agg #[.int .i64 0, .slice none 0 0], .int .i64 2]) (by simp [results, Tryz.results67, go_sem]) rfl ?_
    exact ⟨rfl, (Below.refl _ w).alloc (Nat.le_refl _) _⟩

theorem not_nil_of {s : ByteArray} (h : ¬ (s.data.toList = [] ∨ s.data.toList.getD (s.data.toList.length - 1) 0 = 0)) : 0 < s.size ∧ s.toList.isEmpty = false ∧ s.data.toList.getD (s.size - 1) 0 ≠ 0 := by
  have h0 : 0 < s.size := by
    rcases Nat.eq_zero_or_pos s.size with k | k
    · exact absurd (.inl (List.eq_nil_of_length_eq_zero (by rw [bytes_length]; exact k))) h
    · exact k
  refine ⟨h0, ?_, fun e => h (.inr (by rw [bytes_length]; exact e))⟩
  rw [ByteArray.toList_eq]
  cases e : s.data.toList with
  | nil => exact absurd (.inl e) h
  | cons a l => rfl

set_option maxHeartbeats 1000000 in
set_option maxRecDepth 100000 in
theorem Unlist_long (s : ByteArray) (most : Int) (w : World) (hs : s.size ≤ 1000000000000000) (h : ¬ (s.data.toList = [] ∨ s.data.toList.getD (s.data.toList.length - 1) 0 = 0)) (hl : most < endAt s.data.toList ∨ 2048 < endAt s.data.toList) :
    Calls Tryz.prog 67 #[.string s, .int .i64 most] w fun e w' => e = .returned (.tuple #[.agg #[.int .i64 0, .slice none 0 0], .int .i64 4]) ∧ Below w.heap.size w w' := by
  obtain ⟨h0, hne, hz⟩ := not_nil_of h
  have hz1 : ((s[s.size - 1].toNat : Int) == 0) = false := by
    rw [byte_getD]
    simp only [beq_eq_false_iff_ne, ne_eq]
    intro e
    exact hz (UInt8.toNat_inj.1 (by simpa using e))
  have HE := fun W => endOf_any s W h0 hs
  generalize endAt s.data.toList = E at *
  clear h hz
  by_cases c1 : most < E
  · go_enter Tryz.func67, Tryz.ntmps67
    go_wp2_with fail
    with_reducible refine (HE _).mono ?_
    rintro e w1 ⟨rfl, rfl⟩
    go_wp2_with fail
    refine bodyPost_ret (v := .tuple #[.agg #[.int .i64 0, .slice none 0 0], .int .i64 4]) (by simp [results, Tryz.results67, go_sem]) rfl ?_
    exact ⟨rfl, (Below.refl _ w).alloc (Nat.le_refl _) _⟩
  · have hf : fitsB E = false := by
      cases e : fitsB E
      · rfl
      · have := (fitsB_iff E).1 e; omega
    go_enter Tryz.func67, Tryz.ntmps67
    go_wp2_with fail
    with_reducible refine (HE _).mono ?_
    rintro e w1 ⟨rfl, rfl⟩
    go_wp2_with fail
    with_reducible refine (fitsLen_any _ _).mono ?_
    rintro e w1 ⟨rfl, rfl⟩
    rw [hf]
    go_wp2_with fail
    refine bodyPost_ret (v := .tuple #[.agg #[.int .i64 0, .slice none 0 0], .int .i64 4]) (by simp [results, Tryz.results67, go_sem]) rfl ?_
    exact ⟨rfl, (Below.refl _ w).alloc (Nat.le_refl _) _⟩

set_option maxHeartbeats 1000000 in
set_option maxRecDepth 100000 in
theorem Unlist_ok (s : ByteArray) (most : Int) (w : World) (hs : s.size ≤ 1000000000000000) (h : ¬ (s.data.toList = [] ∨ s.data.toList.getD (s.data.toList.length - 1) 0 = 0)) (hl : ¬ (most < endAt s.data.toList ∨ 2048 < endAt s.data.toList)) :
    Calls Tryz.prog 67 #[.string s, .int .i64 most] w fun e w' => ∃ x, e = .returned (.tuple #[x, .int .i64 0]) ∧ Bt w' x (endAt s.data.toList) (onsOf s.data.toList).dropLast ∧ Below w.heap.size w w' ∧ Newer w.heap.size x := by
  obtain ⟨h0, hne, hz⟩ := not_nil_of h
  have hz1 : ((s[s.size - 1].toNat : Int) == 0) = false := by
    rw [byte_getD]
    simp only [beq_eq_false_iff_ne, ne_eq]
    intro e
    exact hz (UInt8.toNat_inj.1 (by simpa using e))
  have HE := fun W => endOf_any s W h0 hs
  obtain ⟨e0, _, _, e3⟩ := end_top (l := s.data.toList) (fun e => h (.inl e)) (fun e => h (.inr e))
  have HD := Lib.hid (onsOf_end (l := s.data.toList) (fun e => h (.inl e)) (fun e => h (.inr e)))
  have hsz : s.data.toList.length ≤ 300 := by omega
  have hlen : (onsOf s.data.toList).length ≤ 3000 := by
    have := onsTo_length s.data.toList (8 * s.data.toList.length)
    unfold onsOf
    omega
  clear h hz e3
  generalize endAt s.data.toList = E at *
  have hf : fitsB E = true := (fitsB_iff E).2 (by omega)
  obtain ⟨c, o, hcv, hel⟩ := bytes_of s (w.alloc (.cells #[.int .i64 0, .slice none 0 0] 27)) (w.heap.size + 1) (by simp)
  go_enter Tryz.func67, Tryz.ntmps67
  go_wp2_with fail
  with_reducible refine (HE _).mono ?_
  rintro e w1 ⟨rfl, rfl⟩
  go_wp2_with fail
  with_reducible refine (fitsLen_any _ _).mono ?_
  rintro e w1 ⟨rfl, rfl⟩
  rw [hf]
  go_wp2_with fail
  with_reducible refine (marked_any _ _ _ _).mono ?_
  rintro e w2 ⟨rfl, rfl⟩
  obtain ⟨W1, hW1⟩ : ∃ W1, W1 = ((w.alloc (.cells #[.int .i64 0, .slice none 0 0] 27)).alloc o).drew := ⟨_, rfl⟩
  have hrow0 : RowAt W1 w.heap.size 27 [.int .i64 0, .slice none 0 0] := by rw [hW1]; exact (RowAt.new w 27 #[.int .i64 0, .slice none 0 0]).alloc o
  have hb1 : Below w.heap.size w W1 := by rw [hW1]; exact (((Below.refl _ w).alloc (Nat.le_refl _) _).alloc (by simp) _).drew
  rw [← hW1] at hel ⊢
  clear hcv HE hW1
  go_wp2_with fail
  with_reducible refine (Collect_marked W1.heap.size _ s.data.toList _ (by simp) (cell_new1 _ _ _) (hel.alloc _) (by omega)).mono ?_
  rintro e w3 ⟨v, rfl, hv, hfo, hb3⟩
  have hrow3 := (hrow0.alloc (.cells #[.slice (some ⟨w.heap.size + 1, 0, none⟩) s.size c] 63)).below hb3 (by have := hrow0.lt; simp; omega)
  have hw3 : Below w.heap.size w w3 := (hb1.alloc hb1.size _).trans (hb3.mono (by have := hb1.size; simp; omega))
  have hpos : 0 < (onsOf s.data.toList).length := by rw [HD.out]; simp
  obtain ⟨A, cc, rfl, hcc⟩ := hv.form
  obtain ⟨ad, rfl, -, -⟩ := hv.at_ hpos
  have hnew : w.heap.size ≤ ad.block := by
    have h1 := hfo ad _ _ rfl
    have h2 := hb1.size
    simp at h1
    omega
  have HNW := Lib.hid hnew
  clear hnew
  have hfirst := hv.first ((onsOf s.data.toList).length - 1) (by omega)
  rw [← List.dropLast_eq_take] at hfirst
  have hne3 : ∀ ad' n' c', Value.slice (some ad) ((onsOf s.data.toList).length - 1) cc = .slice (some ad') n' c' → ad'.block ≠ w.heap.size := by
    intro ad' n' c' e
    injection e with e1 _ _
    injection e1 with e1
    subst e1
    have := hfo ad _ _ rfl
    have := hb1.size
    simp at *
    omega
  have HX := fun u u' => Lib.hid (Elems.apart_of (Elems.apart_of hfirst hne3 (p := ⟨w.heap.size, 0, none⟩) rfl u) hne3 (p := ⟨w.heap.size, 1, none⟩) rfl u')
  clear hfirst hne3
  have R : ∀ u u', RowAt ((w3.setCell ⟨w.heap.size, 0, none⟩ u).setCell ⟨w.heap.size, 1, none⟩ u') w.heap.size 27 [u, u'] := fun u u' => (hrow3.set 0 u).set 1 u'
  have HR := fun u u' => Lib.hid (R u u')
  generalize hN : (onsOf s.data.toList).length = N at *
  have hc30 := hrow3.cell 0
  have hc31 := hrow3.cell 1
  have hf30 := hrow3.frozen 0
  have hf31 := hrow3.frozen 1
  clear hel hrow0 hb3 hb1 HD hN R hrow3 hfo hv
  go_wp2_with fail
  have hr0 := (HR (.int .i64 E) (.slice (some ad) (N - 1) cc)).out.cell 0
  have hr1 := (HR (.int .i64 E) (.slice (some ad) (N - 1) cc)).out.cell 1
  simp only [List.getElem?_cons_zero, List.getElem?_cons_succ] at hr0 hr1
  refine bodyPost_ret (v := .tuple #[.agg #[.int .i64 E, .slice (some ad) (N - 1) cc], .int .i64 0]) (by simp [results, Tryz.results67, go_sem, hr0, hr1]) rfl ?_
  refine ⟨_, rfl, ⟨_, rfl, ?_⟩, (hw3.setCell (p := ⟨w.heap.size, 0, none⟩) (Nat.le_refl _) _).setCell (p := ⟨w.heap.size, 1, none⟩) (Nat.le_refl _) _, Newer.some HNW.out⟩
  have := (HX (.int .i64 E) (.slice (some ad) (N - 1) cc)).out
  simpa [World.setCell] using this

theorem Unlist_new (s : ByteArray) (most : Int) (w : World) (hs : s.size ≤ 1000000000000000) :
    Calls Tryz.prog 67 #[.string s, .int .i64 most] w fun e w' => ∃ x, e = .returned (.tuple #[x, .int .i64 (unlistOf s.data.toList most).2.2]) ∧ Bt w' x (unlistOf s.data.toList most).1 (unlistOf s.data.toList most).2.1 ∧ Below w.heap.size w w' ∧ Newer w.heap.size x := by
  unfold unlistOf
  by_cases h : s.data.toList = [] ∨ s.data.toList.getD (s.data.toList.length - 1) 0 = 0
  · rw [if_pos h]
    refine (Unlist_form s most w hs h).mono fun e w' ⟨he, hb⟩ => ⟨_, he, ⟨_, rfl, Elems.nil _ _ _⟩, hb, Newer.none _ _ _ _⟩
  · rw [if_neg h]
    by_cases hl : most < endAt s.data.toList ∨ 2048 < endAt s.data.toList
    · rw [if_pos hl]
      exact (Unlist_long s most w hs h hl).mono fun e w' ⟨he, hb⟩ => ⟨_, he, ⟨_, rfl, Elems.nil _ _ _⟩, hb, Newer.none _ _ _ _⟩
    · rw [if_neg hl]
      exact Unlist_ok s most w hs h hl
theorem Unlist_any (s : ByteArray) (most : Int) (w : World) (hs : s.size ≤ 1000000000000000) :
    Calls Tryz.prog 67 #[.string s, .int .i64 most] w fun e w' => ∃ x, e = .returned (.tuple #[x, .int .i64 (unlistOf s.data.toList most).2.2]) ∧ Bt w' x (unlistOf s.data.toList most).1 (unlistOf s.data.toList most).2.1 ∧ Below w.heap.size w w' :=
  (Unlist_new s most w hs).mono fun e w' ⟨x, h1, h2, h3, _⟩ => ⟨x, h1, h2, h3⟩
end Go.Proofs.YtieheieiolobaaaGreatDoor
