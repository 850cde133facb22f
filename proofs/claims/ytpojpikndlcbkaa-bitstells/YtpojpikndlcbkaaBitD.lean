/- bits.List, bits.Vector. -/
import Derived.Test.YtpojpikndlcbkaaBitC
namespace Go.Proofs.Ytpojpikndlcbkaa
open Go.RowKit Go.Shelf

theorem info_u8 : (Try.prog.info? 5).map (fun i => (i.zero, i.size, i.bytes)) = some (some (.int .u8 0), 1, 1) := by kernel_rfl
theorem make_bytes (x : Int) (m : Nat) (hx : x = (m : Int)) (hm : m ≤ 1000000) : ∃ M : Array Value, M.toList = byteVals (List.replicate m 0) ∧
    ∀ W : World, (Instr.makeSlice 42 (.int .i64 x) (.int .i64 x)).run Try.prog W = .ok (.slice (some ⟨W.heap.size, 0, none⟩) m m) (W.alloc (.cells M 5)) := by
  obtain ⟨i0, hi, hz0, hz1, hz2⟩ := info_parts info_u8
  subst hx
  refine ⟨madeCells (Value.int .u8 0).cells (m * i0.size), ?_, fun W => ?_⟩
  · rw [hz1, Nat.mul_one]; refine (toList_madeCells_one _ _).trans ?_; simp [byteVals]
  · have hr := run_make (P := Try.prog) W 42 5 i0 (.int .u8 0) Try.underlying42 hi hz0 .i64 .i64 (m : Int) (m : Int) (by omega) (by omega) (by rw [hz2]; omega) (by omega)
    simpa using hr
theorem mark_len (L g c : Nat) (l : List UInt8) (on : List Int) (v : Value) (w : World) (hL : l.length = L) (hr : RowAt w g 5 (byteVals l)) (hv : Ints w w.heap.size v on) (hap : 0 < on.length → Apart v g)
    (h9 : on.length ≤ maxLen) (hl : L ≤ 1000000) (hon : ∀ x ∈ on, 0 ≤ x ∧ x.toNat / 8 < L) :
    Calls Try.prog 27 #[.slice (some ⟨g, 0, none⟩) L c, v] w fun e w' => e = .returned (.tuple #[]) ∧ RowAt w' g 5 (byteVals (putBits l on)) ∧ But g w w' := by
  subst hL
  exact mark_any g c l on v w hr hv hap h9 hl hon
theorem back_bytes (L g c : Nat) (l : List UInt8) (w : World) (hL : l.length = L) (hr : RowAt w g 5 (byteVals l)) :
    (convert 42 9 (.slice (some ⟨g, 0, none⟩) L c)).run Try.prog w = .ok (.string ⟨l.toArray⟩) w := by
  subst hL
  refine run_convert_bytes_back (P := Try.prog) w 42 9 5 ⟨g, 0, none⟩ c l Try.underlying42 Try.underlying5 Try.underlying9 (fun j hj => ?_)
  rw [addr0, hr.cell]
  simp [byteVals, List.getElem?_eq_getElem hj]

/-- Two cells of a struct's box, kept. -/
theorem box_bits {w w' : World} (x y : Value) (t : TypeId) (hb : Below (w.alloc (.cells #[x, y] t)).heap.size (w.alloc (.cells #[x, y] t)) w') : w'.cell? ⟨w.heap.size, 0, none⟩ = some x ∧ w'.cell? ⟨w.heap.size, 1, none⟩ = some y := by
  have hr := RowAt.new w t #[x, y]
  have h0 := hr.cell 0
  have h1 := hr.cell 1
  have hlt : w.heap.size < (w.alloc (.cells #[x, y] t)).heap.size := by simp
  exact ⟨(hb.cell (p := ⟨w.heap.size, 0, none⟩) hlt).trans h0, (hb.cell (p := ⟨w.heap.size, 1, none⟩) hlt).trans h1⟩

theorem right_nat {n : Int} {on : List Int} (h : rightB n on = true) : ∃ m : Nat, n = (m : Int) ∧ m ≤ 2048 ∧ ∀ x ∈ on, 0 ≤ x ∧ x < (m : Int) := by
  obtain ⟨⟨h1, h2⟩, _, h4⟩ := (rightB_iff n on).1 h
  obtain ⟨m, rfl⟩ := Int.eq_ofNat_of_zero_le h1
  exact ⟨m, rfl, by omega, h4⟩
theorem Elems.apart {α : Type} {enc : α → Value} {w : World} {B g : Nat} {A : Option Addr} {n c : Nat} {xs : List α} (h : Elems enc w B (.slice A n c) xs) (hn : 0 < xs.length) (hg : B ≤ g) : Apart (.slice A n c) g := by
  obtain ⟨ad, rfl, hb, _⟩ := h.at_ hn
  intro ad' n' c' e
  injection e with e1 _ _
  injection e1 with e1
  subst e1
  omega

set_option maxHeartbeats 1000000 in
theorem List_no (x : Value) (n : Int) (on : List Int) (w : World) (hx : Bt w x n on) (h9 : on.length ≤ maxLen) (hr : rightB n on = false) :
    Calls Try.prog 6 #[x] w fun e w' => e = .returned (.tuple #[.string ⟨#[]⟩, .int .i64 1]) ∧ Below w.heap.size w w' := by
  obtain ⟨A, c, rfl, hc, hv⟩ := hx.form
  have hx1 := hx.alloc (.cells #[.int .i64 n, .slice A on.length c] 24)
  go_enter Try.func6, Try.ntmps6
  go_wp2_with fail
  with_reducible refine (Right_any _ _ _ _ hx1 h9).mono ?_
  rintro e w1 ⟨rfl, hb1⟩
  rw [hr]
  go_wp2
  go_ret2
  exact ⟨rfl, ((Below.refl _ w).alloc (Nat.le_refl _) _).trans (hb1.mono (by simp))⟩

set_option maxHeartbeats 1000000 in
theorem List_yes (x : Value) (n : Int) (on : List Int) (w : World) (hx : Bt w x n on) (h9 : on.length ≤ maxLen) (hr : rightB n on = true) :
    Calls Try.prog 6 #[x] w fun e w' => e = .returned (.tuple #[.string ⟨(listOf n on).toArray⟩, .int .i64 0]) ∧ Below w.heap.size w w' := by
  obtain ⟨m, rfl, hm, hon⟩ := right_nat hr
  obtain ⟨A, c, rfl, hc, hv⟩ := hx.form
  have hx1 := hx.alloc (.cells #[.int .i64 (m : Int), .slice A on.length c] 24)
  obtain ⟨M, hM, hmk⟩ := make_bytes ((m : Int) / 8 + 1) (m / 8 + 1) (by omega) (by omega)
  go_enter Try.func6, Try.ntmps6
  go_wp2_with fail
  with_reducible refine (Right_any _ _ _ _ hx1 h9).mono ?_
  rintro e w1 ⟨rfl, hb1⟩
  rw [hr]
  obtain ⟨hc0, hc1⟩ := box_bits _ _ _ hb1
  have hw1 : Below w.heap.size w w1 := ((Below.refl _ w).alloc (Nat.le_refl _) _).trans (hb1.mono (by simp))
  have hlt1 : w.heap.size < w1.heap.size := Nat.lt_of_lt_of_le (by simp) hb1.size
  have hcA := cellA hc1 (.cells M 5)
  go_wp2_with fail
  have hrow := RowAt.new w1 5 M
  rw [hM] at hrow
  have hv2 := (hv.on hw1).alloc (.cells M 5)
  with_reducible refine (mark_len (m / 8 + 1) w1.heap.size (m / 8 + 1) _ on _ _ (by simp) hrow hv2 ?_ h9 (by omega) (fun x hx => ⟨(hon x hx).1, by have := hon x hx; omega⟩)).mono ?_
  · intro h0; exact (hv.apart h0 hw1.size)
  rintro e w2 ⟨rfl, hrow2, hbut2⟩
  have hcB : w2.cell? ⟨w.heap.size, 0, none⟩ = some (.int .i64 (m : Int)) := (hbut2.cell (p := ⟨w.heap.size, 0, none⟩) (by simp; omega) (by simp; omega)).trans (cellA hc0 _)
  have hw2 : Below w.heap.size w w2 := But.below (hw1.alloc hw1.size _) hbut2 hw1.size (by have := hw1.size; simp; omega)
  have hsz2 := hbut2.size
  clear hc0 hc1 hcA hmk hb1
  go_wp2_with fail
  have hrow3 := hrow2.alloc (.cells #[.int .i64 (m : Int)] 3)
  have hv3 : Ints (w2.alloc (.cells #[.int .i64 (m : Int)] 3)) (w2.alloc (.cells #[.int .i64 (m : Int)] 3)).heap.size (.slice (some ⟨w2.heap.size, 0, none⟩) 1 1) [(m : Int)] := Elems.row (xs := [(m : Int)]) (RowAt.new w2 3 #[.int .i64 (m : Int)])
  with_reducible refine (mark_len (m / 8 + 1) w1.heap.size (m / 8 + 1) _ [(m : Int)] _ _ (by rw [putBits_length, List.length_replicate]) hrow3 hv3 ?_ (by simp [maxLen]) (by omega) (fun x hx => by simp at hx; subst hx; omega)).mono ?_
  · intro _ ad n' c' e
    injection e with e1 _ _
    injection e1 with e1
    subst e1
    simp at hsz2
    show w2.heap.size ≠ w1.heap.size
    omega
  rintro e w3 ⟨rfl, hrow4, hbut3⟩
  have hcv := back_bytes (m / 8 + 1) w1.heap.size (m / 8 + 1) _ w3 (by rw [putBits_length, putBits_length, List.length_replicate]) hrow4
  have hw3 : Below w.heap.size w w3 := But.below (hw2.alloc hw2.size _) hbut3 hw1.size (by have := hw2.size; simp; omega)
  clear hrow hrow2 hrow3 hrow4 hcB
  go_wp2_with fail
  go_ret2
  refine ⟨?_, hw3⟩
  simp [listOf, putBits]

set_option maxHeartbeats 1000000 in
theorem Vector_no (x : Value) (n : Int) (on : List Int) (w : World) (hx : Bt w x n on) (h9 : on.length ≤ maxLen) (hr : rightB n on = false) :
    Calls Try.prog 8 #[x] w fun e w' => e = .returned (.tuple #[.string ⟨#[]⟩, .int .i64 1]) ∧ Below w.heap.size w w' := by
  obtain ⟨A, c, rfl, hc, hv⟩ := hx.form
  have hx1 := hx.alloc (.cells #[.int .i64 n, .slice A on.length c] 24)
  go_enter Try.func8, Try.ntmps8
  go_wp2_with fail
  with_reducible refine (Right_any _ _ _ _ hx1 h9).mono ?_
  rintro e w1 ⟨rfl, hb1⟩
  rw [hr]
  go_wp2
  go_ret2
  exact ⟨rfl, ((Below.refl _ w).alloc (Nat.le_refl _) _).trans (hb1.mono (by simp))⟩

set_option maxHeartbeats 1000000 in
theorem Vector_yes (x : Value) (n : Int) (on : List Int) (w : World) (hx : Bt w x n on) (h9 : on.length ≤ maxLen) (hr : rightB n on = true) :
    Calls Try.prog 8 #[x] w fun e w' => e = .returned (.tuple #[.string ⟨(vecOf n on).toArray⟩, .int .i64 0]) ∧ Below w.heap.size w w' := by
  obtain ⟨m, rfl, hm, hon⟩ := right_nat hr
  obtain ⟨A, c, rfl, hc, hv⟩ := hx.form
  have hx1 := hx.alloc (.cells #[.int .i64 (m : Int), .slice A on.length c] 24)
  obtain ⟨M, hM, hmk⟩ := make_bytes (((m + 7) / 8 : Nat) : Int) ((m + 7) / 8) rfl (by omega)
  have hk : ∀ x ∈ on, 0 ≤ x ∧ x.toNat / 8 < (m + 7) / 8 := fun x hx => ⟨(hon x hx).1, by have := hon x hx; omega⟩
  have hsm : (m + 7) / 8 ≤ 1000000 := by omega
  have VB := fun W => vectorBytes_any m W hm
  have HV : vecOf (m : Int) on = putBits (List.replicate ((m + 7) / 8) 0) on := by simp [vecOf]
  rw [HV]
  clear HV hon
  generalize (m + 7) / 8 = q at *
  go_enter Try.func8, Try.ntmps8
  go_wp2_with fail
  with_reducible refine (Right_any _ _ _ _ hx1 h9).mono ?_
  rintro e w1 ⟨rfl, hb1⟩
  rw [hr]
  obtain ⟨hc0, hc1⟩ := box_bits _ _ _ hb1
  have hw1 : Below w.heap.size w w1 := ((Below.refl _ w).alloc (Nat.le_refl _) _).trans (hb1.mono (by simp))
  have hlt1 : w.heap.size < w1.heap.size := Nat.lt_of_lt_of_le (by simp) hb1.size
  have hcA := cellA hc1 (.cells M 5)
  go_wp2_with fail
  with_reducible refine (VB _).mono ?_
  rintro e w1' ⟨rfl, rfl⟩
  go_wp2_with fail
  have hrow := RowAt.new w1 5 M
  rw [hM] at hrow
  have hv2 := (hv.on hw1).alloc (.cells M 5)
  with_reducible refine (mark_len q w1.heap.size q _ on _ _ (by simp) hrow hv2 ?_ h9 hsm hk).mono ?_
  · intro h0; exact (hv.apart h0 hw1.size)
  rintro e w2 ⟨rfl, hrow2, hbut2⟩
  have hw2 : Below w.heap.size w w2 := But.below (hw1.alloc hw1.size _) hbut2 hw1.size (by have := hw1.size; simp; omega)
  have hcv := back_bytes q w1.heap.size q _ w2 (by rw [putBits_length, List.length_replicate]) hrow2
  clear hc0 hc1 hcA hmk hb1 hrow hrow2
  go_wp2_with fail
  go_ret2
  exact ⟨rfl, hw2⟩

/-- What List and Vector answer. -/
def lstOf (n : Int) (on : List Int) : List UInt8 := if rightB n on then listOf n on else []
def vctOf (n : Int) (on : List Int) : List UInt8 := if rightB n on then vecOf n on else []
def argErr (b : Bool) : Int := if b then 0 else 1
theorem List_any (x : Value) (n : Int) (on : List Int) (w : World) (hx : Bt w x n on) (h9 : on.length ≤ maxLen) :
    Calls Try.prog 6 #[x] w fun e w' => e = .returned (.tuple #[.string ⟨(lstOf n on).toArray⟩, .int .i64 (argErr (rightB n on))]) ∧ Below w.heap.size w w' := by
  unfold lstOf argErr
  cases h : rightB n on
  · exact List_no x n on w hx h9 h
  · exact List_yes x n on w hx h9 h
theorem Vector_any (x : Value) (n : Int) (on : List Int) (w : World) (hx : Bt w x n on) (h9 : on.length ≤ maxLen) :
    Calls Try.prog 8 #[x] w fun e w' => e = .returned (.tuple #[.string ⟨(vctOf n on).toArray⟩, .int .i64 (argErr (rightB n on))]) ∧ Below w.heap.size w w' := by
  unfold vctOf argErr
  cases h : rightB n on
  · exact Vector_no x n on w hx h9 h
  · exact Vector_yes x n on w hx h9 h
end Go.Proofs.Ytpojpikndlcbkaa
