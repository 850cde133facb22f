/- bits.List, bits.Vector.
   bits.Unlist. -/
import Derived.Test.YthlajfoipafaaaaDoorBitC
import Derived.WideShapes
namespace Go.Proofs.YthlajfoipafaaaaDoor
open Go.RowKit Go.Shelf

theorem info_u8 : (Tryd.prog.info? 5).map (fun i => (i.zero, i.size, i.bytes)) = some (some (.int .u8 0), 1, 1) := by kernel_rfl
theorem make_bytes (x : Int) (m : Nat) (hx : x = (m : Int)) (hm : m ≤ 1000000) : ∃ M : Array Value, M.toList = byteVals (List.replicate m 0) ∧
    ∀ W : World, (Instr.makeSlice 94 (.int .i64 x) (.int .i64 x)).run Tryd.prog W = .ok (.slice (some ⟨W.heap.size, 0, none⟩) m m) (W.alloc (.cells M 5)) := by
  obtain ⟨i0, hi, hz0, hz1, hz2⟩ := info_parts info_u8
  subst hx
  refine ⟨madeCells (Value.int .u8 0).cells (m * i0.size), ?_, fun W => ?_⟩
  · rw [hz1, Nat.mul_one]; refine (toList_madeCells_one _ _).trans ?_; simp [byteVals]
  · have hr := run_make (P := Tryd.prog) W 94 5 i0 (.int .u8 0) Tryd.underlying94 hi hz0 .i64 .i64 (m : Int) (m : Int) (by omega) (by omega) (by rw [hz2]; omega) (by omega)
    simpa using hr
theorem back_bytes (L g c : Nat) (l : List UInt8) (w : World) (hL : l.length = L) (hr : RowAt w g 5 (byteVals l)) :
    (convert 94 9 (.slice (some ⟨g, 0, none⟩) L c)).run Tryd.prog w = .ok (.string ⟨l.toArray⟩) w := by
  subst hL
  refine run_convert_bytes_back (P := Tryd.prog) w 94 9 5 ⟨g, 0, none⟩ c l Tryd.underlying94 Tryd.underlying5 Tryd.underlying9 (fun j hj => ?_)
  rw [addr0, hr.cell]
  simp [byteVals, List.getElem?_eq_getElem hj]

/-- Two cells of a struct's box, kept. -/
theorem box_bits {w w' : World} (x y : Value) (t : TypeId) (hb : Below (w.alloc (.cells #[x, y] t)).heap.size (w.alloc (.cells #[x, y] t)) w') : w'.cell? ⟨w.heap.size, 0, none⟩ = some x ∧ w'.cell? ⟨w.heap.size, 1, none⟩ = some y := by
  have hr := RowAt.new w t #[x, y]
  have h0 := hr.cell 0
  have h1 := hr.cell 1
  have hlt : w.heap.size < (w.alloc (.cells #[x, y] t)).heap.size := by simp
  exact ⟨(hb.cell (p := ⟨w.heap.size, 0, none⟩) hlt).trans h0, (hb.cell (p := ⟨w.heap.size, 1, none⟩) hlt).trans h1⟩

theorem right_nat {n : Int} {on : List Int} (h : rightB n on = true) : ∃ m : Nat, n = (m : Int) ∧ m ≤ 2048 ∧ ∀ x ∈ on, 0 ≤ x ∧ x < (m : Int) := by
  obtain ⟨⟨h1, h2⟩, _, h4⟩ := (rightB_iff n on).1 h
  obtain ⟨m, rfl⟩ := Int.eq_ofNat_of_zero_le h1
  exact ⟨m, rfl, by omega, h4⟩
theorem Elems.apart {α : Type} {enc : α → Value} {w : World} {B g : Nat} {A : Option Addr} {n c : Nat} {xs : List α} (h : Elems enc w B (.slice A n c) xs) (hn : 0 < xs.length) (hg : B ≤ g) : Apart (.slice A n c) g := by
  obtain ⟨ad, rfl, hb, _⟩ := h.at_ hn
  intro ad' n' c' e
  injection e with e1 _ _
  injection e1 with e1
  subst e1
  omega

/-- What List and Vector answer. -/
def lstOf (n : Int) (on : List Int) : List UInt8 := if rightB n on then listOf n on else []
def vctOf (n : Int) (on : List Int) : List UInt8 := if rightB n on then vecOf n on else []
def argErr (b : Bool) : Int := if b then 0 else 1
end Go.Proofs.YthlajfoipafaaaaDoor

namespace Go.Proofs.YthlajfoipafaaaaDoor
open Go.RowKit Go.Shelf

theorem byte_getD (T : ByteArray) (i : Nat) (h : i < T.size) : T[i]'h = T.data.toList.getD i 0 := by
  have h' : i < T.data.toList.length := by simpa using h
  rw [List.getD_eq_getElem?_getD, List.getElem?_eq_getElem h']
  rfl
theorem bytes_length (s : ByteArray) : s.data.toList.length = s.size := by simp
theorem byte_fin (b : UInt8) : ∃ k : Fin 256, b = UInt8.ofNat k.val := ⟨⟨b.toNat, b.toNat_lt⟩, by simp⟩

theorem bitLen8_le (b : UInt8) : bitLen8 b ≤ 8 := by
  obtain ⟨k, rfl⟩ := byte_fin b
  revert k
  decide +kernel

theorem bytes_of (s : ByteArray) (W : World) (B : Nat) (hB : W.heap.size = B) : ∃ c o, (convert 9 94 (.string s)).run Tryd.prog W = .ok (.slice (some ⟨B, 0, none⟩) s.size c) (W.alloc o).drew ∧ Elems enc8 (W.alloc o).drew (W.alloc o).drew.heap.size (.slice (some ⟨B, 0, none⟩) s.size c) s.data.toList := by
  subst hB
  refine ⟨_, _, run_bytes_of_string W 9 94 5 s Tryd.underlying9 Tryd.underlying94 Tryd.underlying5, _, _, rfl, ?_, fun h0 => ⟨⟨W.heap.size, 0, none⟩, rfl, ?_, fun j x hx => ?_⟩⟩
  · simpa using grownCap_ge W s.size 0 5
  · show W.heap.size < (W.alloc _).heap.size; simp
  · have hj : j < s.data.size := by
      have := (List.getElem?_eq_some_iff.1 hx).1
      simpa using this
    rw [addr0]
    have hh : (W.drew.alloc (.cells (bytesRow s (grownCap W s.size 0 5)) 5 ((bytesRow s (grownCap W s.size 0 5)).size, (bytesRow s (grownCap W s.size 0 5)).size + 1))).heap[W.heap.size]? = some (.cells (bytesRow s (grownCap W s.size 0 5)) 5 ((bytesRow s (grownCap W s.size 0 5)).size, (bytesRow s (grownCap W s.size 0 5)).size + 1)) := heap_alloc_new W.drew _
    refine (cell_of_row _ _ j _ _ _ hh).trans ?_
    rw [bytesRow_at s _ j hj]
    have : x = s.data[j] := by
      have h2 := (List.getElem?_eq_some_iff.1 hx).2
      simpa using h2.symm
    rw [this]

theorem not_nil_of {s : ByteArray} (h : ¬ (s.data.toList = [] ∨ s.data.toList.getD (s.data.toList.length - 1) 0 = 0)) : 0 < s.size ∧ s.toList.isEmpty = false ∧ s.data.toList.getD (s.size - 1) 0 ≠ 0 := by
  have h0 : 0 < s.size := by
    rcases Nat.eq_zero_or_pos s.size with k | k
    · exact absurd (.inl (List.eq_nil_of_length_eq_zero (by rw [bytes_length]; exact k))) h
    · exact k
  refine ⟨h0, ?_, fun e => h (.inr (by rw [bytes_length]; exact e))⟩
  rw [ByteArray.toList_eq]
  cases e : s.data.toList with
  | nil => exact absurd (.inl e) h
  | cons a l => rfl

end Go.Proofs.YthlajfoipafaaaaDoor
