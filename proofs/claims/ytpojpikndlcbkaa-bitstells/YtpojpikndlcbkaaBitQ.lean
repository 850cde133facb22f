/- Steps that the laws of layer 2 share. -/
import Derived.Test.YtpojpikndlcbkaaBitN
namespace Go.Proofs.Ytpojpikndlcbkaa
open Go.RowKit Go.Shelf

def I64 (n : Int) : Prop := -9223372036854775808 ≤ n ∧ n ≤ 9223372036854775807
theorem Bits_eq (n below : Int) (raw : List Int) (v : Value) (w : World) (P : Nat) (hP : pickOf n below = (P : Int)) (hv : Ints w w.heap.size v raw) (hn : I64 n) (hr : ∀ r ∈ raw, I64 r) (hb0 : 0 < below) (hb1 : below ≤ 2000) :
    Calls Try.prog 5 #[.int .i64 n, .int .i64 below, v] w fun e w' => ∃ A c, e = .returned (.agg #[.int .i64 (P : Int), .slice A (pickSet P raw).length c]) ∧ Bt w' (.agg #[.int .i64 (P : Int), .slice A (pickSet P raw).length c]) P (pickSet P raw) ∧ Below w.heap.size w w' := by
  refine (Bits_any n below raw v w hv hn hr hb0 hb1).mono ?_
  rintro e w' ⟨x, rfl, hx, hb⟩
  rw [hP] at hx
  simp only [Int.toNat_natCast] at hx
  obtain ⟨A, c, rfl, _, _⟩ := hx.form
  exact ⟨A, c, rfl, hx, hb⟩
theorem pick_nat (n below : Int) (h : 0 < below) : ∃ P : Nat, pickOf n below = (P : Int) ∧ (P : Int) < below := by
  obtain ⟨h0, h1⟩ := pickOf_bd n below h
  obtain ⟨P, hP⟩ := Int.eq_ofNat_of_zero_le h0
  exact ⟨P, hP, by omega⟩
theorem pickSet_length (P : Nat) (raw : List Int) (h : P ≤ 2000) : (pickSet P raw).length ≤ 2000 := Nat.le_trans (pickTo_length P raw P) h
theorem small_len {l : List Int} (h : l.length ≤ 5000) : l.length ≤ maxLen := by
  have : maxLen = 9223372036854775807 := rfl
  omega
theorem mk_list (l : List UInt8) : (⟨l.toArray⟩ : ByteArray).data.toList = l := rfl
theorem mk_size (l : List UInt8) : (⟨l.toArray⟩ : ByteArray).size = l.length := by simp [ByteArray.size]
theorem toList_mk (l : List UInt8) : (⟨l.toArray⟩ : ByteArray).toList = l := by rw [ByteArray.toList_eq]
end Go.Proofs.Ytpojpikndlcbkaa
