/- bits.mark. -/
import Derived.Test.YtpojpikndlcbkaaBitA
namespace Go.Proofs.Ytpojpikndlcbkaa
open Go.RowKit

theorem mark_cell (l : List UInt8) (i : Nat) (hi : i / 8 < l.length) : (byteVals l)[i / 8]? = some (.int .u8 ((l.getD (i / 8) 0).toNat : Int)) := by
  simp [byteVals, List.getElem?_eq_getElem hi, List.getD_eq_getElem?_getD]
theorem mark_or (a : UInt8) (r : Nat) (hr : r < 8) : bits .or .u8 (a.toNat : Int) (2 ^ r % 256) = ((UInt8.ofNat (a.toNat ||| 2 ^ r)).toNat : Int) := by
  have h1 := pow_lt_256 r hr
  have h2 := UInt8.toNat_lt a
  have e : (2 : Int) ^ r % 256 = ((2 ^ r : Nat) : Int) := by
    have h3 : ((2 ^ r : Nat) : Int) = 2 ^ r := by simp
    rw [← h3]
    generalize 2 ^ r = y at *
    omega
  rw [e, u8_or_nat _ _ (by omega) h1, UInt8.toNat_ofNat_of_lt' (or_lt_256 _ _ (by omega) h1)]
theorem mark_row (l : List UInt8) (i : Nat) : (byteVals l).set (i / 8) (.int .u8 ((UInt8.ofNat ((l.getD (i / 8) 0).toNat ||| 2 ^ (i % 8))).toNat : Int)) = byteVals (putBit l i) := by
  simp [byteVals, putBit, List.map_set]

set_option maxHeartbeats 1000000 in
theorem mark_any (g c : Nat) (l : List UInt8) (on : List Int) (v : Value) (w : World) (hr : RowAt w g 5 (byteVals l)) (hv : Ints w w.heap.size v on) (hap : 0 < on.length → Apart v g)
    (h9 : on.length ≤ maxLen) (hl : l.length ≤ 1000000) (hon : ∀ x ∈ on, 0 ≤ x ∧ x.toNat / 8 < l.length) :
    Calls Try.prog 27 #[.slice (some ⟨g, 0, none⟩) l.length c, v] w fun e w' => e = .returned (.tuple #[]) ∧ RowAt w' g 5 (byteVals (putBits l on)) ∧ But g w w' := by
  obtain ⟨A, cc, rfl, hcc⟩ := hv.form
  have h9' : on.length ≤ 9223372036854775807 := h9
  go_enter Try.func27, Try.ntmps27
  go_wp2_with fail
  go_loopw [8] (fun i wr => ∃ k : Nat, k ≤ on.length ∧ i = .int .i64 k ∧ RowAt wr g 5 (byteVals (putBits l (on.take k))) ∧ But g w wr) (fun i _ => on.length - (intOf i).toNat)
  case atStart => exact ⟨0, Nat.zero_le _, rfl, by simpa [putBits] using hr, But.refl _ _⟩
  case round =>
    obtain ⟨k, hk, rfl, hrow, hb⟩ := hrel
    by_cases hlt : k < on.length
    · obtain ⟨ad, rfl, hbl, hcell⟩ := (hv.but (Nat.le_refl _) hb hap).at_ hlt
      have HT := Lib.hid (show on.take (k + 1) = on.take k ++ [on[k]] from List.take_succ_eq_append_getElem hlt)
      obtain ⟨hx0, hx1⟩ := hon on[k] (List.getElem_mem hlt)
      generalize hy : on[k] = y at *
      obtain ⟨i, rfl⟩ := Int.eq_ofNat_of_zero_le hx0
      rw [Int.toNat_natCast] at hx1
      clear hy hx0
      have hpl : (putBits l (on.take k)).length = l.length := putBits_length _ _
      generalize hm : putBits l (on.take k) = m at *
      have HM := Lib.hid hm
      have hc1 : wr.cell? ⟨g, i / 8, none⟩ = some (.int .u8 ((m.getD (i / 8) 0).toNat : Int)) := by rw [hrow.cell, mark_cell m i (by omega)]
      have hf1 := hrow.frozen (i / 8)
      have R := hrow.set (i / 8) (.int .u8 ((UInt8.ofNat ((m.getD (i / 8) 0).toNat ||| 2 ^ (i % 8))).toNat : Int))
      rw [mark_row] at R
      have hor := mark_or (m.getD (i / 8) 0) (i % 8) (by omega)
      have HO := Lib.hid hor
      have HR := Lib.hid R
      have hb1 := hb.setCell (i / 8) (.int .u8 ((UInt8.ofNat ((m.getD (i / 8) 0).toNat ||| 2 ^ (i % 8))).toNat : Int))
      have HB := Lib.hid hb1
      clear R hb1 hrow hm hpl hor
      generalize hq : (UInt8.ofNat ((m.getD (i / 8) 0).toNat ||| 2 ^ (i % 8))) = q at *
      generalize hz : m.getD (i / 8) 0 = z at *
      clear hq hz
      go_wp2_with fail
      go_region
      go_wp2
      go_roundw
      case rel => exact ⟨k + 1, by omega, by go_num, by rw [HT.out, putBits_snoc, HM.out, HO.out]; exact HR.out, by rw [HO.out]; exact HB.out.drew⟩
      case measure => simp [intOf]; omega
    · obtain rfl : k = on.length := by omega
      rw [List.take_length] at hrow
      go_wp2_with fail
      go_end0
      exact ⟨rfl, hrow, hb⟩
end Go.Proofs.Ytpojpikndlcbkaa
