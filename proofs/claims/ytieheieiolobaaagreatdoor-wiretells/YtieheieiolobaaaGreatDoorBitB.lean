/- The small functions of package bits: fitsLen, vectorBytes, Right, mark.
   bits.mark. -/
import Derived.Test.YtieheieiolobaaaGreatDoorProg
import Derived.Test.YtieheieiolobaaaGreatDoorBitW
import Derived.Test.YtieheieiolobaaaGreatDoorBitP
import Derived.Test.YtieheieiolobaaaGreatDoorOctP
import Derived.WalkLawsBesides
import Derived.Laws.IdiomStrings
namespace Go.Proofs.YtieheieiolobaaaGreatDoor
open Go.RowKit

theorem fitsLen_any (n : Int) (w : World) :
    Calls Tryz.prog 93 #[.int .i64 n] w fun e w' => e = .returned (.bool (fitsB n)) ∧ w = w' := by
  by_cases h : 0 ≤ n
  · go_enter Tryz.func93, Tryz.ntmps93
    go_wp2
    go_ret
    exact ⟨by simp [fitsB, h], rfl⟩
  · go_enter Tryz.func93, Tryz.ntmps93
    go_wp2
    go_ret
    exact ⟨by simp [fitsB]; omega, rfl⟩

theorem risesFrom_take_step (n : Int) (on : List Int) (k : Nat) (hk : k < on.length) (last : Int) : risesFrom n last (on.drop k) = (decide (last < on[k]) && decide (on[k] < n) && risesFrom n on[k] (on.drop (k + 1))) := by
  rw [List.drop_eq_getElem_cons hk]; rfl

set_option maxHeartbeats 400000 in
theorem Right_any (x : Value) (n : Int) (on : List Int) (w : World) (hx : Bt w x n on) (h9 : on.length ≤ maxLen) :
    Calls Tryz.prog 81 #[x] w fun e w' => e = .returned (.bool (rightB n on)) ∧ Below w.heap.size w w' := by
  obtain ⟨A, c, rfl, hc, hv⟩ := hx.form
  have hb0 : Below w.heap.size w (w.alloc (.cells #[.int .i64 n, .slice A on.length c] 27)) := (Below.refl _ w).alloc (Nat.le_refl _) _
  have hv1 := hv.below hb0 (Nat.le_refl _)
  have h9' : on.length ≤ 9223372036854775807 := h9
  by_cases hf : fitsB n = true
  · go_enter Tryz.func81, Tryz.ntmps81
    go_wp2_with fail
    with_reducible refine (fitsLen_any _ _).mono ?_
    rintro e w1 ⟨rfl, rfl⟩
    rw [hf]
    go_wp2_with fail
    go_loop [3, 13] (fun l i => ∃ (k : Nat) (last : Int), k ≤ on.length ∧ i = .int .i64 k ∧ l = .int .i64 last ∧ rightB n on = risesFrom n last (on.drop k)) (fun _ i => on.length - (intOf i).toNat)
    case atStart => exact ⟨0, -1, Nat.zero_le _, rfl, rfl, by simp [rightB, hf]⟩
    case round =>
      obtain ⟨k, last, hk, rfl, rfl, he⟩ := hrel
      have HE := Lib.hid he
      clear he
      by_cases hlt : k < on.length
      · obtain ⟨ad, rfl, hb, hcell⟩ := hv1.at_ hlt
        have HS := Lib.hid (risesFrom_take_step n on k hlt last)
        generalize hy : on[k] = y at *
        clear hy
        by_cases c1 : last < y
        · by_cases c2 : y < n
          · go_wp2_with fail
            go_round
            case rel => exact ⟨k + 1, y, by omega, by go_num, rfl, by rw [HE.out, HS.out]; simp [c1, c2]⟩
            case measure => simp [intOf]; omega
          · go_wp2_with fail
            go_ret
            exact ⟨by rw [HE.out, HS.out]; simp; intros; omega, hb0⟩
        · go_wp2_with fail
          go_ret
          exact ⟨by rw [HE.out, HS.out]; simp; intros; omega, hb0⟩
      · go_wp2_with fail
        go_ret
        exact ⟨by rw [HE.out, List.drop_of_length_le (by omega)]; rfl, hb0⟩
  · have hr : rightB n on = false := by simp [rightB, hf]
    have hf' : fitsB n = false := by simpa using hf
    rw [hr]
    clear hr hf
    go_enter Tryz.func81, Tryz.ntmps81
    go_wp2_with fail
    with_reducible refine (fitsLen_any _ _).mono ?_
    rintro e w1 ⟨rfl, rfl⟩
    rw [hf']
    go_wp2_with fail
    go_ret
    exact ⟨rfl, hb0⟩
end Go.Proofs.YtieheieiolobaaaGreatDoor

namespace Go.Proofs.YtieheieiolobaaaGreatDoor
open Go.RowKit

theorem mark_cell (l : List UInt8) (i : Nat) (hi : i / 8 < l.length) : (byteVals l)[i / 8]? = some (.int .u8 ((l.getD (i / 8) 0).toNat : Int)) := by
  simp [byteVals, List.getElem?_eq_getElem hi, List.getD_eq_getElem?_getD]
theorem mark_or (a : UInt8) (r : Nat) (hr : r < 8) : bits .or .u8 (a.toNat : Int) (2 ^ r % 256) = ((UInt8.ofNat (a.toNat ||| 2 ^ r)).toNat : Int) := by
  have h1 := pow_lt_256 r hr
  have h2 := UInt8.toNat_lt a
  have e : (2 : Int) ^ r % 256 = ((2 ^ r : Nat) : Int) := by
    have h3 : ((2 ^ r : Nat) : Int) = 2 ^ r := by simp
    rw [← h3]
    generalize 2 ^ r = y at *
    omega
  rw [e, u8_or_nat _ _ (by omega) h1, UInt8.toNat_ofNat_of_lt' (or_lt_256 _ _ (by omega) h1)]
theorem mark_row (l : List UInt8) (i : Nat) : (byteVals l).set (i / 8) (.int .u8 ((UInt8.ofNat ((l.getD (i / 8) 0).toNat ||| 2 ^ (i % 8))).toNat : Int)) = byteVals (putBit l i) := by
  simp [byteVals, putBit, List.map_set]

set_option maxHeartbeats 1000000 in
theorem mark_any (g c : Nat) (l : List UInt8) (on : List Int) (v : Value) (w : World) (hr : RowAt w g 5 (byteVals l)) (hv : Ints w w.heap.size v on) (hap : 0 < on.length → Apart v g)
    (h9 : on.length ≤ maxLen) (hl : l.length ≤ 1000000) (hon : ∀ x ∈ on, 0 ≤ x ∧ x.toNat / 8 < l.length) :
    Calls Tryz.prog 82 #[.slice (some ⟨g, 0, none⟩) l.length c, v] w fun e w' => e = .returned (.tuple #[]) ∧ RowAt w' g 5 (byteVals (putBits l on)) ∧ But g w w' := by
  obtain ⟨A, cc, rfl, hcc⟩ := hv.form
  have h9' : on.length ≤ 9223372036854775807 := h9
  go_enter Tryz.func82, Tryz.ntmps82
  go_wp2_with fail
  go_loopw [8] (fun i wr => ∃ k : Nat, k ≤ on.length ∧ i = .int .i64 k ∧ RowAt wr g 5 (byteVals (putBits l (on.take k))) ∧ But g w wr) (fun i _ => on.length - (intOf i).toNat)
  case atStart => exact ⟨0, Nat.zero_le _, rfl, by simpa [putBits] using hr, But.refl _ _⟩
  case round =>
    obtain ⟨k, hk, rfl, hrow, hb⟩ := hrel
    by_cases hlt : k < on.length
    · obtain ⟨ad, rfl, hbl, hcell⟩ := (hv.but (Nat.le_refl _) hb hap).at_ hlt
      have HT := Lib.hid (show on.take (k + 1) = on.take k ++ [on[k]] from List.take_succ_eq_append_getElem hlt)
      obtain ⟨hx0, hx1⟩ := hon on[k] (List.getElem_mem hlt)
      generalize hy : on[k] = y at *
      obtain ⟨i, rfl⟩ := Int.eq_ofNat_of_zero_le hx0
      rw [Int.toNat_natCast] at hx1
      clear hy hx0
      have hpl : (putBits l (on.take k)).length = l.length := putBits_length _ _
      generalize hm : putBits l (on.take k) = m at *
      have HM := Lib.hid hm
      have hc1 : wr.cell? ⟨g, i / 8, none⟩ = some (.int .u8 ((m.getD (i / 8) 0).toNat : Int)) := by rw [hrow.cell, mark_cell m i (by omega)]
      have hf1 := hrow.frozen (i / 8)
      have R := hrow.set (i / 8) (.int .u8 ((UInt8.ofNat ((m.getD (i / 8) 0).toNat ||| 2 ^ (i % 8))).toNat : Int))
      rw [mark_row] at R
      have hor := mark_or (m.getD (i / 8) 0) (i % 8) (by omega)
      have HO := Lib.hid hor
      have HR := Lib.hid R
      have hb1 := hb.setCell (i / 8) (.int .u8 ((UInt8.ofNat ((m.getD (i / 8) 0).toNat ||| 2 ^ (i % 8))).toNat : Int))
      have HB := Lib.hid hb1
      clear R hb1 hrow hm hpl hor
      generalize hq : (UInt8.ofNat ((m.getD (i / 8) 0).toNat ||| 2 ^ (i % 8))) = q at *
      generalize hz : m.getD (i / 8) 0 = z at *
      clear hq hz
      go_wp2_with fail
      go_region
      go_wp2
      go_roundw
      case rel => exact ⟨k + 1, by omega, by go_num, by rw [HT.out, putBits_snoc, HM.out, HO.out]; exact HR.out, by rw [HO.out]; exact HB.out.drew⟩
      case measure => simp [intOf]; omega
    · obtain rfl : k = on.length := by omega
      rw [List.take_length] at hrow
      go_wp2_with fail
      go_end0
      exact ⟨rfl, hrow, hb⟩
end Go.Proofs.YtieheieiolobaaaGreatDoor
