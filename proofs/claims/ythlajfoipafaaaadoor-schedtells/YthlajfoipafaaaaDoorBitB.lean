/- The small functions of package bits: fitsLen, vectorBytes, Right, mark.
   bits.mark. -/
import Derived.Test.YthlajfoipafaaaaDoorProg
import Derived.Test.YthlajfoipafaaaaDoorBitW
import Derived.Test.YthlajfoipafaaaaDoorBitP
import Derived.Test.YthlajfoipafaaaaDoorChuQ
import Derived.WalkLawsBesides
import Derived.Laws.IdiomStrings
namespace Go.Proofs.YthlajfoipafaaaaDoor
open Go.RowKit

theorem fitsLen_any (n : Int) (w : World) :
    Calls Tryd.prog 38 #[.int .i64 n] w fun e w' => e = .returned (.bool (fitsB n)) ∧ w = w' := by
  by_cases h : 0 ≤ n
  · go_enter Tryd.func38, Tryd.ntmps38
    go_wp2
    go_ret
    exact ⟨by simp [fitsB, h], rfl⟩
  · go_enter Tryd.func38, Tryd.ntmps38
    go_wp2
    go_ret
    exact ⟨by simp [fitsB]; omega, rfl⟩

theorem risesFrom_take_step (n : Int) (on : List Int) (k : Nat) (hk : k < on.length) (last : Int) : risesFrom n last (on.drop k) = (decide (last < on[k]) && decide (on[k] < n) && risesFrom n on[k] (on.drop (k + 1))) := by
  rw [List.drop_eq_getElem_cons hk]; rfl

set_option maxHeartbeats 400000 in
theorem Right_any (x : Value) (n : Int) (on : List Int) (w : World) (hx : Bt w x n on) (h9 : on.length ≤ maxLen) :
    Calls Tryd.prog 21 #[x] w fun e w' => e = .returned (.bool (rightB n on)) ∧ Below w.heap.size w w' := by
  obtain ⟨A, c, rfl, hc, hv⟩ := hx.form
  have hb0 : Below w.heap.size w (w.alloc (.cells #[.int .i64 n, .slice A on.length c] 37)) := (Below.refl _ w).alloc (Nat.le_refl _) _
  have hv1 := hv.below hb0 (Nat.le_refl _)
  have h9' : on.length ≤ 9223372036854775807 := h9
  by_cases hf : fitsB n = true
  · go_enter Tryd.func21, Tryd.ntmps21
    go_wp2_with fail
    with_reducible refine (fitsLen_any _ _).mono ?_
    rintro e w1 ⟨rfl, rfl⟩
    rw [hf]
    go_wp2_with fail
    go_loop [3, 13] (fun l i => ∃ (k : Nat) (last : Int), k ≤ on.length ∧ i = .int .i64 k ∧ l = .int .i64 last ∧ rightB n on = risesFrom n last (on.drop k)) (fun _ i => on.length - (intOf i).toNat)
    case atStart => exact ⟨0, -1, Nat.zero_le _, rfl, rfl, by simp [rightB, hf]⟩
    case round =>
      obtain ⟨k, last, hk, rfl, rfl, he⟩ := hrel
      have HE := Lib.hid he
      clear he
      by_cases hlt : k < on.length
      · obtain ⟨ad, rfl, hb, hcell⟩ := hv1.at_ hlt
        have HS := Lib.hid (risesFrom_take_step n on k hlt last)
        generalize hy : on[k] = y at *
        clear hy
        by_cases c1 : last < y
        · by_cases c2 : y < n
          · go_wp2_with fail
            go_round
            case rel => exact ⟨k + 1, y, by omega, by go_num, rfl, by rw [HE.out, HS.out]; simp [c1, c2]⟩
            case measure => simp [intOf]; omega
          · go_wp2_with fail
            go_ret
            exact ⟨by rw [HE.out, HS.out]; simp; intros; omega, hb0⟩
        · go_wp2_with fail
          go_ret
          exact ⟨by rw [HE.out, HS.out]; simp; intros; omega, hb0⟩
      · go_wp2_with fail
        go_ret
        exact ⟨by rw [HE.out, List.drop_of_length_le (by omega)]; rfl, hb0⟩
  · have hr : rightB n on = false := by simp [rightB, hf]
    have hf' : fitsB n = false := by simpa using hf
    rw [hr]
    clear hr hf
    go_enter Tryd.func21, Tryd.ntmps21
    go_wp2_with fail
    with_reducible refine (fitsLen_any _ _).mono ?_
    rintro e w1 ⟨rfl, rfl⟩
    rw [hf']
    go_wp2_with fail
    go_ret
    exact ⟨rfl, hb0⟩
end Go.Proofs.YthlajfoipafaaaaDoor

namespace Go.Proofs.YthlajfoipafaaaaDoor
open Go.RowKit

theorem mark_cell (l : List UInt8) (i : Nat) (hi : i / 8 < l.length) : (byteVals l)[i / 8]? = some (.int .u8 ((l.getD (i / 8) 0).toNat : Int)) := by
  simp [byteVals, List.getElem?_eq_getElem hi, List.getD_eq_getElem?_getD]
theorem mark_or (a : UInt8) (r : Nat) (hr : r < 8) : bits .or .u8 (a.toNat : Int) (2 ^ r % 256) = ((UInt8.ofNat (a.toNat ||| 2 ^ r)).toNat : Int) := by
  have h1 := pow_lt_256 r hr
  have h2 := UInt8.toNat_lt a
  have e : (2 : Int) ^ r % 256 = ((2 ^ r : Nat) : Int) := by
    have h3 : ((2 ^ r : Nat) : Int) = 2 ^ r := by simp
    rw [← h3]
    generalize 2 ^ r = y at *
    omega
  rw [e, u8_or_nat _ _ (by omega) h1, UInt8.toNat_ofNat_of_lt' (or_lt_256 _ _ (by omega) h1)]
theorem mark_row (l : List UInt8) (i : Nat) : (byteVals l).set (i / 8) (.int .u8 ((UInt8.ofNat ((l.getD (i / 8) 0).toNat ||| 2 ^ (i % 8))).toNat : Int)) = byteVals (putBit l i) := by
  simp [byteVals, putBit, List.map_set]

end Go.Proofs.YthlajfoipafaaaaDoor
