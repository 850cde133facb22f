/- The walk of the law ChurnParts. -/
import Derived.Test.YtkbihgflfldllaaDoorCLawBackW
import Derived.Test.YtkbihgflfldllaaDoorCLawDrawW
namespace Go.Proofs.YtkbihgflfldllaaDoor
open Go.RowKit

theorem at_below {w W : World} (hT : Tab w) (hb : Below w.heap.size w W) : At w W := ⟨hT.on hb, hb⟩
theorem app_list (x y : ByteArray) : (x ++ y).data.toList = x.data.toList ++ y.data.toList := by simp
theorem app_size (x y : ByteArray) : (x ++ y).size = x.size + y.size := by simp
theorem make8 (W : World) : (Instr.makeSlice 35 (.int .i64 8) (.int .i64 8)).run Tryd.prog W = .ok (.slice (some ⟨W.heap.size, 0, none⟩) 8 8) (W.alloc (.cells (List.replicate 8 (.int .u8 0)).toArray 5)) := by
  obtain ⟨i0, hi, hz0, hz1, hz2⟩ := info_parts info_byte
  have hr := run_make (P := Tryd.prog) W 35 5 i0 (.int .u8 0) Tryd.underlying35 hi hz0 .i64 .i64 8 8 (by omega) (by omega) (by rw [hz2]; decide) (by omega)
  have e : madeCells (Value.int .u8 0).cells (8 * i0.size) = (List.replicate 8 (.int .u8 0)).toArray := by
    apply Array.toList_inj.1
    rw [hz1]
    exact toList_madeCells_one _ _
  rw [← e]
  exact hr
theorem back8 (W : World) (g x : Nat) (h : RowAt W g 5 (byteVals (leBytes x 8))) : (convert 35 9 (.slice (some ⟨g, 0, none⟩) 8 8)).run Tryd.prog W = .ok (.string ⟨(leBytes x 8).toArray⟩) W := by
  have hcv := run_convert_bytes_back (P := Tryd.prog) W 35 9 5 ⟨g, 0, none⟩ 8 (leBytes x 8) Tryd.underlying35 Tryd.underlying5 Tryd.underlying9 (fun j hj => by
    have e1 : (⟨g, 0, none⟩ : Addr).add j = ⟨g, j, none⟩ := by unfold Addr.add; split <;> simp_all
    rw [e1, h.cell]
    simp [byteVals, List.getElem?_eq_getElem hj])
  rw [leBytes_length] at hcv
  exact hcv

set_option maxHeartbeats 4000000 in
set_option maxRecDepth 100000 in
theorem parts_way (h : Nat) (s t x y : ByteArray) (ws l : List Nat) (A : Option Addr) (c m : Nat) (w : World) (hh : h < 18446744073709551616) (hs : s.size ≤ 9223372036854775807) (hs2 : t.size ≤ 9223372036854775807) (hx : x.size ≤ 100) (hy : y.size ≤ 100) (hc : ws.length ≤ c) (h9 : ws.length ≤ 9223372036854775807) (cw : CutWay w A c 20 ws l m) (hT : Tab w)
    (a b p q u r F : Nat) (ha : moreH h x.data.toList = a) (hb : moreH a y.data.toList = b) (hp : backH h y.data.toList = p) (hq : backH p x.data.toList = q) (hu : moreH 14695981039346656037 x.data.toList = u) (hr : moreH u y.data.toList = r) (hF : foldB l = F)
    (way : ((100 < s.size) = True ∧ s.extract 0 100 = x) ∨ ((100 < s.size) = False ∧ s = x)) (way2 : ((100 < t.size) = True ∧ t.extract 0 100 = y) ∨ ((100 < t.size) = False ∧ t = y)) :
    Calls Tryd.prog 5 #[.int .u64 h, .string s, .string t, .slice A ws.length c] w fun e w' => e = .returned (.bool true) ∧ At w w' := by
  have A0 := At.refl hT
  obtain ⟨hl, hv, hm, way3⟩ := cw
  have c1 : ∀ W, At w W → Calls Tryd.prog 9 #[.int .u64 h, .string x] W fun e w' => e = .returned (.int .u64 a) ∧ At w w' := fun W hA => at_more h x a ha hh (by omega) hA
  have c2 : ∀ W, At w W → Calls Tryd.prog 9 #[.int .u64 a, .string y] W fun e w' => e = .returned (.int .u64 b) ∧ At w w' := fun W hA => at_more a y b hb (by rw [← ha]; exact moreH_lt hh _) (by omega) hA
  have c3 : ∀ W, At w W → Calls Tryd.prog 9 #[.int .u64 h, .string (x ++ y)] W fun e w' => e = .returned (.int .u64 b) ∧ At w w' := fun W hA => at_more h (x ++ y) b (by rw [app_list, moreH_append, ha, hb]) hh (by rw [app_size]; omega) hA
  have c4 : ∀ W, At w W → Calls Tryd.prog 11 #[.int .u64 h, .string y] W fun e w' => e = .returned (.int .u64 p) ∧ At w w' := fun W hA => at_back h y p hp (by omega) hA
  have c5 : ∀ W, At w W → Calls Tryd.prog 11 #[.int .u64 p, .string x] W fun e w' => e = .returned (.int .u64 q) ∧ At w w' := fun W hA => at_back p x q hq (by omega) hA
  have c6 : ∀ W, At w W → Calls Tryd.prog 11 #[.int .u64 h, .string (x ++ y)] W fun e w' => e = .returned (.int .u64 q) ∧ At w w' := fun W hA => at_back h (x ++ y) q (by rw [app_list, backH_append, hp, hq]) (by rw [app_size]; omega) hA
  have c7 : ∀ W, At w W → Calls Tryd.prog 13 #[.string (x ++ y)] W fun e w' => e = .returned (.int .u64 r) ∧ At w w' := fun W hA => at_sum (x ++ y) r (by rw [app_list, moreH_append, hu, hr]) (by rw [app_size]; omega) hA
  have c8 : ∀ W, At w W → Calls Tryd.prog 13 #[.string x] W fun e w' => e = .returned (.int .u64 u) ∧ At w w' := fun W hA => at_sum x u hu (by omega) hA
  have c9 : ∀ W, At w W → Calls Tryd.prog 9 #[.int .u64 u, .string y] W fun e w' => e = .returned (.int .u64 r) ∧ At w w' := fun W hA => at_more u y r hr (by rw [← hu]; exact moreH_lt (by decide) _) (by omega) hA
  have c10 : ∀ W, At w W → Calls Tryd.prog 13 #[.string ⟨#[]⟩] W fun e w' => e = .returned (.int .u64 14695981039346656037) ∧ At w w' := fun W hA => at_sum ⟨#[]⟩ 14695981039346656037 rfl (by decide) hA
  have c11 : ∀ W, At w W → Calls Tryd.prog 15 #[.slice A m c] W fun e w' => e = .returned (.int .u64 F) ∧ At w w' := fun W hA => at_fold l _ F hF (by omega) (hA.words hv) hA
  have HF := Lib.hid hF
  have HM := Lib.hid hm
  clear ha hb hp hq hu hr hF hm
  rcases way with ⟨z1, e1⟩ | ⟨z1, e1⟩
  · rcases way2 with ⟨z2, e2⟩ | ⟨z2, e2⟩
    · rcases way3 with ⟨z3, e3⟩ | ⟨z3, e3⟩
      · obtain rfl := e3
        go_enter Tryd.func5, Tryd.ntmps5
        go_wp2_with (first
          | (with_reducible refine (at_awake (by assumption)).mono ?_; rintro e w1 ⟨rfl, A1⟩)
          | (with_reducible refine (c1 _ (by assumption)).mono ?_; rintro e w1 ⟨rfl, A1⟩)
          | (with_reducible refine (c2 _ (by assumption)).mono ?_; rintro e w1 ⟨rfl, A1⟩)
          | (with_reducible refine (c3 _ (by assumption)).mono ?_; rintro e w1 ⟨rfl, A1⟩)
          | (with_reducible refine (c4 _ (by assumption)).mono ?_; rintro e w1 ⟨rfl, A1⟩)
          | (with_reducible refine (c5 _ (by assumption)).mono ?_; rintro e w1 ⟨rfl, A1⟩)
          | (with_reducible refine (c6 _ (by assumption)).mono ?_; rintro e w1 ⟨rfl, A1⟩)
          | (with_reducible refine (c7 _ (by assumption)).mono ?_; rintro e w1 ⟨rfl, A1⟩)
          | (with_reducible refine (c8 _ (by assumption)).mono ?_; rintro e w1 ⟨rfl, A1⟩)
          | (with_reducible refine (c9 _ (by assumption)).mono ?_; rintro e w1 ⟨rfl, A1⟩)
          | (with_reducible refine (c10 _ (by assumption)).mono ?_; rintro e w1 ⟨rfl, A1⟩)
          | (with_reducible refine (c11 _ (by assumption)).mono ?_; rintro e w1 ⟨rfl, A1⟩))
        all_goals (try (exfalso; first | (have := of_eq_true z1; omega) | (have := of_eq_true z2; omega) | (have := of_eq_true z3; omega)))
        go_loopw [13, 14] (fun g i wr => ∃ k : Nat, k ≤ l.length ∧ i = .int .i64 k ∧ g = .int .u64 (foldB (l.take k)) ∧ At w wr) (fun _ i _ => l.length - (intOf i).toNat)
        case atStart => exact ⟨0, Nat.zero_le _, rfl, rfl, by assumption⟩
        case round =>
          obtain ⟨k, hk, rfl, rfl, A2⟩ := hrel
          obtain ⟨wo, ho⟩ : ∃ wo, wo = wr := ⟨_, rfl⟩
          subst ho
          by_cases hlt : k < l.length
          · have hkl : (k < 20) = True := eq_true (by have := HM.out; omega)
            have hkl2 : ((k : Int) < (20 : Int)) = True := eq_true (by have := HM.out; omega)
            obtain ⟨ad, rfl, _, _⟩ := (hv.below A2.2 (Nat.le_refl _)).at_ hlt
            have hft := foldB_take l k hlt
            have hcell0 : ∀ W, At w W → W.cell? (ad.add k) = some (.int .u64 ((l[k] : Nat) : Int)) := fun W hW => by
              obtain ⟨ad', e, _, hc0⟩ := (hv.below hW.2 (Nat.le_refl _)).at_ hlt
              injection e with e
              subst e
              exact hc0
            generalize l[k] = z at *
            have HC := Lib.hid hcell0
            have HFT := Lib.hid hft
            have hmk := make8
            have hsz := A2.2.size
            have A3 : At w (wo.alloc (.cells (List.replicate 8 (.int .u8 0)).toArray 5)) := A2.alloc _
            have R0 : RowAt (wo.alloc (.cells (List.replicate 8 (.int .u8 0)).toArray 5)) wo.heap.size 5 (List.replicate 8 (.int .u8 0)) := by simpa using RowAt.new wo 5 (List.replicate 8 (.int .u8 0)).toArray
            clear hft hcell0
            generalize hM : (List.replicate 8 (Value.int .u8 0)).toArray = M at *
            clear hM
            go_wp2_with fail
            go_loopw [16] (fun j wr => ∃ i : Nat, i ≤ 8 ∧ j = .int .i64 i ∧ RowAt wr wo.heap.size 5 (byteVals (leBytes z i) ++ List.replicate (8 - i) (.int .u8 0)) ∧ At w wr) (fun j _ => 8 - (intOf j).toNat)
            case atStart => exact ⟨0, Nat.zero_le _, rfl, by simpa [byteVals, leBytes] using R0, A3⟩
            case round =>
              obtain ⟨i, hi, rfl, hrow, A4⟩ := hrel
              clear R0 A3
              by_cases hlt8 : i < 8
              · have hc0 := HC.out wr A4
                have hc1 : wr.cell? ⟨wo.heap.size, i, none⟩ = some (.int .u8 0) := by rw [hrow.cell, put_cell z 8 i hlt8]
                have hf1 := hrow.frozen i
                have R1 := hrow.set i (.int .u8 (((z : Int) / 2 ^ (8 * i)).tmod 256 % 256))
                rw [show (((z : Int) / 2 ^ (8 * i)).tmod 256 % 256) = ((z : Int) / 2 ^ (8 * i) % 256) by rw [refput_val, refput_byte], put_step z 8 i hlt8, ← show (((z : Int) / 2 ^ (8 * i)).tmod 256 % 256) = ((z : Int) / 2 ^ (8 * i) % 256) by rw [refput_val, refput_byte]] at R1
                have A5 : At w (wr.setCell ⟨wo.heap.size, i, none⟩ (.int .u8 (((z : Int) / 2 ^ (8 * i)).tmod 256 % 256))) := at_below hT (A4.2.setCell (p := ⟨wo.heap.size, i, none⟩) hsz _)
                clear hrow A4
                go_wp2_with fail
                go_roundw
                case rel => exact ⟨i + 1, by omega, by go_num, R1, A5⟩
                case measure => simp [intOf]; omega
              · obtain rfl : i = 8 := by omega
                have hcv := back8 wr wo.heap.size z (by simpa using hrow)
                have cM : ∀ W, At w W → Calls Tryd.prog 9 #[.int .u64 (foldB (l.take k)), .string ⟨(leBytes z 8).toArray⟩] W fun e w' => e = .returned (.int .u64 (foldB (l.take (k + 1)))) ∧ At w w' := fun W hA => at_more (foldB (l.take k)) ⟨(leBytes z 8).toArray⟩ _ HFT.out (foldB_lt _) (by rw [size_le, leBytes_length]; decide) hA
                clear hrow
                go_wp2_with (with_reducible refine (cM _ (by assumption)).mono ?_; rintro e w1 ⟨rfl, A1⟩)
                go_roundw
                case rel => exact ⟨k + 1, by omega, by go_num, rfl, by assumption⟩
                case measure => simp [intOf]; omega
          · have hkl : (k < 20) = False := eq_false (by have := HM.out; omega)
            have hkl2 : ((k : Int) < (20 : Int)) = False := eq_false (by have := HM.out; omega)
            have hF2 : foldB (l.take k) = F := by rw [List.take_of_length_le (by omega)]; exact HF.out
            go_wp2_with (with_reducible refine (c11 _ (by assumption)).mono ?_; rintro e w1 ⟨rfl, A1⟩)
            go_ret
            exact ⟨rfl, by assumption⟩
      · subst e3
        go_enter Tryd.func5, Tryd.ntmps5
        go_wp2_with (first
          | (with_reducible refine (at_awake (by assumption)).mono ?_; rintro e w1 ⟨rfl, A1⟩)
          | (with_reducible refine (c1 _ (by assumption)).mono ?_; rintro e w1 ⟨rfl, A1⟩)
          | (with_reducible refine (c2 _ (by assumption)).mono ?_; rintro e w1 ⟨rfl, A1⟩)
          | (with_reducible refine (c3 _ (by assumption)).mono ?_; rintro e w1 ⟨rfl, A1⟩)
          | (with_reducible refine (c4 _ (by assumption)).mono ?_; rintro e w1 ⟨rfl, A1⟩)
          | (with_reducible refine (c5 _ (by assumption)).mono ?_; rintro e w1 ⟨rfl, A1⟩)
          | (with_reducible refine (c6 _ (by assumption)).mono ?_; rintro e w1 ⟨rfl, A1⟩)
          | (with_reducible refine (c7 _ (by assumption)).mono ?_; rintro e w1 ⟨rfl, A1⟩)
          | (with_reducible refine (c8 _ (by assumption)).mono ?_; rintro e w1 ⟨rfl, A1⟩)
          | (with_reducible refine (c9 _ (by assumption)).mono ?_; rintro e w1 ⟨rfl, A1⟩)
          | (with_reducible refine (c10 _ (by assumption)).mono ?_; rintro e w1 ⟨rfl, A1⟩)
          | (with_reducible refine (c11 _ (by assumption)).mono ?_; rintro e w1 ⟨rfl, A1⟩))
        all_goals (try (exfalso; first | (have := of_eq_true z1; omega) | (have := of_eq_true z2; omega) | (have := of_eq_false z3; omega)))
        go_loopw [13, 14] (fun g i wr => ∃ k : Nat, k ≤ l.length ∧ i = .int .i64 k ∧ g = .int .u64 (foldB (l.take k)) ∧ At w wr) (fun _ i _ => l.length - (intOf i).toNat)
        case atStart => exact ⟨0, Nat.zero_le _, rfl, rfl, by assumption⟩
        case round =>
          obtain ⟨k, hk, rfl, rfl, A2⟩ := hrel
          obtain ⟨wo, ho⟩ : ∃ wo, wo = wr := ⟨_, rfl⟩
          subst ho
          by_cases hlt : k < l.length
          · have hkl : (k < ws.length) = True := eq_true (by have := HM.out; omega)
            have hkl2 : ((k : Int) < (ws.length : Int)) = True := eq_true (by have := HM.out; omega)
            obtain ⟨ad, rfl, _, _⟩ := (hv.below A2.2 (Nat.le_refl _)).at_ hlt
            have hft := foldB_take l k hlt
            have hcell0 : ∀ W, At w W → W.cell? (ad.add k) = some (.int .u64 ((l[k] : Nat) : Int)) := fun W hW => by
              obtain ⟨ad', e, _, hc0⟩ := (hv.below hW.2 (Nat.le_refl _)).at_ hlt
              injection e with e
              subst e
              exact hc0
            generalize l[k] = z at *
            have HC := Lib.hid hcell0
            have HFT := Lib.hid hft
            have hmk := make8
            have hsz := A2.2.size
            have A3 : At w (wo.alloc (.cells (List.replicate 8 (.int .u8 0)).toArray 5)) := A2.alloc _
            have R0 : RowAt (wo.alloc (.cells (List.replicate 8 (.int .u8 0)).toArray 5)) wo.heap.size 5 (List.replicate 8 (.int .u8 0)) := by simpa using RowAt.new wo 5 (List.replicate 8 (.int .u8 0)).toArray
            clear hft hcell0
            generalize hM : (List.replicate 8 (Value.int .u8 0)).toArray = M at *
            clear hM
            go_wp2_with fail
            go_loopw [16] (fun j wr => ∃ i : Nat, i ≤ 8 ∧ j = .int .i64 i ∧ RowAt wr wo.heap.size 5 (byteVals (leBytes z i) ++ List.replicate (8 - i) (.int .u8 0)) ∧ At w wr) (fun j _ => 8 - (intOf j).toNat)
            case atStart => exact ⟨0, Nat.zero_le _, rfl, by simpa [byteVals, leBytes] using R0, A3⟩
            case round =>
              obtain ⟨i, hi, rfl, hrow, A4⟩ := hrel
              clear R0 A3
              by_cases hlt8 : i < 8
              · have hc0 := HC.out wr A4
                have hc1 : wr.cell? ⟨wo.heap.size, i, none⟩ = some (.int .u8 0) := by rw [hrow.cell, put_cell z 8 i hlt8]
                have hf1 := hrow.frozen i
                have R1 := hrow.set i (.int .u8 (((z : Int) / 2 ^ (8 * i)).tmod 256 % 256))
                rw [show (((z : Int) / 2 ^ (8 * i)).tmod 256 % 256) = ((z : Int) / 2 ^ (8 * i) % 256) by rw [refput_val, refput_byte], put_step z 8 i hlt8, ← show (((z : Int) / 2 ^ (8 * i)).tmod 256 % 256) = ((z : Int) / 2 ^ (8 * i) % 256) by rw [refput_val, refput_byte]] at R1
                have A5 : At w (wr.setCell ⟨wo.heap.size, i, none⟩ (.int .u8 (((z : Int) / 2 ^ (8 * i)).tmod 256 % 256))) := at_below hT (A4.2.setCell (p := ⟨wo.heap.size, i, none⟩) hsz _)
                clear hrow A4
                go_wp2_with fail
                go_roundw
                case rel => exact ⟨i + 1, by omega, by go_num, R1, A5⟩
                case measure => simp [intOf]; omega
              · obtain rfl : i = 8 := by omega
                have hcv := back8 wr wo.heap.size z (by simpa using hrow)
                have cM : ∀ W, At w W → Calls Tryd.prog 9 #[.int .u64 (foldB (l.take k)), .string ⟨(leBytes z 8).toArray⟩] W fun e w' => e = .returned (.int .u64 (foldB (l.take (k + 1)))) ∧ At w w' := fun W hA => at_more (foldB (l.take k)) ⟨(leBytes z 8).toArray⟩ _ HFT.out (foldB_lt _) (by rw [size_le, leBytes_length]; decide) hA
                clear hrow
                go_wp2_with (with_reducible refine (cM _ (by assumption)).mono ?_; rintro e w1 ⟨rfl, A1⟩)
                go_roundw
                case rel => exact ⟨k + 1, by omega, by go_num, rfl, by assumption⟩
                case measure => simp [intOf]; omega
          · have hkl : (k < ws.length) = False := eq_false (by have := HM.out; omega)
            have hkl2 : ((k : Int) < (ws.length : Int)) = False := eq_false (by have := HM.out; omega)
            have hF2 : foldB (l.take k) = F := by rw [List.take_of_length_le (by omega)]; exact HF.out
            go_wp2_with (with_reducible refine (c11 _ (by assumption)).mono ?_; rintro e w1 ⟨rfl, A1⟩)
            go_ret
            exact ⟨rfl, by assumption⟩
    · rcases way3 with ⟨z3, e3⟩ | ⟨z3, e3⟩
      · obtain rfl := e3
        subst e2
        go_enter Tryd.func5, Tryd.ntmps5
        go_wp2_with (first
          | (with_reducible refine (at_awake (by assumption)).mono ?_; rintro e w1 ⟨rfl, A1⟩)
          | (with_reducible refine (c1 _ (by assumption)).mono ?_; rintro e w1 ⟨rfl, A1⟩)
          | (with_reducible refine (c2 _ (by assumption)).mono ?_; rintro e w1 ⟨rfl, A1⟩)
          | (with_reducible refine (c3 _ (by assumption)).mono ?_; rintro e w1 ⟨rfl, A1⟩)
          | (with_reducible refine (c4 _ (by assumption)).mono ?_; rintro e w1 ⟨rfl, A1⟩)
          | (with_reducible refine (c5 _ (by assumption)).mono ?_; rintro e w1 ⟨rfl, A1⟩)
          | (with_reducible refine (c6 _ (by assumption)).mono ?_; rintro e w1 ⟨rfl, A1⟩)
          | (with_reducible refine (c7 _ (by assumption)).mono ?_; rintro e w1 ⟨rfl, A1⟩)
          | (with_reducible refine (c8 _ (by assumption)).mono ?_; rintro e w1 ⟨rfl, A1⟩)
          | (with_reducible refine (c9 _ (by assumption)).mono ?_; rintro e w1 ⟨rfl, A1⟩)
          | (with_reducible refine (c10 _ (by assumption)).mono ?_; rintro e w1 ⟨rfl, A1⟩)
          | (with_reducible refine (c11 _ (by assumption)).mono ?_; rintro e w1 ⟨rfl, A1⟩))
        all_goals (try (exfalso; first | (have := of_eq_true z1; omega) | (have := of_eq_false z2; omega) | (have := of_eq_true z3; omega)))
        go_loopw [13, 14] (fun g i wr => ∃ k : Nat, k ≤ l.length ∧ i = .int .i64 k ∧ g = .int .u64 (foldB (l.take k)) ∧ At w wr) (fun _ i _ => l.length - (intOf i).toNat)
        case atStart => exact ⟨0, Nat.zero_le _, rfl, rfl, by assumption⟩
        case round =>
          obtain ⟨k, hk, rfl, rfl, A2⟩ := hrel
          obtain ⟨wo, ho⟩ : ∃ wo, wo = wr := ⟨_, rfl⟩
          subst ho
          by_cases hlt : k < l.length
          · have hkl : (k < 20) = True := eq_true (by have := HM.out; omega)
            have hkl2 : ((k : Int) < (20 : Int)) = True := eq_true (by have := HM.out; omega)
            obtain ⟨ad, rfl, _, _⟩ := (hv.below A2.2 (Nat.le_refl _)).at_ hlt
            have hft := foldB_take l k hlt
            have hcell0 : ∀ W, At w W → W.cell? (ad.add k) = some (.int .u64 ((l[k] : Nat) : Int)) := fun W hW => by
              obtain ⟨ad', e, _, hc0⟩ := (hv.below hW.2 (Nat.le_refl _)).at_ hlt
              injection e with e
              subst e
              exact hc0
            generalize l[k] = z at *
            have HC := Lib.hid hcell0
            have HFT := Lib.hid hft
            have hmk := make8
            have hsz := A2.2.size
            have A3 : At w (wo.alloc (.cells (List.replicate 8 (.int .u8 0)).toArray 5)) := A2.alloc _
            have R0 : RowAt (wo.alloc (.cells (List.replicate 8 (.int .u8 0)).toArray 5)) wo.heap.size 5 (List.replicate 8 (.int .u8 0)) := by simpa using RowAt.new wo 5 (List.replicate 8 (.int .u8 0)).toArray
            clear hft hcell0
            generalize hM : (List.replicate 8 (Value.int .u8 0)).toArray = M at *
            clear hM
            go_wp2_with fail
            go_loopw [16] (fun j wr => ∃ i : Nat, i ≤ 8 ∧ j = .int .i64 i ∧ RowAt wr wo.heap.size 5 (byteVals (leBytes z i) ++ List.replicate (8 - i) (.int .u8 0)) ∧ At w wr) (fun j _ => 8 - (intOf j).toNat)
            case atStart => exact ⟨0, Nat.zero_le _, rfl, by simpa [byteVals, leBytes] using R0, A3⟩
            case round =>
              obtain ⟨i, hi, rfl, hrow, A4⟩ := hrel
              clear R0 A3
              by_cases hlt8 : i < 8
              · have hc0 := HC.out wr A4
                have hc1 : wr.cell? ⟨wo.heap.size, i, none⟩ = some (.int .u8 0) := by rw [hrow.cell, put_cell z 8 i hlt8]
                have hf1 := hrow.frozen i
                have R1 := hrow.set i (.int .u8 (((z : Int) / 2 ^ (8 * i)).tmod 256 % 256))
                rw [show (((z : Int) / 2 ^ (8 * i)).tmod 256 % 256) = ((z : Int) / 2 ^ (8 * i) % 256) by rw [refput_val, refput_byte], put_step z 8 i hlt8, ← show (((z : Int) / 2 ^ (8 * i)).tmod 256 % 256) = ((z : Int) / 2 ^ (8 * i) % 256) by rw [refput_val, refput_byte]] at R1
                have A5 : At w (wr.setCell ⟨wo.heap.size, i, none⟩ (.int .u8 (((z : Int) / 2 ^ (8 * i)).tmod 256 % 256))) := at_below hT (A4.2.setCell (p := ⟨wo.heap.size, i, none⟩) hsz _)
                clear hrow A4
                go_wp2_with fail
                go_roundw
                case rel => exact ⟨i + 1, by omega, by go_num, R1, A5⟩
                case measure => simp [intOf]; omega
              · obtain rfl : i = 8 := by omega
                have hcv := back8 wr wo.heap.size z (by simpa using hrow)
                have cM : ∀ W, At w W → Calls Tryd.prog 9 #[.int .u64 (foldB (l.take k)), .string ⟨(leBytes z 8).toArray⟩] W fun e w' => e = .returned (.int .u64 (foldB (l.take (k + 1)))) ∧ At w w' := fun W hA => at_more (foldB (l.take k)) ⟨(leBytes z 8).toArray⟩ _ HFT.out (foldB_lt _) (by rw [size_le, leBytes_length]; decide) hA
                clear hrow
                go_wp2_with (with_reducible refine (cM _ (by assumption)).mono ?_; rintro e w1 ⟨rfl, A1⟩)
                go_roundw
                case rel => exact ⟨k + 1, by omega, by go_num, rfl, by assumption⟩
                case measure => simp [intOf]; omega
          · have hkl : (k < 20) = False := eq_false (by have := HM.out; omega)
            have hkl2 : ((k : Int) < (20 : Int)) = False := eq_false (by have := HM.out; omega)
            have hF2 : foldB (l.take k) = F := by rw [List.take_of_length_le (by omega)]; exact HF.out
            go_wp2_with (with_reducible refine (c11 _ (by assumption)).mono ?_; rintro e w1 ⟨rfl, A1⟩)
            go_ret
            exact ⟨rfl, by assumption⟩
      · subst e3
        subst e2
        go_enter Tryd.func5, Tryd.ntmps5
        go_wp2_with (first
          | (with_reducible refine (at_awake (by assumption)).mono ?_; rintro e w1 ⟨rfl, A1⟩)
          | (with_reducible refine (c1 _ (by assumption)).mono ?_; rintro e w1 ⟨rfl, A1⟩)
          | (with_reducible refine (c2 _ (by assumption)).mono ?_; rintro e w1 ⟨rfl, A1⟩)
          | (with_reducible refine (c3 _ (by assumption)).mono ?_; rintro e w1 ⟨rfl, A1⟩)
          | (with_reducible refine (c4 _ (by assumption)).mono ?_; rintro e w1 ⟨rfl, A1⟩)
          | (with_reducible refine (c5 _ (by assumption)).mono ?_; rintro e w1 ⟨rfl, A1⟩)
          | (with_reducible refine (c6 _ (by assumption)).mono ?_; rintro e w1 ⟨rfl, A1⟩)
          | (with_reducible refine (c7 _ (by assumption)).mono ?_; rintro e w1 ⟨rfl, A1⟩)
          | (with_reducible refine (c8 _ (by assumption)).mono ?_; rintro e w1 ⟨rfl, A1⟩)
          | (with_reducible refine (c9 _ (by assumption)).mono ?_; rintro e w1 ⟨rfl, A1⟩)
          | (with_reducible refine (c10 _ (by assumption)).mono ?_; rintro e w1 ⟨rfl, A1⟩)
          | (with_reducible refine (c11 _ (by assumption)).mono ?_; rintro e w1 ⟨rfl, A1⟩))
        all_goals (try (exfalso; first | (have := of_eq_true z1; omega) | (have := of_eq_false z2; omega) | (have := of_eq_false z3; omega)))
        go_loopw [13, 14] (fun g i wr => ∃ k : Nat, k ≤ l.length ∧ i = .int .i64 k ∧ g = .int .u64 (foldB (l.take k)) ∧ At w wr) (fun _ i _ => l.length - (intOf i).toNat)
        case atStart => exact ⟨0, Nat.zero_le _, rfl, rfl, by assumption⟩
        case round =>
          obtain ⟨k, hk, rfl, rfl, A2⟩ := hrel
          obtain ⟨wo, ho⟩ : ∃ wo, wo = wr := ⟨_, rfl⟩
          subst ho
          by_cases hlt : k < l.length
          · have hkl : (k < ws.length) = True := eq_true (by have := HM.out; omega)
            have hkl2 : ((k : Int) < (ws.length : Int)) = True := eq_true (by have := HM.out; omega)
            obtain ⟨ad, rfl, _, _⟩ := (hv.below A2.2 (Nat.le_refl _)).at_ hlt
            have hft := foldB_take l k hlt
            have hcell0 : ∀ W, At w W → W.cell? (ad.add k) = some (.int .u64 ((l[k] : Nat) : Int)) := fun W hW => by
              obtain ⟨ad', e, _, hc0⟩ := (hv.below hW.2 (Nat.le_refl _)).at_ hlt
              injection e with e
              subst e
              exact hc0
            generalize l[k] = z at *
            have HC := Lib.hid hcell0
            have HFT := Lib.hid hft
            have hmk := make8
            have hsz := A2.2.size
            have A3 : At w (wo.alloc (.cells (List.replicate 8 (.int .u8 0)).toArray 5)) := A2.alloc _
            have R0 : RowAt (wo.alloc (.cells (List.replicate 8 (.int .u8 0)).toArray 5)) wo.heap.size 5 (List.replicate 8 (.int .u8 0)) := by simpa using RowAt.new wo 5 (List.replicate 8 (.int .u8 0)).toArray
            clear hft hcell0
            generalize hM : (List.replicate 8 (Value.int .u8 0)).toArray = M at *
            clear hM
            go_wp2_with fail
            go_loopw [16] (fun j wr => ∃ i : Nat, i ≤ 8 ∧ j = .int .i64 i ∧ RowAt wr wo.heap.size 5 (byteVals (leBytes z i) ++ List.replicate (8 - i) (.int .u8 0)) ∧ At w wr) (fun j _ => 8 - (intOf j).toNat)
            case atStart => exact ⟨0, Nat.zero_le _, rfl, by simpa [byteVals, leBytes] using R0, A3⟩
            case round =>
              obtain ⟨i, hi, rfl, hrow, A4⟩ := hrel
              clear R0 A3
              by_cases hlt8 : i < 8
              · have hc0 := HC.out wr A4
                have hc1 : wr.cell? ⟨wo.heap.size, i, none⟩ = some (.int .u8 0) := by rw [hrow.cell, put_cell z 8 i hlt8]
                have hf1 := hrow.frozen i
                have R1 := hrow.set i (.int .u8 (((z : Int) / 2 ^ (8 * i)).tmod 256 % 256))
                rw [show (((z : Int) / 2 ^ (8 * i)).tmod 256 % 256) = ((z : Int) / 2 ^ (8 * i) % 256) by rw [refput_val, refput_byte], put_step z 8 i hlt8, ← show (((z : Int) / 2 ^ (8 * i)).tmod 256 % 256) = ((z : Int) / 2 ^ (8 * i) % 256) by rw [refput_val, refput_byte]] at R1
                have A5 : At w (wr.setCell ⟨wo.heap.size, i, none⟩ (.int .u8 (((z : Int) / 2 ^ (8 * i)).tmod 256 % 256))) := at_below hT (A4.2.setCell (p := ⟨wo.heap.size, i, none⟩) hsz _)
                clear hrow A4
                go_wp2_with fail
                go_roundw
                case rel => exact ⟨i + 1, by omega, by go_num, R1, A5⟩
                case measure => simp [intOf]; omega
              · obtain rfl : i = 8 := by omega
                have hcv := back8 wr wo.heap.size z (by simpa using hrow)
                have cM : ∀ W, At w W → Calls Tryd.prog 9 #[.int .u64 (foldB (l.take k)), .string ⟨(leBytes z 8).toArray⟩] W fun e w' => e = .returned (.int .u64 (foldB (l.take (k + 1)))) ∧ At w w' := fun W hA => at_more (foldB (l.take k)) ⟨(leBytes z 8).toArray⟩ _ HFT.out (foldB_lt _) (by rw [size_le, leBytes_length]; decide) hA
                clear hrow
                go_wp2_with (with_reducible refine (cM _ (by assumption)).mono ?_; rintro e w1 ⟨rfl, A1⟩)
                go_roundw
                case rel => exact ⟨k + 1, by omega, by go_num, rfl, by assumption⟩
                case measure => simp [intOf]; omega
          · have hkl : (k < ws.length) = False := eq_false (by have := HM.out; omega)
            have hkl2 : ((k : Int) < (ws.length : Int)) = False := eq_false (by have := HM.out; omega)
            have hF2 : foldB (l.take k) = F := by rw [List.take_of_length_le (by omega)]; exact HF.out
            go_wp2_with (with_reducible refine (c11 _ (by assumption)).mono ?_; rintro e w1 ⟨rfl, A1⟩)
            go_ret
            exact ⟨rfl, by assumption⟩
  · rcases way2 with ⟨z2, e2⟩ | ⟨z2, e2⟩
    · rcases way3 with ⟨z3, e3⟩ | ⟨z3, e3⟩
      · obtain rfl := e3
        subst e1
        go_enter Tryd.func5, Tryd.ntmps5
        go_wp2_with (first
          | (with_reducible refine (at_awake (by assumption)).mono ?_; rintro e w1 ⟨rfl, A1⟩)
          | (with_reducible refine (c1 _ (by assumption)).mono ?_; rintro e w1 ⟨rfl, A1⟩)
          | (with_reducible refine (c2 _ (by assumption)).mono ?_; rintro e w1 ⟨rfl, A1⟩)
          | (with_reducible refine (c3 _ (by assumption)).mono ?_; rintro e w1 ⟨rfl, A1⟩)
          | (with_reducible refine (c4 _ (by assumption)).mono ?_; rintro e w1 ⟨rfl, A1⟩)
          | (with_reducible refine (c5 _ (by assumption)).mono ?_; rintro e w1 ⟨rfl, A1⟩)
          | (with_reducible refine (c6 _ (by assumption)).mono ?_; rintro e w1 ⟨rfl, A1⟩)
          | (with_reducible refine (c7 _ (by assumption)).mono ?_; rintro e w1 ⟨rfl, A1⟩)
          | (with_reducible refine (c8 _ (by assumption)).mono ?_; rintro e w1 ⟨rfl, A1⟩)
          | (with_reducible refine (c9 _ (by assumption)).mono ?_; rintro e w1 ⟨rfl, A1⟩)
          | (with_reducible refine (c10 _ (by assumption)).mono ?_; rintro e w1 ⟨rfl, A1⟩)
          | (with_reducible refine (c11 _ (by assumption)).mono ?_; rintro e w1 ⟨rfl, A1⟩))
        all_goals (try (exfalso; first | (have := of_eq_false z1; omega) | (have := of_eq_true z2; omega) | (have := of_eq_true z3; omega)))
        go_loopw [13, 14] (fun g i wr => ∃ k : Nat, k ≤ l.length ∧ i = .int .i64 k ∧ g = .int .u64 (foldB (l.take k)) ∧ At w wr) (fun _ i _ => l.length - (intOf i).toNat)
        case atStart => exact ⟨0, Nat.zero_le _, rfl, rfl, by assumption⟩
        case round =>
          obtain ⟨k, hk, rfl, rfl, A2⟩ := hrel
          obtain ⟨wo, ho⟩ : ∃ wo, wo = wr := ⟨_, rfl⟩
          subst ho
          by_cases hlt : k < l.length
          · have hkl : (k < 20) = True := eq_true (by have := HM.out; omega)
            have hkl2 : ((k : Int) < (20 : Int)) = True := eq_true (by have := HM.out; omega)
            obtain ⟨ad, rfl, _, _⟩ := (hv.below A2.2 (Nat.le_refl _)).at_ hlt
            have hft := foldB_take l k hlt
            have hcell0 : ∀ W, At w W → W.cell? (ad.add k) = some (.int .u64 ((l[k] : Nat) : Int)) := fun W hW => by
              obtain ⟨ad', e, _, hc0⟩ := (hv.below hW.2 (Nat.le_refl _)).at_ hlt
              injection e with e
              subst e
              exact hc0
            generalize l[k] = z at *
            have HC := Lib.hid hcell0
            have HFT := Lib.hid hft
            have hmk := make8
            have hsz := A2.2.size
            have A3 : At w (wo.alloc (.cells (List.replicate 8 (.int .u8 0)).toArray 5)) := A2.alloc _
            have R0 : RowAt (wo.alloc (.cells (List.replicate 8 (.int .u8 0)).toArray 5)) wo.heap.size 5 (List.replicate 8 (.int .u8 0)) := by simpa using RowAt.new wo 5 (List.replicate 8 (.int .u8 0)).toArray
            clear hft hcell0
            generalize hM : (List.replicate 8 (Value.int .u8 0)).toArray = M at *
            clear hM
            go_wp2_with fail
            go_loopw [16] (fun j wr => ∃ i : Nat, i ≤ 8 ∧ j = .int .i64 i ∧ RowAt wr wo.heap.size 5 (byteVals (leBytes z i) ++ List.replicate (8 - i) (.int .u8 0)) ∧ At w wr) (fun j _ => 8 - (intOf j).toNat)
            case atStart => exact ⟨0, Nat.zero_le _, rfl, by simpa [byteVals, leBytes] using R0, A3⟩
            case round =>
              obtain ⟨i, hi, rfl, hrow, A4⟩ := hrel
              clear R0 A3
              by_cases hlt8 : i < 8
              · have hc0 := HC.out wr A4
                have hc1 : wr.cell? ⟨wo.heap.size, i, none⟩ = some (.int .u8 0) := by rw [hrow.cell, put_cell z 8 i hlt8]
                have hf1 := hrow.frozen i
                have R1 := hrow.set i (.int .u8 (((z : Int) / 2 ^ (8 * i)).tmod 256 % 256))
                rw [show (((z : Int) / 2 ^ (8 * i)).tmod 256 % 256) = ((z : Int) / 2 ^ (8 * i) % 256) by rw [refput_val, refput_byte], put_step z 8 i hlt8, ← show (((z : Int) / 2 ^ (8 * i)).tmod 256 % 256) = ((z : Int) / 2 ^ (8 * i) % 256) by rw [refput_val, refput_byte]] at R1
                have A5 : At w (wr.setCell ⟨wo.heap.size, i, none⟩ (.int .u8 (((z : Int) / 2 ^ (8 * i)).tmod 256 % 256))) := at_below hT (A4.2.setCell (p := ⟨wo.heap.size, i, none⟩) hsz _)
                clear hrow A4
                go_wp2_with fail
                go_roundw
                case rel => exact ⟨i + 1, by omega, by go_num, R1, A5⟩
                case measure => simp [intOf]; omega
              · obtain rfl : i = 8 := by omega
                have hcv := back8 wr wo.heap.size z (by simpa using hrow)
                have cM : ∀ W, At w W → Calls Tryd.prog 9 #[.int .u64 (foldB (l.take k)), .string ⟨(leBytes z 8).toArray⟩] W fun e w' => e = .returned (.int .u64 (foldB (l.take (k + 1)))) ∧ At w w' := fun W hA => at_more (foldB (l.take k)) ⟨(leBytes z 8).toArray⟩ _ HFT.out (foldB_lt _) (by rw [size_le, leBytes_length]; decide) hA
                clear hrow
                go_wp2_with (with_reducible refine (cM _ (by assumption)).mono ?_; rintro e w1 ⟨rfl, A1⟩)
                go_roundw
                case rel => exact ⟨k + 1, by omega, by go_num, rfl, by assumption⟩
                case measure => simp [intOf]; omega
          · have hkl : (k < 20) = False := eq_false (by have := HM.out; omega)
            have hkl2 : ((k : Int) < (20 : Int)) = False := eq_false (by have := HM.out; omega)
            have hF2 : foldB (l.take k) = F := by rw [List.take_of_length_le (by omega)]; exact HF.out
            go_wp2_with (with_reducible refine (c11 _ (by assumption)).mono ?_; rintro e w1 ⟨rfl, A1⟩)
            go_ret
            exact ⟨rfl, by assumption⟩
      · subst e3
        subst e1
        go_enter Tryd.func5, Tryd.ntmps5
        go_wp2_with (first
          | (with_reducible refine (at_awake (by assumption)).mono ?_; rintro e w1 ⟨rfl, A1⟩)
          | (with_reducible refine (c1 _ (by assumption)).mono ?_; rintro e w1 ⟨rfl, A1⟩)
          | (with_reducible refine (c2 _ (by assumption)).mono ?_; rintro e w1 ⟨rfl, A1⟩)
          | (with_reducible refine (c3 _ (by assumption)).mono ?_; rintro e w1 ⟨rfl, A1⟩)
          | (with_reducible refine (c4 _ (by assumption)).mono ?_; rintro e w1 ⟨rfl, A1⟩)
          | (with_reducible refine (c5 _ (by assumption)).mono ?_; rintro e w1 ⟨rfl, A1⟩)
          | (with_reducible refine (c6 _ (by assumption)).mono ?_; rintro e w1 ⟨rfl, A1⟩)
          | (with_reducible refine (c7 _ (by assumption)).mono ?_; rintro e w1 ⟨rfl, A1⟩)
          | (with_reducible refine (c8 _ (by assumption)).mono ?_; rintro e w1 ⟨rfl, A1⟩)
          | (with_reducible refine (c9 _ (by assumption)).mono ?_; rintro e w1 ⟨rfl, A1⟩)
          | (with_reducible refine (c10 _ (by assumption)).mono ?_; rintro e w1 ⟨rfl, A1⟩)
          | (with_reducible refine (c11 _ (by assumption)).mono ?_; rintro e w1 ⟨rfl, A1⟩))
        all_goals (try (exfalso; first | (have := of_eq_false z1; omega) | (have := of_eq_true z2; omega) | (have := of_eq_false z3; omega)))
        go_loopw [13, 14] (fun g i wr => ∃ k : Nat, k ≤ l.length ∧ i = .int .i64 k ∧ g = .int .u64 (foldB (l.take k)) ∧ At w wr) (fun _ i _ => l.length - (intOf i).toNat)
        case atStart => exact ⟨0, Nat.zero_le _, rfl, rfl, by assumption⟩
        case round =>
          obtain ⟨k, hk, rfl, rfl, A2⟩ := hrel
          obtain ⟨wo, ho⟩ : ∃ wo, wo = wr := ⟨_, rfl⟩
          subst ho
          by_cases hlt : k < l.length
          · have hkl : (k < ws.length) = True := eq_true (by have := HM.out; omega)
            have hkl2 : ((k : Int) < (ws.length : Int)) = True := eq_true (by have := HM.out; omega)
            obtain ⟨ad, rfl, _, _⟩ := (hv.below A2.2 (Nat.le_refl _)).at_ hlt
            have hft := foldB_take l k hlt
            have hcell0 : ∀ W, At w W → W.cell? (ad.add k) = some (.int .u64 ((l[k] : Nat) : Int)) := fun W hW => by
              obtain ⟨ad', e, _, hc0⟩ := (hv.below hW.2 (Nat.le_refl _)).at_ hlt
              injection e with e
              subst e
              exact hc0
            generalize l[k] = z at *
            have HC := Lib.hid hcell0
            have HFT := Lib.hid hft
            have hmk := make8
            have hsz := A2.2.size
            have A3 : At w (wo.alloc (.cells (List.replicate 8 (.int .u8 0)).toArray 5)) := A2.alloc _
            have R0 : RowAt (wo.alloc (.cells (List.replicate 8 (.int .u8 0)).toArray 5)) wo.heap.size 5 (List.replicate 8 (.int .u8 0)) := by simpa using RowAt.new wo 5 (List.replicate 8 (.int .u8 0)).toArray
            clear hft hcell0
            generalize hM : (List.replicate 8 (Value.int .u8 0)).toArray = M at *
            clear hM
            go_wp2_with fail
            go_loopw [16] (fun j wr => ∃ i : Nat, i ≤ 8 ∧ j = .int .i64 i ∧ RowAt wr wo.heap.size 5 (byteVals (leBytes z i) ++ List.replicate (8 - i) (.int .u8 0)) ∧ At w wr) (fun j _ => 8 - (intOf j).toNat)
            case atStart => exact ⟨0, Nat.zero_le _, rfl, by simpa [byteVals, leBytes] using R0, A3⟩
            case round =>
              obtain ⟨i, hi, rfl, hrow, A4⟩ := hrel
              clear R0 A3
              by_cases hlt8 : i < 8
              · have hc0 := HC.out wr A4
                have hc1 : wr.cell? ⟨wo.heap.size, i, none⟩ = some (.int .u8 0) := by rw [hrow.cell, put_cell z 8 i hlt8]
                have hf1 := hrow.frozen i
                have R1 := hrow.set i (.int .u8 (((z : Int) / 2 ^ (8 * i)).tmod 256 % 256))
                rw [show (((z : Int) / 2 ^ (8 * i)).tmod 256 % 256) = ((z : Int) / 2 ^ (8 * i) % 256) by rw [refput_val, refput_byte], put_step z 8 i hlt8, ← show (((z : Int) / 2 ^ (8 * i)).tmod 256 % 256) = ((z : Int) / 2 ^ (8 * i) % 256) by rw [refput_val, refput_byte]] at R1
                have A5 : At w (wr.setCell ⟨wo.heap.size, i, none⟩ (.int .u8 (((z : Int) / 2 ^ (8 * i)).tmod 256 % 256))) := at_below hT (A4.2.setCell (p := ⟨wo.heap.size, i, none⟩) hsz _)
                clear hrow A4
                go_wp2_with fail
                go_roundw
                case rel => exact ⟨i + 1, by omega, by go_num, R1, A5⟩
                case measure => simp [intOf]; omega
              · obtain rfl : i = 8 := by omega
                have hcv := back8 wr wo.heap.size z (by simpa using hrow)
                have cM : ∀ W, At w W → Calls Tryd.prog 9 #[.int .u64 (foldB (l.take k)), .string ⟨(leBytes z 8).toArray⟩] W fun e w' => e = .returned (.int .u64 (foldB (l.take (k + 1)))) ∧ At w w' := fun W hA => at_more (foldB (l.take k)) ⟨(leBytes z 8).toArray⟩ _ HFT.out (foldB_lt _) (by rw [size_le, leBytes_length]; decide) hA
                clear hrow
                go_wp2_with (with_reducible refine (cM _ (by assumption)).mono ?_; rintro e w1 ⟨rfl, A1⟩)
                go_roundw
                case rel => exact ⟨k + 1, by omega, by go_num, rfl, by assumption⟩
                case measure => simp [intOf]; omega
          · have hkl : (k < ws.length) = False := eq_false (by have := HM.out; omega)
            have hkl2 : ((k : Int) < (ws.length : Int)) = False := eq_false (by have := HM.out; omega)
            have hF2 : foldB (l.take k) = F := by rw [List.take_of_length_le (by omega)]; exact HF.out
            go_wp2_with (with_reducible refine (c11 _ (by assumption)).mono ?_; rintro e w1 ⟨rfl, A1⟩)
            go_ret
            exact ⟨rfl, by assumption⟩
    · rcases way3 with ⟨z3, e3⟩ | ⟨z3, e3⟩
      · obtain rfl := e3
        subst e1
        subst e2
        go_enter Tryd.func5, Tryd.ntmps5
        go_wp2_with (first
          | (with_reducible refine (at_awake (by assumption)).mono ?_; rintro e w1 ⟨rfl, A1⟩)
          | (with_reducible refine (c1 _ (by assumption)).mono ?_; rintro e w1 ⟨rfl, A1⟩)
          | (with_reducible refine (c2 _ (by assumption)).mono ?_; rintro e w1 ⟨rfl, A1⟩)
          | (with_reducible refine (c3 _ (by assumption)).mono ?_; rintro e w1 ⟨rfl, A1⟩)
          | (with_reducible refine (c4 _ (by assumption)).mono ?_; rintro e w1 ⟨rfl, A1⟩)
          | (with_reducible refine (c5 _ (by assumption)).mono ?_; rintro e w1 ⟨rfl, A1⟩)
          | (with_reducible refine (c6 _ (by assumption)).mono ?_; rintro e w1 ⟨rfl, A1⟩)
          | (with_reducible refine (c7 _ (by assumption)).mono ?_; rintro e w1 ⟨rfl, A1⟩)
          | (with_reducible refine (c8 _ (by assumption)).mono ?_; rintro e w1 ⟨rfl, A1⟩)
          | (with_reducible refine (c9 _ (by assumption)).mono ?_; rintro e w1 ⟨rfl, A1⟩)
          | (with_reducible refine (c10 _ (by assumption)).mono ?_; rintro e w1 ⟨rfl, A1⟩)
          | (with_reducible refine (c11 _ (by assumption)).mono ?_; rintro e w1 ⟨rfl, A1⟩))
        all_goals (try (exfalso; first | (have := of_eq_false z1; omega) | (have := of_eq_false z2; omega) | (have := of_eq_true z3; omega)))
        go_loopw [13, 14] (fun g i wr => ∃ k : Nat, k ≤ l.length ∧ i = .int .i64 k ∧ g = .int .u64 (foldB (l.take k)) ∧ At w wr) (fun _ i _ => l.length - (intOf i).toNat)
        case atStart => exact ⟨0, Nat.zero_le _, rfl, rfl, by assumption⟩
        case round =>
          obtain ⟨k, hk, rfl, rfl, A2⟩ := hrel
          obtain ⟨wo, ho⟩ : ∃ wo, wo = wr := ⟨_, rfl⟩
          subst ho
          by_cases hlt : k < l.length
          · have hkl : (k < 20) = True := eq_true (by have := HM.out; omega)
            have hkl2 : ((k : Int) < (20 : Int)) = True := eq_true (by have := HM.out; omega)
            obtain ⟨ad, rfl, _, _⟩ := (hv.below A2.2 (Nat.le_refl _)).at_ hlt
            have hft := foldB_take l k hlt
            have hcell0 : ∀ W, At w W → W.cell? (ad.add k) = some (.int .u64 ((l[k] : Nat) : Int)) := fun W hW => by
              obtain ⟨ad', e, _, hc0⟩ := (hv.below hW.2 (Nat.le_refl _)).at_ hlt
              injection e with e
              subst e
              exact hc0
            generalize l[k] = z at *
            have HC := Lib.hid hcell0
            have HFT := Lib.hid hft
            have hmk := make8
            have hsz := A2.2.size
            have A3 : At w (wo.alloc (.cells (List.replicate 8 (.int .u8 0)).toArray 5)) := A2.alloc _
            have R0 : RowAt (wo.alloc (.cells (List.replicate 8 (.int .u8 0)).toArray 5)) wo.heap.size 5 (List.replicate 8 (.int .u8 0)) := by simpa using RowAt.new wo 5 (List.replicate 8 (.int .u8 0)).toArray
            clear hft hcell0
            generalize hM : (List.replicate 8 (Value.int .u8 0)).toArray = M at *
            clear hM
            go_wp2_with fail
            go_loopw [16] (fun j wr => ∃ i : Nat, i ≤ 8 ∧ j = .int .i64 i ∧ RowAt wr wo.heap.size 5 (byteVals (leBytes z i) ++ List.replicate (8 - i) (.int .u8 0)) ∧ At w wr) (fun j _ => 8 - (intOf j).toNat)
            case atStart => exact ⟨0, Nat.zero_le _, rfl, by simpa [byteVals, leBytes] using R0, A3⟩
            case round =>
              obtain ⟨i, hi, rfl, hrow, A4⟩ := hrel
              clear R0 A3
              by_cases hlt8 : i < 8
              · have hc0 := HC.out wr A4
                have hc1 : wr.cell? ⟨wo.heap.size, i, none⟩ = some (.int .u8 0) := by rw [hrow.cell, put_cell z 8 i hlt8]
                have hf1 := hrow.frozen i
                have R1 := hrow.set i (.int .u8 (((z : Int) / 2 ^ (8 * i)).tmod 256 % 256))
                rw [show (((z : Int) / 2 ^ (8 * i)).tmod 256 % 256) = ((z : Int) / 2 ^ (8 * i) % 256) by rw [refput_val, refput_byte], put_step z 8 i hlt8, ← show (((z : Int) / 2 ^ (8 * i)).tmod 256 % 256) = ((z : Int) / 2 ^ (8 * i) % 256) by rw [refput_val, refput_byte]] at R1
                have A5 : At w (wr.setCell ⟨wo.heap.size, i, none⟩ (.int .u8 (((z : Int) / 2 ^ (8 * i)).tmod 256 % 256))) := at_below hT (A4.2.setCell (p := ⟨wo.heap.size, i, none⟩) hsz _)
                clear hrow A4
                go_wp2_with fail
                go_roundw
                case rel => exact ⟨i + 1, by omega, by go_num, R1, A5⟩
                case measure => simp [intOf]; omega
              · obtain rfl : i = 8 := by omega
                have hcv := back8 wr wo.heap.size z (by simpa using hrow)
                have cM : ∀ W, At w W → Calls Tryd.prog 9 #[.int .u64 (foldB (l.take k)), .string ⟨(leBytes z 8).toArray⟩] W fun e w' => e = .returned (.int .u64 (foldB (l.take (k + 1)))) ∧ At w w' := fun W hA => at_more (foldB (l.take k)) ⟨(leBytes z 8).toArray⟩ _ HFT.out (foldB_lt _) (by rw [size_le, leBytes_length]; decide) hA
                clear hrow
                go_wp2_with (with_reducible refine (cM _ (by assumption)).mono ?_; rintro e w1 ⟨rfl, A1⟩)
                go_roundw
                case rel => exact ⟨k + 1, by omega, by go_num, rfl, by assumption⟩
                case measure => simp [intOf]; omega
          · have hkl : (k < 20) = False := eq_false (by have := HM.out; omega)
            have hkl2 : ((k : Int) < (20 : Int)) = False := eq_false (by have := HM.out; omega)
            have hF2 : foldB (l.take k) = F := by rw [List.take_of_length_le (by omega)]; exact HF.out
            go_wp2_with (with_reducible refine (c11 _ (by assumption)).mono ?_; rintro e w1 ⟨rfl, A1⟩)
            go_ret
            exact ⟨rfl, by assumption⟩
      · subst e3
        subst e1
        subst e2
        go_enter Tryd.func5, Tryd.ntmps5
        go_wp2_with (first
          | (with_reducible refine (at_awake (by assumption)).mono ?_; rintro e w1 ⟨rfl, A1⟩)
          | (with_reducible refine (c1 _ (by assumption)).mono ?_; rintro e w1 ⟨rfl, A1⟩)
          | (with_reducible refine (c2 _ (by assumption)).mono ?_; rintro e w1 ⟨rfl, A1⟩)
          | (with_reducible refine (c3 _ (by assumption)).mono ?_; rintro e w1 ⟨rfl, A1⟩)
          | (with_reducible refine (c4 _ (by assumption)).mono ?_; rintro e w1 ⟨rfl, A1⟩)
          | (with_reducible refine (c5 _ (by assumption)).mono ?_; rintro e w1 ⟨rfl, A1⟩)
          | (with_reducible refine (c6 _ (by assumption)).mono ?_; rintro e w1 ⟨rfl, A1⟩)
          | (with_reducible refine (c7 _ (by assumption)).mono ?_; rintro e w1 ⟨rfl, A1⟩)
          | (with_reducible refine (c8 _ (by assumption)).mono ?_; rintro e w1 ⟨rfl, A1⟩)
          | (with_reducible refine (c9 _ (by assumption)).mono ?_; rintro e w1 ⟨rfl, A1⟩)
          | (with_reducible refine (c10 _ (by assumption)).mono ?_; rintro e w1 ⟨rfl, A1⟩)
          | (with_reducible refine (c11 _ (by assumption)).mono ?_; rintro e w1 ⟨rfl, A1⟩))
        all_goals (try (exfalso; first | (have := of_eq_false z1; omega) | (have := of_eq_false z2; omega) | (have := of_eq_false z3; omega)))
        go_loopw [13, 14] (fun g i wr => ∃ k : Nat, k ≤ l.length ∧ i = .int .i64 k ∧ g = .int .u64 (foldB (l.take k)) ∧ At w wr) (fun _ i _ => l.length - (intOf i).toNat)
        case atStart => exact ⟨0, Nat.zero_le _, rfl, rfl, by assumption⟩
        case round =>
          obtain ⟨k, hk, rfl, rfl, A2⟩ := hrel
          obtain ⟨wo, ho⟩ : ∃ wo, wo = wr := ⟨_, rfl⟩
          subst ho
          by_cases hlt : k < l.length
          · have hkl : (k < ws.length) = True := eq_true (by have := HM.out; omega)
            have hkl2 : ((k : Int) < (ws.length : Int)) = True := eq_true (by have := HM.out; omega)
            obtain ⟨ad, rfl, _, _⟩ := (hv.below A2.2 (Nat.le_refl _)).at_ hlt
            have hft := foldB_take l k hlt
            have hcell0 : ∀ W, At w W → W.cell? (ad.add k) = some (.int .u64 ((l[k] : Nat) : Int)) := fun W hW => by
              obtain ⟨ad', e, _, hc0⟩ := (hv.below hW.2 (Nat.le_refl _)).at_ hlt
              injection e with e
              subst e
              exact hc0
            generalize l[k] = z at *
            have HC := Lib.hid hcell0
            have HFT := Lib.hid hft
            have hmk := make8
            have hsz := A2.2.size
            have A3 : At w (wo.alloc (.cells (List.replicate 8 (.int .u8 0)).toArray 5)) := A2.alloc _
            have R0 : RowAt (wo.alloc (.cells (List.replicate 8 (.int .u8 0)).toArray 5)) wo.heap.size 5 (List.replicate 8 (.int .u8 0)) := by simpa using RowAt.new wo 5 (List.replicate 8 (.int .u8 0)).toArray
            clear hft hcell0
            generalize hM : (List.replicate 8 (Value.int .u8 0)).toArray = M at *
            clear hM
            go_wp2_with fail
            go_loopw [16] (fun j wr => ∃ i : Nat, i ≤ 8 ∧ j = .int .i64 i ∧ RowAt wr wo.heap.size 5 (byteVals (leBytes z i) ++ List.replicate (8 - i) (.int .u8 0)) ∧ At w wr) (fun j _ => 8 - (intOf j).toNat)
            case atStart => exact ⟨0, Nat.zero_le _, rfl, by simpa [byteVals, leBytes] using R0, A3⟩
            case round =>
              obtain ⟨i, hi, rfl, hrow, A4⟩ := hrel
              clear R0 A3
              by_cases hlt8 : i < 8
              · have hc0 := HC.out wr A4
                have hc1 : wr.cell? ⟨wo.heap.size, i, none⟩ = some (.int .u8 0) := by rw [hrow.cell, put_cell z 8 i hlt8]
                have hf1 := hrow.frozen i
                have R1 := hrow.set i (.int .u8 (((z : Int) / 2 ^ (8 * i)).tmod 256 % 256))
                rw [show (((z : Int) / 2 ^ (8 * i)).tmod 256 % 256) = ((z : Int) / 2 ^ (8 * i) % 256) by rw [refput_val, refput_byte], put_step z 8 i hlt8, ← show (((z : Int) / 2 ^ (8 * i)).tmod 256 % 256) = ((z : Int) / 2 ^ (8 * i) % 256) by rw [refput_val, refput_byte]] at R1
                have A5 : At w (wr.setCell ⟨wo.heap.size, i, none⟩ (.int .u8 (((z : Int) / 2 ^ (8 * i)).tmod 256 % 256))) := at_below hT (A4.2.setCell (p := ⟨wo.heap.size, i, none⟩) hsz _)
                clear hrow A4
                go_wp2_with fail
                go_roundw
                case rel => exact ⟨i + 1, by omega, by go_num, R1, A5⟩
                case measure => simp [intOf]; omega
              · obtain rfl : i = 8 := by omega
                have hcv := back8 wr wo.heap.size z (by simpa using hrow)
                have cM : ∀ W, At w W → Calls Tryd.prog 9 #[.int .u64 (foldB (l.take k)), .string ⟨(leBytes z 8).toArray⟩] W fun e w' => e = .returned (.int .u64 (foldB (l.take (k + 1)))) ∧ At w w' := fun W hA => at_more (foldB (l.take k)) ⟨(leBytes z 8).toArray⟩ _ HFT.out (foldB_lt _) (by rw [size_le, leBytes_length]; decide) hA
                clear hrow
                go_wp2_with (with_reducible refine (cM _ (by assumption)).mono ?_; rintro e w1 ⟨rfl, A1⟩)
                go_roundw
                case rel => exact ⟨k + 1, by omega, by go_num, rfl, by assumption⟩
                case measure => simp [intOf]; omega
          · have hkl : (k < ws.length) = False := eq_false (by have := HM.out; omega)
            have hkl2 : ((k : Int) < (ws.length : Int)) = False := eq_false (by have := HM.out; omega)
            have hF2 : foldB (l.take k) = F := by rw [List.take_of_length_le (by omega)]; exact HF.out
            go_wp2_with (with_reducible refine (c11 _ (by assumption)).mono ?_; rintro e w1 ⟨rfl, A1⟩)
            go_ret
            exact ⟨rfl, by assumption⟩

theorem cparts_calls (a0 : Int) (w0 : (Lit.int .u64 a0).wf = true) (a1 : ByteArray) (w1 : a1.size ≤ maxLen) (a2 : ByteArray) (w2 : a2.size ≤ maxLen) (ws : List Nat) (v : Value) {w : World} (hv : Words w w.heap.size v ws) (hf : Fits64 ws) (hl : ws.length ≤ maxLen) (hT : Tab w) :
    Calls Tryd.prog 5 #[.int .u64 a0, .string a1, .string a2, v] w fun e w' => e = .returned (.bool true) ∧ Below w.heap.size w w' := by
  obtain ⟨h, rfl, hh⟩ := u64_of_wf w0
  obtain ⟨A, c, rfl, hc⟩ := hv.form
  obtain ⟨l, m, cw, _⟩ := words_cut 20 hv hf
  obtain ⟨x, hx, way⟩ := cut_way a1 100
  obtain ⟨y, hy, way2⟩ := cut_way a2 100
  refine Calls.mono (?_ : Calls _ _ _ _ fun e w' => e = .returned (.bool true) ∧ At w w') fun e w' ⟨he, hA⟩ => ⟨he, hA.2⟩
  exact parts_way h a1 a2 x y ws l A c m w hh w1 w2 hx hy hc hl cw hT _ _ _ _ _ _ _ rfl rfl rfl rfl rfl rfl rfl way way2
end Go.Proofs.YtkbihgflfldllaaDoor
