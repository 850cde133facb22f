/- Layer 13, the program: Has, Prune, Of. -/
import Derived.Test.YtcamhaeelkjigaaSenX
namespace Go.Proofs.Ytcamhaeelkjigaa
open Go.RowKit

set_option maxHeartbeats 1000000 in
theorem sHas_any (v : Value) (l : List Mk) (q1 q2 q3 : Int) (w : World) (hv : Mks w w.heap.size v l) (h9 : l.length ≤ 1000000) :
    Calls Try.prog 15 #[v, .agg #[.int .i64 q1, .int .i64 q2, .int .i64 q3]] w fun e w' => e = .returned (.bool (hasMB l (q1, q2, q3))) ∧ Below w.heap.size w w' := by
  obtain ⟨A, c, rfl, hc⟩ := hv.form
  have hA := (Below.refl w.heap.size w).alloc (Nat.le_refl _) (.cells #[.int .i64 q1, .int .i64 q2, .int .i64 q3] 25)
  have q8 := RowAt.new w 25 #[.int .i64 q1, .int .i64 q2, .int .i64 q3]
  have cR := fun W (h : Mks W W.heap.size (.slice A l.length c) l) => sRight_any _ l W h (by unfold maxLen; omega)
  have hv2 := hv.on hA
  go_enter Try.func15, Try.ntmps15
  go_upto_region 1 with (fail)
  generalize w.alloc (.cells #[.int .i64 q1, .int .i64 q2, .int .i64 q3] 25) = w1 at *
  go_wp2_with fail
  with_reducible refine (cR _ hv2).mono ?_
  rintro e w2 ⟨rfl, hb2⟩
  replace q8 := q8.on hb2
  replace hv2 := hv2.on hb2
  replace hA := hA.trans (hb2.mono hA.size)
  clear hb2 cR hv
  cases hr : rightMB l
  · have HF := Lib.hid (show hasMB l (q1, q2, q3) = false from decide_eq_false fun h' => absurd h'.1 (of_decide_eq_false hr))
    clear hr
    go_wp2_with fail
    go_ret
    exact ⟨by rw [HF.out]; rfl, hA⟩
  · have hR : RightM l := of_decide_eq_true hr
    have HF := Lib.hid (show hasMB l (q1, q2, q3) = decide ((q1, q2, q3) ∈ l) from by
      show decide (RightM l ∧ (q1, q2, q3) ∈ l) = _
      rw [decide_eq_decide]
      exact ⟨fun h => h.2, fun h => ⟨hR, h⟩⟩)
    have cP := splace_any _ l q1 q2 q3 w2 hv2 h9 hR
    obtain ⟨f0, f1, f2⟩ : w2.cell? ⟨w.heap.size, 0, none⟩ = some (.int .i64 q1) ∧ w2.cell? ⟨w.heap.size, 1, none⟩ = some (.int .i64 q2) ∧ w2.cell? ⟨w.heap.size, 2, none⟩ = some (.int .i64 q3) := ⟨q8.cell 0, q8.cell 1, q8.cell 2⟩
    clear hr hR q8 hv2
    generalize decide ((q1, q2, q3) ∈ l) = bb at *
    go_wp2_with fail
    with_reducible refine cP.mono ?_
    rintro e w3 ⟨k, rfl, _, hb3⟩
    go_wp2_with fail
    go_ret
    exact ⟨by rw [HF.out]; rfl, hA.trans (hb3.mono hA.size)⟩

set_option maxHeartbeats 1000000 in
set_option maxRecDepth 100000 in
theorem sPrune_any (v : Value) (l : List Mk) (e : Int) (w : World) (hv : Mks w w.heap.size v l) (h9 : l.length ≤ 1000000) (L : List Mk) (hL : pruneR e l = L) :
    Calls Try.prog 17 #[v, .int .i64 e] w fun o w' => ∃ A c, o = .returned (.slice A L.length c) ∧ Mks w' w'.heap.size (.slice A L.length c) L ∧ FromOn w.heap.size (.slice A L.length c) ∧ Below w.heap.size w w' := by
  obtain ⟨A, c, rfl, hc⟩ := hv.form
  have cR := fun W (h : Mks W W.heap.size (.slice A l.length c) l) => sRight_any _ l W h (by unfold maxLen; omega)
  unfold pruneR at hL
  cases hr : rightMB l
  · rw [hr] at hL cR
    obtain rfl : [] = L := hL
    clear hr
    go_enter Try.func17, Try.ntmps17
    go_wp2_with fail
    with_reducible refine (cR _ hv).mono ?_
    rintro o w2 ⟨rfl, b2⟩
    go_wp2_with fail
    go_ret
    exact ⟨none, 0, rfl, Mks.nil _ _, (fun ad n c' h => by cases h), b2⟩
  · rw [hr] at hL cR
    obtain rfl : pruneM e l = L := hL
    have hR : RightM l := of_decide_eq_true hr
    have HR := Lib.hid hR
    clear hr hR
    go_enter Try.func17, Try.ntmps17
    go_wp2_with fail
    with_reducible refine (cR _ hv).mono ?_
    rintro o w2 ⟨rfl, b2⟩
    replace hv := hv.on b2
    clear cR
    have cP := splace_any _ l e 0 0 w2 hv h9 HR.out
    generalize decide ((e, (0 : Int), (0 : Int)) ∈ l) = bb at *
    go_wp2_with fail
    with_reducible refine cP.mono ?_
    rintro o w3 ⟨k, rfl, hP, b3⟩
    replace hv := hv.on b3
    have hb := b2.trans (b3.mono b2.size)
    have HE := Lib.hid (hP.prune HR.out)
    have hk := hP.le
    clear cP b2 b3 hP
    cases A with
    | none =>
      obtain ⟨A', c', hv', hc', hz'⟩ := hv
      cases hv'
      obtain rfl := hc'.2 rfl
      have h0 : l.length = 0 := by omega
      obtain rfl : l = [] := List.eq_nil_of_length_eq_zero h0
      obtain rfl : k = 0 := by simpa using hk
      have cC := sClone_any _ [] w3 (Mks.nil w3 _) (by decide)
      go_wp2_with fail
      with_reducible refine cC.mono ?_
      rintro o w4 ⟨A', c', rfl, hm, hf, b4⟩
      go_wp2_with fail
      go_ret
      rw [HE.out]
      exact ⟨A', c', rfl, hm, hf.less hb.size, hb.trans (b4.mono hb.size)⟩
    | some ad =>
      by_cases hkc : k = c
      · obtain rfl : k = l.length := by omega
        subst hkc
        have hm0 : Mks w3 w3.heap.size (.slice (some ad) 0 0) [] := ⟨some ad, 0, rfl, ⟨Nat.le_refl _, fun h => by cases h⟩, fun h => absurd h (by simp)⟩
        have cC := sClone_any _ [] w3 hm0 (by decide)
        have HE2 := Lib.hid (HE.out.trans (List.drop_length))
        clear HE hk hc hv hm0
        go_wp2_with fail
        with_reducible refine cC.mono ?_
        rintro o w4 ⟨A', c', rfl, hm, hf, b4⟩
        go_wp2_with fail
        go_ret
        rw [HE2.out]
        exact ⟨A', c', rfl, hm, hf.less hb.size, hb.trans (b4.mono hb.size)⟩
      · have cC := sClone_any _ (l.drop k) w3 (hv.restM k hk) (by rw [List.length_drop]; omega)
        have HN := Lib.hid hkc
        clear hkc
        go_wp2_with fail
        all_goals try (exact absurd (Eq.symm ‹c = k›) HN.out)
        with_reducible refine cC.mono ?_
        rintro o w4 ⟨A', c', rfl, hm, hf, b4⟩
        go_wp2_with fail
        go_ret
        rw [HE.out]
        exact ⟨A', c', by rw [List.length_drop]; rfl, hm, hf.less hb.size, hb.trans (b4.mono hb.size)⟩

set_option maxHeartbeats 1000000 in
set_option maxRecDepth 100000 in
theorem sOf_any (v : Value) (l : List Mk) (e kd : Int) (w : World) (hv : Mks w w.heap.size v l) (h9 : l.length ≤ 1000000) (L : List Int) (hL : ofR e kd l = L) :
    Calls Try.prog 20 #[v, .int .i64 e, .int .i64 kd] w fun o w' => ∃ A c, o = .returned (.slice A L.length c) ∧ Ints w' w'.heap.size (.slice A L.length c) L ∧ FromOn w.heap.size (.slice A L.length c) ∧ Below w.heap.size w w' := by
  obtain ⟨A, c, rfl, hc⟩ := hv.form
  have cR := fun W (h : Mks W W.heap.size (.slice A l.length c) l) => sRight_any _ l W h (by unfold maxLen; omega)
  obtain ⟨i0, hi0, hz0, hz1, hz2⟩ := info_partsM info_intM
  unfold ofR at hL
  generalize rightMB l = rb at *
  cases rb
  · obtain rfl : [] = L := hL
    go_enter Try.func20, Try.ntmps20
    go_wp2_with fail
    with_reducible refine (cR _ hv).mono ?_
    rintro o w2 ⟨rfl, b2⟩
    go_wp2_with fail
    go_ret
    exact ⟨none, 0, rfl, Elems.nil _ _ _, (fun ad n c' h => by cases h), b2⟩
  · obtain rfl : ofM e kd l = L := hL
    go_enter Try.func20, Try.ntmps20
    go_wp2_with fail
    with_reducible refine (cR _ hv).mono ?_
    rintro o w2 ⟨rfl, b2⟩
    replace hv := hv.on b2
    clear cR
    have hw := b2.size
    go_wp2_with fail
    go_loopw [7, 15] (fun u iv wr => ∃ k : Nat, k ≤ l.length ∧ iv = .int .i64 k ∧ wr.ownsRow w2.heap.size 3 1 u (ofM e kd (l.take k)).length ((ofM e kd (l.take k)).map (Value.int .i64)) ∧ Below w2.heap.size w2 wr) (fun _ iv _ => l.length - (intOf iv).toNat)
    case atStart => exact ⟨0, Nat.zero_le _, rfl, World.ownsRow_nil _ _ _ _, Below.refl _ _⟩
    case round =>
      obtain ⟨k, hk, rfl, hown, hb⟩ := hrel
      by_cases hlt : k < l.length
      · have g1 : ((k : Int) < (l.length : Int)) = True := eq_true (by omega)
        have g2 : (k < l.length) = True := eq_true hlt
        obtain ⟨ad, rfl, _, e1, e2, e3⟩ := (hv.below hb (Nat.le_refl _)).at_ hlt
        have HS := Lib.hid (of_snoc e kd l k hlt)
        have hPl : (ofM e kd (l.take k)).length ≤ k := Nat.le_trans (ofM_len _ _ _) (by rw [List.length_take]; omega)
        generalize ofM e kd (l.take k) = P at *
        generalize l[k] = p at *
        obtain ⟨p1, p2, p3⟩ := p
        simp only at e1 e2 e3
        go_upto_region 7 with (fail)
        have q8 := RowAt.new wr 25 #[.int .i64 p1, .int .i64 p2, .int .i64 p3]
        replace hb := hb.alloc hb.size (.cells #[.int .i64 p1, .int .i64 p2, .int .i64 p3] 25)
        replace hown := hown.alloc (.cells #[.int .i64 p1, .int .i64 p2, .int .i64 p3] 25)
        generalize wr.heap.size = gM at *
        generalize wr.alloc (.cells #[.int .i64 p1, .int .i64 p2, .int .i64 p3] 25) = w4 at *
        obtain ⟨f0, f1, f2⟩ : w4.cell? ⟨gM, 0, none⟩ = some (.int .i64 p1) ∧ w4.cell? ⟨gM, 1, none⟩ = some (.int .i64 p2) ∧ w4.cell? ⟨gM, 2, none⟩ = some (.int .i64 p3) := ⟨q8.cell 0, q8.cell 1, q8.cell 2⟩
        have hwr := hb.size
        clear e1 e2 e3
        by_cases h1 : p1 = e
        · subst h1
          by_cases h2 : p2 = kd
          · subst h2
            have HT := Lib.hid (HS.out.trans (by rw [if_pos ⟨rfl, rfl⟩]))
            clear HS
            go_wp2_with (at_builtin; refine wpList_append_own _ rfl _ _ 32 rfl w2.heap.size 3 i0 (.int .i64 0) 1 8 Try.underlying32 hi0 hz0 hz1 hz2 rfl (by decide) _ _ _ rfl (hown.alloc _) ⟨w4.heap.size, 0, none⟩ 1 1 [.int .i64 p3] rfl rfl (cell_one_new _ _ _) (by simp [Value.oneCell']) (by have : maxLen = 9223372036854775807 := rfl; omega) (by omega) (by simp; omega) ?_; intro v' w9 hown2 hgrow _)
            go_roundw
            case rel => exact ⟨k + 1, by omega, by go_num, by rw [HT.out, List.length_append, List.map_append]; exact hown2, (hb.alloc hwr _).grown hgrow (by simp; omega) (fun j hj => (hown.lt j hj).1)⟩
            case measure => simp [intOf]; omega
          · have g3 : (p2 = kd) = False := eq_false h2
            have g4 : (p2 == kd) = false := by simpa using h2
            have HT := Lib.hid (HS.out.trans (by rw [if_neg (fun h => h2 h.2), List.append_nil]))
            clear HS h2
            go_wp2_with fail
            go_roundw
            case rel => exact ⟨k + 1, by omega, by go_num, by rw [HT.out]; exact hown, hb⟩
            case measure => simp [intOf]; omega
        · have g3 : (p1 = e) = False := eq_false h1
          have g4 : (p1 == e) = false := by simpa using h1
          have HT := Lib.hid (HS.out.trans (by rw [if_neg (fun h => h1 h.1), List.append_nil]))
          clear HS h1
          go_wp2_with fail
          go_roundw
          case rel => exact ⟨k + 1, by omega, by go_num, by rw [HT.out]; exact hown, hb⟩
          case measure => simp [intOf]; omega
      · obtain rfl : k = l.length := by omega
        rw [List.take_length] at hown
        have hf := fromOn_own hown
        have hm := Elems.own (enc := Value.int .i64) hown
        obtain ⟨A', c', rfl, _⟩ := hm.form
        have HM := Lib.hid hm
        clear hm hown
        go_wp2_with fail
        go_ret
        exact ⟨A', c', rfl, HM.out, hf.less hw, b2.trans (hb.mono hw)⟩
end Go.Proofs.Ytcamhaeelkjigaa
