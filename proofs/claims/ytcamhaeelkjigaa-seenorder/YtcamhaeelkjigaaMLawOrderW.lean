/- The walk of SeenOrder. -/
import Derived.Test.YtcamhaeelkjigaaSenH
namespace Go.Proofs.Ytcamhaeelkjigaa
open Go.RowKit Go.Lib

/-- The place in the other order. -/
def turnJ (n k i : Nat) : Nat := (n - 1 - i + k) % n
theorem turnJ_lt {n k i : Nat} (h : i < n) : turnJ n k i < n := Nat.mod_lt _ (by omega)
theorem turnJ_all {n k q : Nat} (h : q < n) : ∃ i, i < n ∧ turnJ n k i = q := by
  refine ⟨(n - 1 + k - q) % n, Nat.mod_lt _ (by omega), ?_⟩
  unfold turnJ
  obtain ⟨d, hd⟩ : ∃ d, n - 1 + k - q = d := ⟨_, rfl⟩
  rw [hd]
  have h1 := Nat.mod_lt d (show 0 < n by omega)
  have h2 := Nat.div_add_mod d n
  rw [show n - 1 - d % n + k = q + n * (d / n) by omega, Nat.add_mul_mod_self_left, Nat.mod_eq_of_lt h]
def turnL (rs : List Mk) (n k i : Nat) : List Mk := (List.range i).map fun j => rs.getD (turnJ n k j) (0, 0, 0)
theorem turnL_succ (rs : List Mk) (n k i : Nat) : turnL rs n k (i + 1) = turnL rs n k i ++ [rs.getD (turnJ n k i) (0, 0, 0)] := by
  unfold turnL; rw [List.range_succ, List.map_append]; rfl
theorem foldM_turn (rs : List Mk) (n k i : Nat) : foldM [] (turnL rs n k (i + 1)) = addM (foldM [] (turnL rs n k i)) (markOf (rs.getD (turnJ n k i) (0, 0, 0))) := by
  rw [turnL_succ]; unfold foldM; rw [List.foldl_append]; rfl
theorem turn_same (rs : List Mk) (n k : Nat) (hn : n ≤ rs.length) : foldM [] (rs.take n) = foldM [] (turnL rs n k n) := by
  refine right_ext _ _ (foldM_right _ RightM.nil) (foldM_right _ RightM.nil) fun m => ?_
  rw [mem_foldM, mem_foldM]
  constructor
  · rintro (h | ⟨r, h1, h2⟩)
    · exact .inl h
    · obtain ⟨q, hq, rfl⟩ := List.getElem_of_mem h1
      rw [List.length_take] at hq
      obtain ⟨i, hi, he⟩ := turnJ_all (k := k) (show q < n by omega)
      refine .inr ⟨_, List.mem_map.2 ⟨i, List.mem_range.2 hi, rfl⟩, ?_⟩
      rw [h2, he, List.getElem_take, List.getD_eq_getElem?_getD, List.getElem?_eq_getElem (by omega)]
      rfl
  · rintro (h | ⟨r, h1, h2⟩)
    · exact .inl h
    · obtain ⟨i, hi, rfl⟩ := List.mem_map.1 h1
      have hj := turnJ_lt (k := k) (List.mem_range.1 hi)
      refine .inr ⟨rs[turnJ n k i], ?_, ?_⟩
      · rw [List.mem_iff_getElem]
        exact ⟨turnJ n k i, by rw [List.length_take]; omega, by rw [List.getElem_take]⟩
      · rw [h2, List.getD_eq_getElem?_getD, List.getElem?_eq_getElem (by omega)]
        rfl
set_option maxHeartbeats 4000000 in
set_option maxRecDepth 100000 in
theorem sorder_walk (v : Value) (rs : List Mk) (tn : Int) (w : World) (hv : Mks w w.heap.size v rs) (h9 : rs.length ≤ maxLen) (hraw : ∀ r ∈ rs, RawM r) (htn : I64M tn) :
    Calls Try.prog 5 #[v, .int .i64 tn] w fun o w' => o = .returned (.bool true) ∧ Below w.heap.size w w' := by
  obtain ⟨A, c, rfl, hc⟩ := hv.form
  have h9' : rs.length ≤ 9223372036854775807 := h9
  obtain ⟨n, hn⟩ : ∃ n, min rs.length 40 = n := ⟨_, rfl⟩
  have hmin : min (rs.length : Int) 40 = (n : Int) := by omega
  have hn1 : n ≤ rs.length := by omega
  have hn2 : n ≤ 40 := by omega
  have hnI : IntKind.i64.wrap ((n : Int) + 1) = (n : Int) + 1 := IntWalk.i64_in _ (by omega)
  obtain ⟨kk, hkk⟩ : ∃ x, pickM tn ((n : Int) + 1) = x := ⟨_, rfl⟩
  have hkb := pickM_bd tn ((n : Int) + 1) (by omega)
  rw [hkk] at hkb
  have cPk := fun W => pickM_same hkk htn (by omega) (by omega) W
  clear hkk hn
  obtain ⟨K, rfl⟩ := Int.eq_ofNat_of_zero_le hkb.1
  have hK : K ≤ n := by omega
  clear hkb
  have B0 := Below.refl w.heap.size w
  go_enter Try.func5, Try.ntmps5
  go_wp2_with fail
  with_reducible refine (awake13_any _).mono ?_
  rintro o w1 ⟨rfl, b1⟩
  replace hv := hv.on b1
  replace B0 := B0.trans (b1.mono B0.size)
  clear b1
  go_wp2_with fail
  with_reducible refine (cPk _).mono ?_
  rintro o w2 ⟨rfl, rfl⟩
  clear cPk hnI hmin
  go_wp2_with fail
  go_loopw [8, 9, 10, 11, 12, 13, 14] (fun u y iv _ _ _ _ wr => ∃ i : Nat, i ≤ n ∧ iv = .int .i64 i ∧ (∃ A c, u = .slice A (foldM [] (rs.take i)).length c ∧ Mks wr wr.heap.size (.slice A (foldM [] (rs.take i)).length c) (foldM [] (rs.take i))) ∧ (∃ A c, y = .slice A (foldM [] (turnL rs n K i)).length c ∧ Mks wr wr.heap.size (.slice A (foldM [] (turnL rs n K i)).length c) (foldM [] (turnL rs n K i))) ∧ Below w2.heap.size w2 wr) (fun _ _ iv _ _ _ _ _ => n - (intOf iv).toNat)
  case atStart => exact ⟨0, Nat.zero_le _, rfl, ⟨none, 0, rfl, Mks.nil _ _⟩, ⟨none, 0, rfl, Mks.nil _ _⟩, Below.refl _ _⟩
  case round =>
    obtain ⟨i, hi, rfl, ⟨Au, cu, rfl, hu⟩, ⟨Ay, cy, rfl, hy⟩, hb⟩ := hrel
    have hvr := hv.on hb
    by_cases hlt : i < n
    · have hil : i < rs.length := by omega
      have g1 : ((i : Int) < (rs.length : Int)) = True := eq_true (by omega)
      have g2 : (i < rs.length) = True := eq_true hil
      have g3 : ((i : Int) < (n : Int)) = True := eq_true (by omega)
      have g4 : (i < n) = True := eq_true hlt
      obtain ⟨n1, hx1⟩ : ∃ x : Nat, n - 1 = x := ⟨_, rfl⟩
      obtain ⟨n2, hx2⟩ : ∃ x : Nat, n1 - i = x := ⟨_, rfl⟩
      obtain ⟨n3, hx3⟩ : ∃ x : Nat, n2 + K = x := ⟨_, rfl⟩
      obtain ⟨q, hq⟩ : ∃ q, turnJ n K i = q := ⟨_, rfl⟩
      have hqn : q < n := by rw [← hq]; exact turnJ_lt hlt
      have hqd : n3 % n = q := by rw [← hq]; unfold turnJ; rw [hx1, hx2, hx3]
      have e1 : (n : Int) - 1 = (n1 : Int) := by omega
      have e2 : (n1 : Int) - (i : Int) = (n2 : Int) := by omega
      have e3 : (n2 : Int) + (K : Int) = (n3 : Int) := by omega
      have e4 : (n3 : Int).tmod (n : Int) = (q : Int) := by rw [← hqd]; rfl
      have w1_ : IntKind.i64.wrap (n1 : Int) = (n1 : Int) := IntWalk.i64_in _ (by omega)
      have w2_ : IntKind.i64.wrap (n2 : Int) = (n2 : Int) := IntWalk.i64_in _ (by omega)
      have w3_ : IntKind.i64.wrap (n3 : Int) = (n3 : Int) := IntWalk.i64_in _ (by omega)
      have w4_ : IntKind.i64.wrap (q : Int) = (q : Int) := IntWalk.i64_in _ (by omega)
      have z1 : ((n : Int) = 0) = False := eq_false (by omega)
      have z2 : (n = 0) = False := eq_false (by omega)
      have g5 : ((q : Int) < (rs.length : Int)) = True := eq_true (by omega)
      have g6 : (q < rs.length) = True := eq_true (by omega)
      clear hx1 hx2 hx3 hqd
      have hql : q < rs.length := by omega
      have HS := Lib.hid (foldM_snoc rs i hil)
      have HT0 := foldM_turn rs n K i
      rw [hq, List.getD_eq_getElem?_getD, List.getElem?_eq_getElem hql] at HT0
      have HT := Lib.hid (show foldM [] (turnL rs n K (i + 1)) = addM (foldM [] (turnL rs n K i)) (markOf rs[q]) from HT0)
      clear HT0 hq
      have hRu : RightM (foldM [] (rs.take i)) := foldM_right _ RightM.nil
      have hRy : RightM (foldM [] (turnL rs n K i)) := foldM_right _ RightM.nil
      have hlu := foldM_len [] (rs.take i)
      have hly := foldM_len [] (turnL rs n K i)
      rw [List.length_take] at hlu
      rw [show (turnL rs n K i).length = i by simp [turnL]] at hly
      obtain ⟨p0, p1, p2, hp⟩ : ∃ p0 p1 p2, markOf rs[i] = (p0, p1, p2) := ⟨_, _, _, rfl⟩
      obtain ⟨s0, s1, s2, hs⟩ : ∃ s0 s1 s2, markOf rs[q] = (s0, s1, s2) := ⟨_, _, _, rfl⟩
      have hfp := markOf_few rs[i]
      have hfs := markOf_few rs[q]
      rw [hp] at hfp
      rw [hs] at hfs
      have cM1 := fun W => Mark_any (rs[i]).1 (rs[i]).2.1 (rs[i]).2.2 p0 p1 p2 W (hraw _ (List.getElem_mem hil)) hp
      have cM2 := fun W => Mark_any (rs[q]).1 (rs[q]).2.1 (rs[q]).2.2 s0 s1 s2 W (hraw _ (List.getElem_mem hql)) hs
      rw [hp] at HS
      rw [hs] at HT
      clear hp hs
      obtain ⟨ad, rfl, _, a1, a2, a3⟩ := hvr.at_ hil
      generalize foldM [] (rs.take i) = P at *
      generalize foldM [] (turnL rs n K i) = Y at *
      generalize (rs[i]).1 = m0 at *
      generalize (rs[i]).2.1 = m1 at *
      generalize (rs[i]).2.2 = m2 at *
      have hPl : P.length ≤ 40 := by simp at hlu; omega
      have hYl : Y.length ≤ 40 := by simp at hly; omega
      clear hlu hly
      obtain ⟨R1, E1, hA1, hc1⟩ : ∃ R E, addR P 200 (p0, p1, p2) = (R, E) ∧ ((E = 7 ∧ foldM [] (rs.take (i + 1)) = P) ∨ (E = 0 ∧ foldM [] (rs.take (i + 1)) = R)) := by
        by_cases hin : (p0, p1, p2) ∈ P
        · exact ⟨_, _, addR_in hRu hfp.may hin, .inl ⟨rfl, by rw [HS.out]; unfold addM; rw [if_pos hin]⟩⟩
        · exact ⟨_, _, addR_new hRu hfp.may hin (by omega), .inr ⟨rfl, HS.out⟩⟩
      obtain ⟨R2, E2, hA2, hc2⟩ : ∃ R E, addR Y 200 (s0, s1, s2) = (R, E) ∧ ((E = 7 ∧ foldM [] (turnL rs n K (i + 1)) = Y) ∨ (E = 0 ∧ foldM [] (turnL rs n K (i + 1)) = R)) := by
        by_cases hin : (s0, s1, s2) ∈ Y
        · exact ⟨_, _, addR_in hRy hfs.may hin, .inl ⟨rfl, by rw [HT.out]; unfold addM; rw [if_pos hin]⟩⟩
        · exact ⟨_, _, addR_new hRy hfs.may hin (by omega), .inr ⟨rfl, HT.out⟩⟩
      have cA1 := fun W (h : Mks W W.heap.size (.slice Au P.length cu) P) => sAdd_any _ P 200 p0 p1 p2 W h (by omega) (by decide) R1 E1 hA1
      have cA2 := fun W (h : Mks W W.heap.size (.slice Ay Y.length cy) Y) => sAdd_any _ Y 200 s0 s1 s2 W h (by omega) (by decide) R2 E2 hA2
      clear hA1 hA2 HS HT hRu hRy hfp hfs hPl hYl
      go_wp2_with fail
      with_reducible refine (cM1 _).mono ?_
      rintro e w3 ⟨rfl, b3⟩
      replace hu := hu.on b3
      replace hy := hy.on b3
      replace hvr := hvr.on b3
      replace hb := hb.trans (b3.mono hb.size)
      clear a1 a2 a3 b3 cM1
      go_wp2_with fail
      with_reducible refine (cA1 _ hu).mono ?_
      rintro e w4 ⟨A4, c4, rfl, hu4, -, b4⟩
      replace hu := hu.on b4
      replace hy := hy.on b4
      replace hvr := hvr.on b4
      replace hb := hb.trans (b4.mono hb.size)
      clear b4 cA1
      obtain ⟨_, e, _, a1, a2, a3⟩ := hvr.at_ hql
      cases e
      generalize (rs[q]).1 = m3 at *
      generalize (rs[q]).2.1 = m4 at *
      generalize (rs[q]).2.2 = m5 at *
      obtain ⟨rfl, hc1⟩ | ⟨rfl, hc1⟩ := hc1
      · go_wp2_with fail
        with_reducible refine (cM2 _).mono ?_
        rintro e w5 ⟨rfl, b5⟩
        replace hu := hu.on b5
        replace hu4 := hu4.on b5
        replace hy := hy.on b5
        replace hb := hb.trans (b5.mono hb.size)
        clear a1 a2 a3 b5 cM2 hvr
        go_wp2_with fail
        with_reducible refine (cA2 _ hy).mono ?_
        rintro e w6 ⟨A6, c6, rfl, hy6, -, b6⟩
        replace hu := hu.on b6
        replace hu4 := hu4.on b6
        replace hy := hy.on b6
        replace hb := hb.trans (b6.mono hb.size)
        clear b6 cA2
        obtain ⟨rfl, hc2⟩ | ⟨rfl, hc2⟩ := hc2
        · have H1 := Lib.hid hc1
          have H2 := Lib.hid hc2
          clear hc1 hc2
          go_wp2_with fail
          go_roundw
          case rel => exact ⟨i + 1, by omega, by go_num, by rw [H1.out]; exact ⟨Au, cu, rfl, hu⟩, by rw [H2.out]; exact ⟨Ay, cy, rfl, hy⟩, hb⟩
          case measure => simp [intOf]; omega
        · have H1 := Lib.hid hc1
          have H2 := Lib.hid hc2
          clear hc1 hc2
          go_wp2_with fail
          go_roundw
          case rel => exact ⟨i + 1, by omega, by go_num, by rw [H1.out]; exact ⟨Au, cu, rfl, hu⟩, by rw [H2.out]; exact ⟨A6, c6, rfl, hy6⟩, hb⟩
          case measure => simp [intOf]; omega
      · go_wp2_with fail
        with_reducible refine (cM2 _).mono ?_
        rintro e w5 ⟨rfl, b5⟩
        replace hu := hu.on b5
        replace hu4 := hu4.on b5
        replace hy := hy.on b5
        replace hb := hb.trans (b5.mono hb.size)
        clear a1 a2 a3 b5 cM2 hvr
        go_wp2_with fail
        with_reducible refine (cA2 _ hy).mono ?_
        rintro e w6 ⟨A6, c6, rfl, hy6, -, b6⟩
        replace hu := hu.on b6
        replace hu4 := hu4.on b6
        replace hy := hy.on b6
        replace hb := hb.trans (b6.mono hb.size)
        clear b6 cA2
        obtain ⟨rfl, hc2⟩ | ⟨rfl, hc2⟩ := hc2
        · have H1 := Lib.hid hc1
          have H2 := Lib.hid hc2
          clear hc1 hc2
          go_wp2_with fail
          go_roundw
          case rel => exact ⟨i + 1, by omega, by go_num, by rw [H1.out]; exact ⟨A4, c4, rfl, hu4⟩, by rw [H2.out]; exact ⟨Ay, cy, rfl, hy⟩, hb⟩
          case measure => simp [intOf]; omega
        · have H1 := Lib.hid hc1
          have H2 := Lib.hid hc2
          clear hc1 hc2
          go_wp2_with fail
          go_roundw
          case rel => exact ⟨i + 1, by omega, by go_num, by rw [H1.out]; exact ⟨A4, c4, rfl, hu4⟩, by rw [H2.out]; exact ⟨A6, c6, rfl, hy6⟩, hb⟩
          case measure => simp [intOf]; omega
    · obtain rfl : i = n := by omega
      have HE := Lib.hid (turn_same rs i K hn1)
      have g3 : ((i : Int) < (i : Int)) = False := eq_false (by omega)
      have hlu := foldM_len [] (rs.take i)
      rw [List.length_take] at hlu
      have hRu : RightM (foldM [] (rs.take i)) := foldM_right _ RightM.nil
      rw [← HE.out] at hy
      have HL := Lib.hid (show (foldM [] (turnL rs i K i)).length = (foldM [] (rs.take i)).length by rw [← HE.out])
      rw [HL.out]
      clear HE HL
      generalize foldM [] (rs.take i) = P at *
      have hPl : P.length ≤ 40 := by simp at hlu; omega
      have cS := fun W (h1 : Mks W W.heap.size (.slice Au P.length cu) P) (h2 : Mks W W.heap.size (.slice Ay P.length cy) P) => rSameM_any _ _ P P W h1 h2 (by unfold maxLen; omega) (by unfold maxLen; omega)
      have cR := fun W (h1 : Mks W W.heap.size (.slice Au P.length cu) P) => sRight_any _ P W h1 (by unfold maxLen; omega)
      rw [show decide (P = P) = true from decide_eq_true rfl] at cS
      rw [show rightMB P = true from decide_eq_true hRu] at cR
      clear hlu hRu
      go_wp2_with fail
      with_reducible refine (cS _ hu hy).mono ?_
      rintro e w3 ⟨rfl, b3⟩
      replace hu := hu.on b3
      replace hb := hb.trans (b3.mono hb.size)
      go_wp2_with fail
      with_reducible refine (cR _ hu).mono ?_
      rintro e w4 ⟨rfl, b4⟩
      go_wp2_with fail
      go_ret
      exact ⟨rfl, B0.trans ((hb.trans (b4.mono hb.size)).mono B0.size)⟩
end Go.Proofs.Ytcamhaeelkjigaa
