/- Layer 13: Marks: of raw numbers, marks that are right. -/
import Derived.Test.YtcamhaeelkjigaaSenF
namespace Go.Proofs.Ytcamhaeelkjigaa
open Go.RowKit Go.Lib

/-- one more -/
def addM (l : List Mk) (m : Mk) : List Mk := if m ∈ l then l else insM m l
def foldM (l : List Mk) (rs : List Mk) : List Mk := rs.foldl (fun a r => addM a (markOf r)) l
theorem addM_right {l : List Mk} {m : Mk} (h : RightM l) (hm : mayM m) : RightM (addM l m) := by
  unfold addM
  split
  · exact h
  · rename_i hn; exact ins_right m hm l h hn
theorem mem_addM {l : List Mk} {m x : Mk} : x ∈ addM l m ↔ x = m ∨ x ∈ l := by
  unfold addM
  split
  · rename_i hm
    constructor
    · exact .inr
    · rintro (h | h)
      · rw [h]; exact hm
      · exact h
  · exact mem_ins m x l
theorem addM_len (l : List Mk) (m : Mk) : (addM l m).length ≤ l.length + 1 := by
  unfold addM
  split
  · omega
  · rw [len_ins]; omega
theorem foldM_right {l : List Mk} (rs : List Mk) (h : RightM l) : RightM (foldM l rs) := by
  unfold foldM
  induction rs generalizing l with
  | nil => exact h
  | cons r rs ih => exact ih (addM_right h (of_decide_eq_true (markOf_few r).may))
theorem foldM_len (l rs : List Mk) : (foldM l rs).length ≤ l.length + rs.length := by
  unfold foldM
  induction rs generalizing l with
  | nil => simp
  | cons r rs ih =>
    have h1 := ih (addM l (markOf r))
    have h2 := addM_len l (markOf r)
    simp only [List.foldl_cons, List.length_cons]
    omega
theorem mem_foldM {l rs : List Mk} {x : Mk} : x ∈ foldM l rs ↔ x ∈ l ∨ ∃ r ∈ rs, x = markOf r := by
  unfold foldM
  induction rs generalizing l with
  | nil => simp
  | cons r rs ih =>
    rw [List.foldl_cons, ih, mem_addM]
    constructor
    · rintro ((h | h) | ⟨r', h1, h2⟩)
      · exact .inr ⟨r, by simp, h⟩
      · exact .inl h
      · exact .inr ⟨r', by simp [h1], h2⟩
    · rintro (h | ⟨r', h1, h2⟩)
      · exact .inl (.inr h)
      · rcases List.mem_cons.1 h1 with rfl | h1
        · exact .inl (.inl h2)
        · exact .inr ⟨r', h1, h2⟩
theorem foldM_snoc (rs : List Mk) (k : Nat) (hk : k < rs.length) : foldM [] (rs.take (k + 1)) = addM (foldM [] (rs.take k)) (markOf rs[k]) := by
  unfold foldM
  rw [List.take_succ_eq_append_getElem hk, List.foldl_append]
  rfl
theorem addR_in {l : List Mk} {room : Int} {m : Mk} (h : RightM l) (hm : mayMB m = true) (hn : m ∈ l) : addR l room m = ([], 7) := addR_twice (decide_eq_true h) hm hn
theorem addR_new {l : List Mk} {room : Int} {m : Mk} (h : RightM l) (hm : mayMB m = true) (hn : m ∉ l) (hr : ¬ room ≤ l.length) : addR l room m = (addM l m, 0) := by
  rw [addR_ok (decide_eq_true h) hm hn hr]; unfold addM; rw [if_neg hn]
/-- the marks of at most forty raw ones -/
def marksM (rs : List Mk) : List Mk := foldM [] (rs.take 40)
theorem marksM_right (rs : List Mk) : RightM (marksM rs) := foldM_right _ RightM.nil
theorem marksM_len (rs : List Mk) : (marksM rs).length ≤ 40 := by
  have := foldM_len [] (rs.take 40)
  rw [List.length_take] at this
  unfold marksM
  simp at this
  omega
set_option maxHeartbeats 1000000 in
set_option maxRecDepth 100000 in
theorem Marks_any (v : Value) (rs : List Mk) (w : World) (hv : Mks w w.heap.size v rs) (h9 : rs.length ≤ maxLen) (hraw : ∀ r ∈ rs, RawM r) (L : List Mk) (hL : marksM rs = L) :
    Calls Try.prog 9 #[v] w fun o w' => ∃ A c, o = .returned (.slice A L.length c) ∧ Mks w' w'.heap.size (.slice A L.length c) L ∧ Below w.heap.size w w' := by
  obtain ⟨A, c, rfl, hc⟩ := hv.form
  have h9' : rs.length ≤ 9223372036854775807 := h9
  subst hL
  obtain ⟨n, hn⟩ : ∃ n, min rs.length 40 = n := ⟨_, rfl⟩
  have HM : rs.take 40 = rs.take n := by
    rw [← hn]
    by_cases h : 40 ≤ rs.length
    · rw [Nat.min_eq_right h]
    · rw [Nat.min_eq_left (by omega), List.take_length, List.take_of_length_le (by omega)]
  have HM2 := Lib.hid (show marksM rs = foldM [] (rs.take n) by unfold marksM; rw [HM])
  clear HM
  go_enter Try.func9, Try.ntmps9
  go_wp2_with fail
  go_loopw [3, 4, 5, 6] (fun u iv _ _ wr => ∃ k : Nat, k ≤ n ∧ iv = .int .i64 k ∧ (∃ A c, u = .slice A (foldM [] (rs.take k)).length c ∧ Mks wr wr.heap.size (.slice A (foldM [] (rs.take k)).length c) (foldM [] (rs.take k))) ∧ Below w.heap.size w wr) (fun _ iv _ _ _ => n - (intOf iv).toNat)
  case atStart => exact ⟨0, Nat.zero_le _, rfl, ⟨none, 0, rfl, Mks.nil _ _⟩, Below.refl _ _⟩
  case round =>
    obtain ⟨k, hk, rfl, ⟨Au, cu, rfl, hu⟩, hb⟩ := hrel
    have hvr := hv.on hb
    by_cases hlt : k < n
    · have hkl : k < rs.length := by omega
      have g1 : ((k : Int) < (rs.length : Int)) = True := eq_true (by omega)
      have g2 : (k < rs.length) = True := eq_true hkl
      have g3 : ((k : Int) < 40) = True := eq_true (by omega)
      have g4 : (k < 40) = True := eq_true (by omega)
      obtain ⟨ad, rfl, _, e1, e2, e3⟩ := hvr.at_ hkl
      have hfew := markOf_few rs[k]
      have hraw1 := hraw rs[k] (List.getElem_mem hkl)
      have HS := Lib.hid (foldM_snoc rs k hkl)
      have hR : RightM (foldM [] (rs.take k)) := foldM_right _ RightM.nil
      have hlen := foldM_len [] (rs.take k)
      rw [List.length_take] at hlen
      obtain ⟨p0, p1, p2, hp⟩ : ∃ p0 p1 p2, markOf rs[k] = (p0, p1, p2) := ⟨_, _, _, rfl⟩
      rw [hp] at hfew
      have HP := Lib.hid hp
      have cM := fun W => Mark_any (rs[k]).1 (rs[k]).2.1 (rs[k]).2.2 p0 p1 p2 W hraw1 hp
      clear hp
      generalize foldM [] (rs.take k) = P at *
      generalize (rs[k]).1 = n0 at *
      generalize (rs[k]).2.1 = n1 at *
      generalize (rs[k]).2.2 = n2 at *
      have hPl : P.length ≤ 40 := by simp at hlen; omega
      clear hlen
      by_cases hin : (p0, p1, p2) ∈ P
      · have cA := fun W (h : Mks W W.heap.size (.slice Au P.length cu) P) => rAdd_any _ P 100 p0 p1 p2 W h (by omega) (by decide) [] 7 (addR_in hR hfew.may hin)
        have HT := Lib.hid (show foldM [] (rs.take (k + 1)) = P by rw [HS.out, HP.out]; unfold addM; rw [if_pos hin])
        clear HS HP hin
        go_wp2_with fail
        with_reducible refine (cM _).mono ?_
        rintro e w2 ⟨rfl, b2⟩
        replace hu := hu.on b2
        replace hb := hb.trans (b2.mono hb.size)
        clear e1 e2 e3 b2 cM hvr
        go_wp2_with fail
        with_reducible refine (cA _ hu).mono ?_
        rintro e w3 ⟨A3, c3, rfl, -, -, b3⟩
        replace hu := hu.on b3
        replace hb := hb.trans (b3.mono hb.size)
        clear b3 cA
        go_wp2_with fail
        go_roundw
        case rel => exact ⟨k + 1, by omega, by go_num, by rw [HT.out]; exact ⟨Au, cu, rfl, hu⟩, hb⟩
        case measure => simp [intOf]; omega
      · have cA := fun W (h : Mks W W.heap.size (.slice Au P.length cu) P) => rAdd_any _ P 100 p0 p1 p2 W h (by omega) (by decide) (addM P (p0, p1, p2)) 0 (addR_new hR hfew.may hin (by omega))
        have HT := Lib.hid (show foldM [] (rs.take (k + 1)) = addM P (p0, p1, p2) by rw [HS.out, HP.out])
        clear HS HP hin
        go_wp2_with fail
        with_reducible refine (cM _).mono ?_
        rintro e w2 ⟨rfl, b2⟩
        replace hu := hu.on b2
        replace hb := hb.trans (b2.mono hb.size)
        clear e1 e2 e3 b2 cM hvr
        go_wp2_with fail
        with_reducible refine (cA _ hu).mono ?_
        rintro e w3 ⟨A3, c3, rfl, hu3, -, b3⟩
        replace hb := hb.trans (b3.mono hb.size)
        clear b3 cA
        go_wp2_with fail
        go_roundw
        case rel => exact ⟨k + 1, by omega, by go_num, by rw [HT.out]; exact ⟨A3, c3, rfl, hu3⟩, hb⟩
        case measure => simp [intOf]; omega
    · obtain rfl : k = n := by omega
      have HE := Lib.hid (show marksM rs = foldM [] (rs.take k) from HM2.out)
      by_cases hkl : k < rs.length
      · have g1 : ((k : Int) < (rs.length : Int)) = True := eq_true (by omega)
        have g2 : (k < rs.length) = True := eq_true hkl
        have g3 : ((k : Int) < 40) = False := eq_false (by omega)
        have g4 : (k < 40) = False := eq_false (by omega)
        go_wp2_with fail
        go_ret
        rw [HE.out]
        exact ⟨Au, cu, rfl, hu, hb⟩
      · have g1 : ((k : Int) < (rs.length : Int)) = False := eq_false (by omega)
        have g2 : (k < rs.length) = False := eq_false hkl
        go_wp2_with fail
        go_ret
        rw [HE.out]
        exact ⟨Au, cu, rfl, hu, hb⟩
end Go.Proofs.Ytcamhaeelkjigaa
