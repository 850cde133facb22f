/- The document's octets, beside the other layers. -/
import Derived.Test.YtieheieiolobaaaGreatDoorOctI
import Derived.Test.YtieheieiolobaaaGreatDoorOctS
import Derived.Test.YtieheieiolobaaaGreatDoorRefP
import Derived.Lib.BufferRead
import Derived.Deep.QuietTactic
import Derived.BigQuiet
import Derived.Deep.AppendLies
import Derived.Laws.Pointers
namespace Go.Proofs.YtieheieiolobaaaGreatDoor
open Go.RowKit

/-- Where part j ends: where the next one begins, or the text does. -/
def stopAt (s : Text) (fixed many j : Nat) : Nat := if j + 1 < many then numAt s (fixed + 4 * j + 4) else s.length
def partOk (s : Text) (fixed many j : Nat) : Bool := decide (numAt s (fixed + 4 * j) ≤ stopAt s fixed many j) && decide (stopAt s fixed many j ≤ s.length)
def fpart (s : ByteArray) (fixed many j : Nat) : ByteArray := s.extract (numAt s.data.toList (fixed + 4 * j)) (stopAt s.data.toList fixed many j)
def fparts (s : ByteArray) (fixed many k : Nat) : List ByteArray := (List.range k).map (fpart s fixed many)
theorem fparts_succ (s : ByteArray) (fixed many k : Nat) : fparts s fixed many (k + 1) = fparts s fixed many k ++ [fpart s fixed many k] := by
  unfold fparts; rw [List.range_succ, List.map_append]; rfl
theorem fparts_length (s : ByteArray) (fixed many k : Nat) : (fparts s fixed many k).length = k := by simp [fparts]
theorem sumLen_take (ps : List Text) (j : Nat) (h : j < ps.length) : sumLen (ps.take (j + 1)) = sumLen (ps.take j) + ps[j].length := by
  rw [List.take_succ_eq_append_getElem h, sumLen_append]; simp [sumLen]
theorem xsumLen_take_le (ps : List Text) (j : Nat) : sumLen (ps.take j) ≤ sumLen ps := by
  have e : sumLen ps = sumLen (ps.take j) + sumLen (ps.drop j) := by
    conv => lhs; rw [← List.take_append_drop j ps]
    rw [sumLen_append]
  omega
theorem list_at (ps : List Text) (j : Nat) (h : j < ps.length) : ps = ps.take j ++ ps[j] :: ps.drop (j + 1) := by
  conv => lhs; rw [← List.take_append_drop j ps, List.drop_eq_getElem_cons h]
theorem numAt_part (f : Text) (ps : List Text) (j : Nat) (h : j < ps.length) (hl : (wholeOf f ps).length ≤ 65536) :
    numAt (wholeOf f ps) (f.length + 4 * j) = f.length + 4 * ps.length + sumLen (ps.take j) := by
  have e := list_at ps j h
  have hj : (ps.take j).length = j := by rw [List.length_take]; omega
  have h1 := numAt_whole f (ps.take j) ps[j] (ps.drop (j + 1)) (by rw [← e]; exact hl)
  rw [← e, hj] at h1
  exact h1
theorem part_at (f : Text) (ps : List Text) (j : Nat) (h : j < ps.length) :
    ((wholeOf f ps).drop (f.length + 4 * ps.length + sumLen (ps.take j))).take ps[j].length = ps[j] := by
  have e := list_at ps j h
  have h1 := part_whole f (ps.take j) ps[j] (ps.drop (j + 1))
  rw [← e] at h1
  exact h1
theorem stop_part (f : Text) (ps : List Text) (j : Nat) (h : j < ps.length) (hl : (wholeOf f ps).length ≤ 65536) :
    stopAt (wholeOf f ps) f.length ps.length j = f.length + 4 * ps.length + sumLen (ps.take (j + 1)) := by
  unfold stopAt
  by_cases h1 : j + 1 < ps.length
  · rw [if_pos h1]
    have := numAt_part f ps (j + 1) h1 hl
    rw [show f.length + 4 * (j + 1) = f.length + 4 * j + 4 by omega] at this
    exact this
  · rw [if_neg h1, wholeOf_length, List.take_of_length_le (by omega)]
theorem partOk_whole (f : Text) (ps : List Text) (j : Nat) (h : j < ps.length) (hl : (wholeOf f ps).length ≤ 65536) : partOk (wholeOf f ps) f.length ps.length j = true := by
  unfold partOk
  rw [numAt_part f ps j h hl, stop_part f ps j h hl, wholeOf_length, sumLen_take ps j h]
  have := xsumLen_take_le ps (j + 1)
  rw [sumLen_take ps j h] at this
  simp; omega
theorem fparts_whole (s : ByteArray) (f : Text) (ps : List Text) (hs : s.data.toList = wholeOf f ps) (hl : (wholeOf f ps).length ≤ 65536) : txts (fparts s f.length ps.length ps.length) = ps := by
  apply List.ext_getElem
  · simp [txts, fparts]
  · intro j h1 h2
    simp only [txts, fparts, List.getElem_map, List.getElem_range, fpart]
    rw [ext_list, hs, numAt_part f ps j h2 hl, stop_part f ps j h2 hl, sumLen_take ps j h2]
    have e : f.length + 4 * ps.length + (sumLen (ps.take j) + ps[j].length) - (f.length + 4 * ps.length + sumLen (ps.take j)) = ps[j].length := by omega
    rw [e, part_at f ps j h2]
/-- If all parts are cut well and join to the same text, Split tells them; else ErrForm. -/
theorem splitOf_fwd_yes (s : ByteArray) (fixed many : Nat) (hm : many ≤ 8) (hl : s.size ≤ 65536) (h : fixed + 4 * many ≤ s.size)
    (hj : wholeOf (s.data.toList.take fixed) (txts (fparts s fixed many many)) = s.data.toList) :
    splitOf s.data.toList (fixed : Int) (many : Int) = (s.data.toList.take fixed, txts (fparts s fixed many many), 0) := by
  have hfl : (s.data.toList.take fixed).length = fixed := by rw [List.length_take, size_list]; omega
  have hpl : (txts (fparts s fixed many many)).length = many := by rw [txts_length, fparts_length]
  have hw := wholeOf_length (s.data.toList.take fixed) (txts (fparts s fixed many many))
  rw [hj, size_list, hfl, hpl] at hw
  have h1 := splitOf_of_whole (s.data.toList.take fixed) (txts (fparts s fixed many many)) (by rw [hpl]; exact hm) (by rw [hfl, hpl]; omega)
  rw [hfl, hpl, hj] at h1
  exact h1
theorem splitOf_fwd_no (s : ByteArray) (fixed many : Nat) (hf : fixed ≤ 65536) (hm : many ≤ 8) (hl : s.size ≤ 65536) (h : fixed + 4 * many ≤ s.size)
    (hno : (∃ j, j < many ∧ partOk s.data.toList fixed many j = false) ∨ wholeOf (s.data.toList.take fixed) (txts (fparts s fixed many many)) ≠ s.data.toList) :
    splitOf s.data.toList (fixed : Int) (many : Int) = ([], [], 2) := by
  have hc : splitOf s.data.toList (fixed : Int) (many : Int) = (match cutBack s.data.toList fixed (fixed + 4 * many) many s.data.toList.length [] with | some ps => (s.data.toList.take fixed, ps, 0) | none => ([], [], 2)) := by
    unfold splitOf
    rw [if_pos (by omega), if_pos (by omega), if_pos (by rw [size_list]; exact hl), Int.toNat_natCast, Int.toNat_natCast, if_pos (by rw [size_list]; exact h)]
    rfl
  cases hcb : cutBack s.data.toList fixed (fixed + 4 * many) many s.data.toList.length [] with
  | none => rw [hc, hcb]
  | some ps =>
    exfalso
    obtain ⟨e1, e2⟩ := cutBack_whole s.data.toList fixed many ps (by rw [size_list]; exact h) hcb
    have hfl : (s.data.toList.take fixed).length = fixed := by rw [List.length_take, size_list]; omega
    have hlw : (wholeOf (s.data.toList.take fixed) ps).length ≤ 65536 := by rw [e2, size_list]; exact hl
    rcases hno with ⟨j, hj, hbad⟩ | hne
    · have := partOk_whole (s.data.toList.take fixed) ps j (by omega) hlw
      rw [e2, hfl, e1, hbad] at this
      cases this
    · have := fparts_whole s (s.data.toList.take fixed) ps e2.symm hlw
      rw [hfl, e1] at this
      rw [this] at hne
      exact hne e2
theorem xrefPut_no (x n : Int) (w : World) (h : ¬ (1 ≤ n ∧ n ≤ 8)) :
    Calls Tryz.prog 36 #[.int .u64 x, .int .i64 n] w fun e w' => e = .returned (.string ⟨#[]⟩) ∧ Below w.heap.size w w' := by
  have hcv := fun W : World => Lib.run_convert_nil_bytes (P := Tryz.prog) W 63 9 5 0 Tryz.underlying63 Tryz.underlying5 Tryz.underlying9
  by_cases h0 : 0 < n
  · have hd8 : decide (n ≤ 8) = false := by simp; omega
    have hd0 : decide (0 < n) = true := by simp; omega
    go_enter Tryz.func36, Tryz.ntmps36
    go_wp2_with fail
    go_loop [5, 6] (fun o i => o = .slice none 0 0 ∧ i = .int .i64 0) (fun _ _ => 0)
    case atStart => exact ⟨rfl, rfl⟩
    case round =>
      obtain ⟨rfl, rfl⟩ := hrel
      go_wp2_with fail
      go_ret
      exact ⟨rfl, Below.refl _ _⟩
  · have hd0 : decide (0 < n) = false := by simp; omega
    go_enter Tryz.func36, Tryz.ntmps36
    go_wp2_with fail
    go_loop [5, 6] (fun o i => o = .slice none 0 0 ∧ i = .int .i64 0) (fun _ _ => 0)
    case atStart => exact ⟨rfl, rfl⟩
    case round =>
      obtain ⟨rfl, rfl⟩ := hrel
      go_wp2_with fail
      go_ret
      exact ⟨rfl, Below.refl _ _⟩
theorem refPut_any (x : Nat) (n : Int) (w : World) :
    Calls Tryz.prog 36 #[.int .u64 x, .int .i64 n] w fun e w' => e = .returned (.string ⟨(putOf x n).toArray⟩) ∧ Below w.heap.size w w' := by
  unfold putOf
  by_cases h : 1 ≤ n ∧ n ≤ 8
  · obtain ⟨k, rfl⟩ := Int.eq_ofNat_of_zero_le (by omega : 0 ≤ n)
    have := refPut_yes x k w (by omega) (by omega)
    simpa [h] using this
  · have := xrefPut_no x n w h
    simpa [h] using this
theorem xrefPut_int (x : Int) (m : Nat) (n : Int) (w : World) (hx : x = (m : Int)) :
    Calls Tryz.prog 36 #[.int .u64 x, .int .i64 n] w fun e w' => e = .returned (.string ⟨(putOf m n).toArray⟩) ∧ Below w.heap.size w w' := by
  subst hx; exact refPut_any m n w
set_option maxHeartbeats 1000000 in
theorem refTake_any (s : ByteArray) (n : Int) (w : World) (_hs : s.size ≤ 9223372036854775807) :
    Calls Tryz.prog 72 #[.string s, .int .i64 n] w fun e w' => e = .returned (.tuple #[.int .u64 (takeOf s n).1, .string (takeOf s n).2.1, .int .i64 (takeOf s n).2.2]) ∧ Below w.heap.size w w' := by
  unfold takeOf
  by_cases h1 : n < 1
  · have hd : decide (n < 1) = true := by simp; omega
    rw [if_neg (by omega)]
    go_enter Tryz.func72, Tryz.ntmps72
    go_wp2_with fail
    go_ret3
    exact ⟨rfl, Below.refl _ _⟩
  · have hd : decide (n < 1) = false := by simp; omega
    by_cases h8 : 8 < n
    · have hd8 : decide (8 < n) = true := by simp; omega
      rw [if_neg (by omega)]
      go_enter Tryz.func72, Tryz.ntmps72
      go_wp2_with fail
      go_ret3
      exact ⟨rfl, Below.refl _ _⟩
    · have hd8 : decide (8 < n) = false := by simp; omega
      rw [if_pos (by omega)]
      obtain ⟨k, rfl⟩ := Int.eq_ofNat_of_zero_le (by omega : 0 ≤ n)
      by_cases hk : s.size < k
      · have hdk : decide (s.size < k) = true := by simpa using hk
        rw [if_pos (by omega)]
        go_enter Tryz.func72, Tryz.ntmps72
        go_wp2_with fail
        go_ret3
        exact ⟨rfl, Below.refl _ _⟩
      · have hdk : decide (s.size < k) = false := by simpa using hk
        have hk1 : k ≤ s.size := by omega
        have hk2 : (k : Int) ≤ (s.size : Int) := by omega
        have hx1 : (s.extract 0 k).size ≤ 8 := by rw [ext_size _ _ _ hk1]; omega
        rw [if_neg (by omega), Int.toNat_natCast]
        go_enter Tryz.func72, Tryz.ntmps72
        go_wp2_with fail
        go_region_with (go_at_call 70; refine (refnumber_any _ _ hx1).mono ?_; rintro e w1 ⟨rfl, rfl⟩)
        all_goals (try go_wp2)
        all_goals go_ret3
        all_goals exact ⟨rfl, (Below.refl _ _).drew⟩
def JoinEnds (f : ByteArray) (ss : List ByteArray) (w : World) (e : Ending) (w' : World) : Prop :=
  e = .returned (.tuple #[.string ⟨(joinOf f.data.toList (txts ss)).1.toArray⟩, .int .i64 (joinOf f.data.toList (txts ss)).2]) ∧ Below w.heap.size w w'
theorem joinEnds_no {f : ByteArray} {ss : List ByteArray} {w w' : World} (h : ¬ (ss.length ≤ 8 ∧ f.size + 4 * ss.length + strSum ss ≤ 65536)) (hb : Below w.heap.size w w') : JoinEnds f ss w (.returned (.tuple #[.string ⟨#[]⟩, .int .i64 4])) w' := by
  refine ⟨?_, hb⟩
  unfold strSum at h
  unfold joinOf
  rw [size_list, txts_length, if_neg h]
theorem joinEnds_yes {f : ByteArray} {ss : List ByteArray} {w w' : World} {s : ByteArray} (h8 : ss.length ≤ 8) (h : f.size + 4 * ss.length + strSum ss ≤ 65536) (hs : s.data.toList = wholeOf f.data.toList (txts ss)) (hb : Below w.heap.size w w') : JoinEnds f ss w (.returned (.tuple #[.string s, .int .i64 0])) w' := by
  refine ⟨?_, hb⟩
  have hs2 : s = ⟨(wholeOf f.data.toList (txts ss)).toArray⟩ := by apply WideShapes.bytes_inj; rw [hs]
  unfold joinOf
  rw [size_list, txts_length, if_pos ⟨h8, h⟩, hs2]
theorem cat_list (a b : ByteArray) : (a ++ b).data.toList = a.data.toList ++ b.data.toList := by simp
theorem strSum_mem (ss : List ByteArray) (k : Nat) (h : k < ss.length) : ss[k].size ≤ strSum ss := by
  have h1 := strSum_take ss k h
  have h2 := strSum_le ss (k + 1)
  omega
set_option maxHeartbeats 2000000 in
theorem refJoin_ends (f : ByteArray) (ss : List ByteArray) (v : Value) (w : World) (hv : Strs w w.heap.size v ss) (hc9 : ss.length ≤ 9223372036854775807) (hf9 : f.size ≤ 9223372036854775807) :
    Calls Tryz.prog 32 #[.string f, v] w (JoinEnds f ss w) := by
  obtain ⟨A, c, rfl, hc⟩ := hv.form
  by_cases h8 : 8 < ss.length
  · have hd1 : decide ((8 : Int) < (ss.length : Int)) = true := by simp; omega
    go_enter Tryz.func32, Tryz.ntmps32
    go_wp2_with fail
    go_ret2
    exact joinEnds_no (by omega) (Below.refl _ _)
  · have hd1 : decide ((8 : Int) < (ss.length : Int)) = false := by simp; omega
    by_cases hf6 : 65536 < f.size
    · have hd2 : decide ((65536 : Int) < (f.size : Int)) = true := by simp; omega
      go_enter Tryz.func32, Tryz.ntmps32
      go_wp2_with fail
      go_ret2
      exact joinEnds_no (by omega) (Below.refl _ _)
    · have hd2 : decide ((65536 : Int) < (f.size : Int)) = false := by simp; omega
      go_enter Tryz.func32, Tryz.ntmps32
      go_wp2_with fail
      go_loopw [6, 7, 8, 9] (fun n o b i wr => ∃ (k : Nat) (ob bb : ByteArray), k ≤ ss.length ∧ i = .int .i64 k ∧ n = .int .i64 ((f.size : Int) + 4 * (ss.length : Int) + (strSum (ss.take k) : Int)) ∧ strSum (ss.take k) ≤ 65536 * k ∧
          o = .string ob ∧ ob.data.toList = head1 f ss k ∧ b = .string bb ∧ bb.data.toList = (txts (ss.take k)).flatten ∧ Below w.heap.size w wr) (fun _ _ _ i _ => ss.length - (intOf i).toNat)
      case atStart => exact ⟨0, f, ⟨#[]⟩, Nat.zero_le _, rfl, by rw [strSum_zero]; go_num, by rw [strSum_zero]; omega, rfl, by simp [head1, txts, placesOf], rfl, by simp [txts], Below.refl _ _⟩
      case round =>
        obtain ⟨k, ob, bb, hk, rfl, rfl, hsk, rfl, hob, rfl, hbb, hb⟩ := hrel
        have hobs : ob.size ≤ 65600 := by rw [← size_list, hob, head1_length f ss k hk]; omega
        have hbbs : bb.size ≤ 600000 := by rw [← size_list, hbb]; show strSum (ss.take k) ≤ _; omega
        have HO := Lib.hid hob
        have HB := Lib.hid hbb
        clear hob hbb
        have hz := hb.size
        by_cases hlt : k < ss.length
        · obtain ⟨ad, rfl, hbl, hcell⟩ := (hv.below hb (Nat.le_refl _)).at_ hlt
          have hlti : (k : Int) < (ss.length : Int) := by omega
          by_cases hp6 : 65536 < ss[k].size
          · have hd3 : decide ((65536 : Int) < (ss[k].size : Int)) = true := by simp; omega
            have hno : ¬ (ss.length ≤ 8 ∧ f.size + 4 * ss.length + strSum ss ≤ 65536) := by
              have := strSum_mem ss k hlt; omega
            go_wp2_with fail
            go_ret2
            exact joinEnds_no hno hb
          · have hd3 : decide ((65536 : Int) < (ss[k].size : Int)) = false := by simp; omega
            have H1 := Lib.hid (strSum_take ss k hlt)
            generalize hx : ss[k] = x at *
            have HX := Lib.hid hx
            clear hx
            go_wp2_with fail
            with_reducible refine (xrefPut_int _ (f.size + 4 * ss.length + strSum (ss.take k)) _ _ (by simp)).mono ?_
            rintro e w2 ⟨rfl, hb2⟩
            rw [putOf_four]
            have hcell2 : w2.cell? (ad.add k) = some (.string x) := by
              rw [hb2.cell (by rw [add_block]; omega)]; exact hcell
            have hbn : Below w.heap.size w w2 := hb.trans (hb2.mono hz)
            have hqs : (ByteArray.mk (leBytes (f.size + 4 * ss.length + strSum (ss.take k)) 4).toArray).size ≤ 4 := by rw [size_mk, leBytes_length]; omega
            generalize hq : ByteArray.mk (leBytes (f.size + 4 * ss.length + strSum (ss.take k)) 4).toArray = q at *
            have HQ := Lib.hid (show q.data.toList = leBytes (f.size + 4 * ss.length + strSum (ss.take k)) 4 by rw [← hq])
            clear hq hcell hb hb2
            go_wp2_with fail
            go_roundw
            case rel =>
              refine ⟨k + 1, ob ++ q, bb ++ x, by omega, by go_num, by rw [H1.out]; go_num, by rw [H1.out]; omega, rfl, ?_, rfl, ?_, hbn⟩
              · rw [cat_list, HO.out, HQ.out, head1_step f ss k (by omega)]
              · rw [cat_list, HB.out, txts_take ss k (by omega), HX.out]; simp
            case measure => simp [intOf]; omega
        · have hke : ss.take k = ss := List.take_of_length_le (by omega)
          have hkl : k = ss.length := by omega
          by_cases htot : 65536 < f.size + 4 * ss.length + strSum (ss.take k)
          · have hd4 : decide ((65536 : Int) < (f.size : Int) + 4 * (ss.length : Int) + (strSum (ss.take k) : Int)) = true := by simp; omega
            have hno : ¬ (ss.length ≤ 8 ∧ f.size + 4 * ss.length + strSum ss ≤ 65536) := by rw [hke] at htot; omega
            clear hke hkl
            generalize strSum (ss.take k) = sk at *
            go_wp2_with fail
            go_ret2
            exact joinEnds_no hno hb
          · have hd4 : decide ((65536 : Int) < (f.size : Int) + 4 * (ss.length : Int) + (strSum (ss.take k) : Int)) = false := by simp; omega
            have hfin : f.size + 4 * ss.length + strSum ss ≤ 65536 := by rw [hke] at htot; omega
            have HW := Lib.hid (show (ob ++ bb).data.toList = wholeOf f.data.toList (txts ss) by
              rw [cat_list, HO.out, HB.out, ← head2_end, hkl]; rfl)
            clear hke hkl
            generalize strSum (ss.take k) = sk at *
            go_wp2_with fail
            go_ret2
            exact joinEnds_yes (by omega) hfin HW.out hb
theorem refJoin_any (f : ByteArray) (ss : List ByteArray) (v : Value) (w : World) (hv : Strs w w.heap.size v ss) (hc9 : ss.length ≤ 9223372036854775807) (hf9 : f.size ≤ 9223372036854775807) :
    Calls Tryz.prog 32 #[.string f, v] w fun e w' => e = .returned (.tuple #[.string ⟨(joinOf f.data.toList (txts ss)).1.toArray⟩, .int .i64 (joinOf f.data.toList (txts ss)).2]) ∧ Below w.heap.size w w' :=
  refJoin_ends f ss v w hv hc9 hf9
theorem rgives {s : ByteArray} {fixed many : Int} {w w' : World} {y : Int} (h : splitOf s.data.toList fixed many = ([], [], y)) (hb : Below w.heap.size w w') :
    SplitGives w (splitOf s.data.toList fixed many) (.returned (.tuple #[.string ⟨#[]⟩, .slice none 0 0, .int .i64 y])) w' := by
  rw [h]; exact ⟨_, [], rfl, Strs.nil _ _, fromOn_nil _, rfl, hb⟩
theorem stopAt_lt (s : Text) (fixed many j : Nat) (h : s.length ≤ 65536) : stopAt s fixed many j < 4294967296 := by
  unfold stopAt; split
  · exact numAt_lt _ _
  · omega
theorem refnum_int (s : ByteArray) (a b : Nat) (w : World) (hb : b = a + 4) (h : b ≤ s.size) :
    Calls Tryz.prog 70 #[.string (s.extract a b)] w fun e w' => e = .returned (.int .u64 (numAt s.data.toList a)) ∧ w = w' := by
  subst hb
  have hx : (s.extract a (a + 4)).size ≤ 8 := by rw [ext_size _ _ _ h]; omega
  have he : leNum (s.extract a (a + 4)).data.toList = numAt s.data.toList a := by
    rw [ext_list]; unfold numAt; rw [show a + 4 - a = 4 by omega]
  have := refnumber_any (s.extract a (a + 4)) w hx
  rw [he] at this
  exact this
set_option maxHeartbeats 2000000 in
set_option maxRecDepth 100000 in
theorem refSplit_ok (s : ByteArray) (fixed many : Nat) (w : World) (hf : fixed ≤ 65536) (hm : many ≤ 8) (hl : s.size ≤ 65536) (h : fixed + 4 * many ≤ s.size) :
    Calls Tryz.prog 39 #[.string s, .int .i64 fixed, .int .i64 many] w (SplitGives w (splitOf s.data.toList fixed many)) := by
  obtain ⟨i0, hi, hz0, hz1, hz2⟩ := info_parts info_str
  have hd0 : decide ((fixed : Int) < 0) = false := by simp
  have hd00 : decide ((many : Int) < 0) = false := by simp
  have hd1 : decide ((65536 : Int) < (fixed : Int)) = false := by simp; omega
  have hd2 : decide ((8 : Int) < (many : Int)) = false := by simp; omega
  have hd3 : decide ((65536 : Int) < (s.size : Int)) = false := by simp; omega
  have hd4 : decide ((s.size : Int) < (fixed : Int) + 4 * (many : Int)) = false := by simp; omega
  go_enter Tryz.func39, Tryz.ntmps39
  go_wp2_with fail
  go_loopw [9, 10] (fun o i wr => ∃ k : Nat, k ≤ many ∧ i = .int .i64 k ∧ wr.ownsRow w.heap.size 9 1 o k ((fparts s fixed many k).map Value.string) ∧ (∀ j, j < k → partOk s.data.toList fixed many j = true) ∧ Below w.heap.size w wr) (fun _ i _ => many - (intOf i).toNat)
  case atStart => exact ⟨0, Nat.zero_le _, rfl, World.ownsRow_nil _ _ _ _, fun j hj => absurd hj (by omega), Below.refl _ _⟩
  case round =>
    obtain ⟨k, hk, rfl, hown, hall, hb⟩ := hrel
    clear hd0 hd00 hd1 hd2 hd3 hd4
    have HA := Lib.hid hall
    clear hall
    have hz := hb.size
    by_cases hlt : k < many
    · have hfr := numAt_lt s.data.toList (fixed + 4 * k)
      by_cases hlast : k + 1 < many
      · have hdn : decide ((k : Int) + 1 < (many : Int)) = true := by simp; omega
        have hto := numAt_lt s.data.toList (fixed + 4 * k + 4)
        generalize hfe : numAt s.data.toList (fixed + 4 * k) = fr at *
        have HF := Lib.hid hfe
        generalize hte : numAt s.data.toList (fixed + 4 * k + 4) = to at *
        have HS := Lib.hid (show stopAt s.data.toList fixed many k = to by unfold stopAt; rw [if_pos hlast]; exact hte)
        have HT := Lib.hid hte
        clear hfe hte
        go_wp2_with fail
        with_reducible refine (refnum_int s _ _ _ ?_ ?_).mono ?_
        · omega
        · omega
        rintro e w1 ⟨rfl, rfl⟩
        rw [HF.out]
        go_wp2_with fail
        with_reducible refine (refnum_int s _ _ _ ?_ ?_).mono ?_
        · omega
        · omega
        rintro e w1 ⟨rfl, rfl⟩
        rw [HT.out]
        by_cases hgt : to < fr
        · have hdg : decide (to < fr) = true := by simpa using hgt
          have HN := Lib.hid (splitOf_fwd_no s fixed many hf hm hl h (.inl ⟨k, hlt, by unfold partOk; rw [HS.out, HF.out]; simp; omega⟩))
          go_wp2_with fail
          go_ret3
          exact rgives HN.out hb
        · have hdg : decide (to < fr) = false := by simpa using hgt
          by_cases hgl : s.size < to
          · have hdl : decide (s.size < to) = true := by simpa using hgl
            have HN := Lib.hid (splitOf_fwd_no s fixed many hf hm hl h (.inl ⟨k, hlt, by unfold partOk; rw [HS.out, HF.out, size_list]; simp; omega⟩))
            go_wp2_with fail
            go_ret3
            exact rgives HN.out hb
          · have hdl : decide (s.size < to) = false := by simpa using hgl
            have hown' : ∀ g, u9.ownBlock = some g → w.heap.size ≤ g := fun g hg => (hown.lt g hg).1
            have HP := Lib.hid (show fpart s fixed many k = s.extract fr to by unfold fpart; rw [HS.out, HF.out])
            have HQ := Lib.hid (show partOk s.data.toList fixed many k = true by unfold partOk; rw [HS.out, HF.out, size_list]; simp; omega)
            go_wp2_with (at_builtin; refine wpList_append_own _ rfl _ _ 51 rfl w.heap.size 9 i0 (.string ⟨#[]⟩) 1 16 Tryz.underlying51 hi hz0 hz1 hz2 rfl (by decide) _ _ _ rfl (hown.alloc _) ⟨wr.heap.size, 0, none⟩ 1 1 [.string (s.extract fr to)] rfl rfl ?c1 ?c2 ?c3 ?c4 ?c5 ?_)
            case c1 =>
              intro j u hj
              match j, hj with
              | 0, hj => simp at hj; subst hj; simp [Addr.add]
            case c2 => intro u hu; simp at hu; subst hu; rfl
            case c3 => unfold maxLen; omega
            case c4 => omega
            case c5 => simp; omega
            intro v' w1 hown1 hgrow _
            have R : w1.ownsRow w.heap.size 9 1 v' (k + 1) ((fparts s fixed many (k + 1)).map Value.string) := by
              rw [fparts_succ, List.map_append, HP.out]; exact hown1
            have hbn : Below w.heap.size w w1 := (hb.alloc hz _).grown hgrow (by simp; omega) (fun g hg => hown' g hg)
            clear hown1 hgrow hown hb hown'
            go_wp2_with fail
            go_roundw
            case rel =>
              refine ⟨k + 1, by omega, by go_num, R, ?_, hbn⟩
              intro j hj
              by_cases hjk : j < k
              · exact HA.out j hjk
              · rw [show j = k by omega]; exact HQ.out
            case measure => simp [intOf]; omega
      · have hdn : decide ((k : Int) + 1 < (many : Int)) = false := by simp; omega
        generalize hfe : numAt s.data.toList (fixed + 4 * k) = fr at *
        have HF := Lib.hid hfe
        have HS := Lib.hid (show stopAt s.data.toList fixed many k = s.size by unfold stopAt; rw [if_neg hlast, size_list])
        clear hfe
        go_wp2_with fail
        with_reducible refine (refnum_int s _ _ _ ?_ ?_).mono ?_
        · omega
        · omega
        rintro e w1 ⟨rfl, rfl⟩
        rw [HF.out]
        by_cases hgt : s.size < fr
        · have hdg : decide (s.size < fr) = true := by simpa using hgt
          have HN := Lib.hid (splitOf_fwd_no s fixed many hf hm hl h (.inl ⟨k, hlt, by unfold partOk; rw [HS.out, HF.out]; simp; omega⟩))
          go_wp2_with fail
          go_ret3
          exact rgives HN.out hb
        · have hdg : decide (s.size < fr) = false := by simpa using hgt
          have hdl : decide (s.size < s.size) = false := by simp
          have hown' : ∀ g, u9.ownBlock = some g → w.heap.size ≤ g := fun g hg => (hown.lt g hg).1
          have HP := Lib.hid (show fpart s fixed many k = s.extract fr s.size by unfold fpart; rw [HS.out, HF.out])
          have HQ := Lib.hid (show partOk s.data.toList fixed many k = true by unfold partOk; rw [HS.out, HF.out, size_list]; simp; omega)
          go_wp2_with (at_builtin; refine wpList_append_own _ rfl _ _ 51 rfl w.heap.size 9 i0 (.string ⟨#[]⟩) 1 16 Tryz.underlying51 hi hz0 hz1 hz2 rfl (by decide) _ _ _ rfl (hown.alloc _) ⟨wr.heap.size, 0, none⟩ 1 1 [.string (s.extract fr s.size)] rfl rfl ?e1 ?e2 ?e3 ?e4 ?e5 ?_)
          case e1 =>
            intro j u hj
            match j, hj with
            | 0, hj => simp at hj; subst hj; simp [Addr.add]
          case e2 => intro u hu; simp at hu; subst hu; rfl
          case e3 => unfold maxLen; omega
          case e4 => omega
          case e5 => simp; omega
          intro v' w1 hown1 hgrow _
          have R : w1.ownsRow w.heap.size 9 1 v' (k + 1) ((fparts s fixed many (k + 1)).map Value.string) := by
            rw [fparts_succ, List.map_append, HP.out]; exact hown1
          have hbn : Below w.heap.size w w1 := (hb.alloc hz _).grown hgrow (by simp; omega) (fun g hg => hown' g hg)
          clear hown1 hgrow hown hb hown'
          go_wp2_with fail
          go_roundw
          case rel =>
            refine ⟨k + 1, by omega, by go_num, R, ?_, hbn⟩
            intro j hj
            by_cases hjk : j < k
            · exact HA.out j hjk
            · rw [show j = k by omega]; exact HQ.out
          case measure => simp [intOf]; omega
    · obtain rfl : k = many := by omega
      have hown2 : wr.ownsRow w.heap.size 9 1 u9 (fparts s fixed k k).length ((fparts s fixed k k).map Value.string) := by rw [fparts_length]; exact hown
      have hvs := Strs.own hown2
      have hfrom : FromOn w.heap.size u9 := fun ad n c e => by subst e; exact (hown.lt ad.block rfl).1
      have hsz : (s.extract 0 fixed).size ≤ 65536 := by rw [ext_size _ _ _ (by omega)]; omega
      have hfl := fparts_length s fixed k k
      have HE := Lib.hid (show (s.extract 0 fixed).data.toList = s.data.toList.take fixed by rw [ext_list]; simp)
      have hlen : (fparts s fixed k k).length ≤ 8 := by omega
      clear hown hown2 hfl
      obtain ⟨A, c, rfl, hcc⟩ := hvs.form
      by_cases hj : wholeOf (s.data.toList.take fixed) (txts (fparts s fixed k k)) = s.data.toList
      · have HY := Lib.hid (splitOf_fwd_yes s fixed k hm hl h hj)
        have HJ := Lib.hid (joinOf_of_split (splitOf_fwd_yes s fixed k hm hl h hj))
        generalize fparts s fixed k k = qs at *
        clear hj
        go_wp2_with fail
        with_reducible refine (refJoin_any _ _ _ _ hvs (by omega) (by omega)).mono ?_
        rintro e w1 ⟨rfl, hb1⟩
        rw [HE.out, HJ.out]
        have hxx : (ByteArray.mk (s.data.toList).toArray) = s := by apply WideShapes.bytes_inj; simp
        rw [hxx]
        have hvs1 := (hvs.below hb1 (Nat.le_refl _)).more hb1.size
        have hbn : Below w.heap.size w w1 := hb.trans (hb1.mono hz)
        clear hb1 hb hvs hxx
        go_wp2_with fail
        go_ret3
        rw [HY.out]
        exact ⟨_, qs, by rw [← ext_zero]; rfl, hvs1, hfrom, rfl, hbn⟩
      · have HN := Lib.hid (splitOf_fwd_no s fixed k hf hm hl h (.inr hj))
        have hcase : (∃ t : Text, t ≠ s.data.toList ∧ joinOf (s.data.toList.take fixed) (txts (fparts s fixed k k)) = (t, 0)) ∨ joinOf (s.data.toList.take fixed) (txts (fparts s fixed k k)) = ([], 4) := by
          unfold joinOf
          split
          · exact .inl ⟨_, hj, rfl⟩
          · exact .inr rfl
        generalize fparts s fixed k k = qs at *
        clear hj
        rcases hcase with ⟨t, htn, hjo⟩ | hjo
        · have HJ := Lib.hid hjo
          have hne : (t == s.toList) = false := beq_eq_false_iff_ne.2 (by rw [ByteArray.toList_eq]; exact htn)
          clear hjo
          go_wp2_with fail
          with_reducible refine (refJoin_any _ _ _ _ hvs (by omega) (by omega)).mono ?_
          rintro e w1 ⟨rfl, hb1⟩
          rw [HE.out, HJ.out]
          have hbn : Below w.heap.size w w1 := hb.trans (hb1.mono hz)
          clear hb1 hb hvs
          go_wp2_with fail
          go_ret3
          exact rgives HN.out hbn
        · have HJ := Lib.hid hjo
          clear hjo
          go_wp2_with fail
          with_reducible refine (refJoin_any _ _ _ _ hvs (by omega) (by omega)).mono ?_
          rintro e w1 ⟨rfl, hb1⟩
          rw [HE.out, HJ.out]
          have hbn : Below w.heap.size w w1 := hb.trans (hb1.mono hz)
          clear hb1 hb hvs
          go_wp2_with fail
          go_ret3
          exact rgives HN.out hbn
theorem refSplit_any (s : ByteArray) (fixed many : Int) (w : World) (hs : s.size ≤ 9223372036854775807) :
    Calls Tryz.prog 39 #[.string s, .int .i64 fixed, .int .i64 many] w (SplitGives w (splitOf s.data.toList fixed many)) := by
  by_cases h1 : 0 ≤ fixed ∧ fixed ≤ 65536
  · have hd0 : decide (fixed < 0) = false := by simp; omega
    have hd1 : decide (65536 < fixed) = false := by simp; omega
    by_cases h2 : 0 ≤ many ∧ many ≤ 8
    · obtain ⟨f, rfl⟩ := Int.eq_ofNat_of_zero_le h1.1
      obtain ⟨m, rfl⟩ := Int.eq_ofNat_of_zero_le h2.1
      by_cases h3 : s.size ≤ 65536
      · by_cases h4 : f + 4 * m ≤ s.size
        · exact refSplit_ok s f m w (by omega) (by omega) h3 h4
        · have HN := Lib.hid (show splitOf s.data.toList (f : Int) (m : Int) = ([], [], 3) by
            unfold splitOf
            rw [size_list, if_pos h1, if_pos h2, if_pos h3, Int.toNat_natCast, Int.toNat_natCast, if_neg h4])
          have hd2 : decide ((8 : Int) < (m : Int)) = false := by simp; omega
          have hd00 : decide ((m : Int) < 0) = false := by simp
          have hd3 : decide ((65536 : Int) < (s.size : Int)) = false := by simp; omega
          have hd4 : decide ((s.size : Int) < (f : Int) + 4 * (m : Int)) = true := by simp; omega
          go_enter Tryz.func39, Tryz.ntmps39
          go_wp2_with fail
          go_ret3
          exact rgives HN.out (Below.refl _ _)
      · have HN := Lib.hid (show splitOf s.data.toList (f : Int) (m : Int) = ([], [], 4) by
          unfold splitOf
          rw [size_list, if_pos h1, if_pos h2, if_neg h3])
        have hd2 : decide ((8 : Int) < (m : Int)) = false := by simp; omega
        have hd00 : decide ((m : Int) < 0) = false := by simp
        have hd3 : decide ((65536 : Int) < (s.size : Int)) = true := by simp; omega
        go_enter Tryz.func39, Tryz.ntmps39
        go_wp2_with fail
        go_ret3
        exact rgives HN.out (Below.refl _ _)
    · have HN := Lib.hid (show splitOf s.data.toList fixed many = ([], [], 1) by
        unfold splitOf
        rw [if_pos h1, if_neg h2])
      by_cases hm0 : many < 0
      · have hd00 : decide (many < 0) = true := by simp; omega
        go_enter Tryz.func39, Tryz.ntmps39
        go_wp2_with fail
        go_ret3
        exact rgives HN.out (Below.refl _ _)
      · have hd00 : decide (many < 0) = false := by simp; omega
        have hd2 : decide (8 < many) = true := by simp; omega
        go_enter Tryz.func39, Tryz.ntmps39
        go_wp2_with fail
        go_ret3
        exact rgives HN.out (Below.refl _ _)
  · have HN := Lib.hid (show splitOf s.data.toList fixed many = ([], [], 1) by
      unfold splitOf
      rw [if_neg h1])
    by_cases hf0 : fixed < 0
    · have hd0 : decide (fixed < 0) = true := by simp; omega
      go_enter Tryz.func39, Tryz.ntmps39
      go_wp2_with fail
      go_ret3
      exact rgives HN.out (Below.refl _ _)
    · have hd0 : decide (fixed < 0) = false := by simp; omega
      have hd1 : decide (65536 < fixed) = true := by simp; omega
      go_enter Tryz.func39, Tryz.ntmps39
      go_wp2_with fail
      go_ret3
      exact rgives HN.out (Below.refl _ _)
end Go.Proofs.YtieheieiolobaaaGreatDoor
