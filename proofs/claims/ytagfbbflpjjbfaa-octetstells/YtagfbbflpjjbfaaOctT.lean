/- Plain facts on cutting a text forward, as the document's own answer does it. -/
import Derived.Test.YtagfbbflpjjbfaaOctS
namespace Go.Proofs.Ytagfbbflpjjbfaa

/-- Where part j ends: where the next one begins, or the text does. -/
def stopAt (s : Text) (fixed many j : Nat) : Nat := if j + 1 < many then numAt s (fixed + 4 * j + 4) else s.length
def partOk (s : Text) (fixed many j : Nat) : Bool := decide (numAt s (fixed + 4 * j) ≤ stopAt s fixed many j) && decide (stopAt s fixed many j ≤ s.length)
def fpart (s : ByteArray) (fixed many j : Nat) : ByteArray := s.extract (numAt s.data.toList (fixed + 4 * j)) (stopAt s.data.toList fixed many j)
def fparts (s : ByteArray) (fixed many k : Nat) : List ByteArray := (List.range k).map (fpart s fixed many)

theorem fparts_succ (s : ByteArray) (fixed many k : Nat) : fparts s fixed many (k + 1) = fparts s fixed many k ++ [fpart s fixed many k] := by
  unfold fparts; rw [List.range_succ, List.map_append]; rfl
theorem fparts_length (s : ByteArray) (fixed many k : Nat) : (fparts s fixed many k).length = k := by simp [fparts]

theorem sumLen_take (ps : List Text) (j : Nat) (h : j < ps.length) : sumLen (ps.take (j + 1)) = sumLen (ps.take j) + ps[j].length := by
  rw [List.take_succ_eq_append_getElem h, sumLen_append]; simp [sumLen]
theorem sumLen_take_le (ps : List Text) (j : Nat) : sumLen (ps.take j) ≤ sumLen ps := by
  have e : sumLen ps = sumLen (ps.take j) + sumLen (ps.drop j) := by
    conv => lhs; rw [← List.take_append_drop j ps]
    rw [sumLen_append]
  omega
theorem list_at (ps : List Text) (j : Nat) (h : j < ps.length) : ps = ps.take j ++ ps[j] :: ps.drop (j + 1) := by
  conv => lhs; rw [← List.take_append_drop j ps, List.drop_eq_getElem_cons h]

theorem numAt_part (f : Text) (ps : List Text) (j : Nat) (h : j < ps.length) (hl : (wholeOf f ps).length ≤ 65536) :
    numAt (wholeOf f ps) (f.length + 4 * j) = f.length + 4 * ps.length + sumLen (ps.take j) := by
  have e := list_at ps j h
  have hj : (ps.take j).length = j := by rw [List.length_take]; omega
  have h1 := numAt_whole f (ps.take j) ps[j] (ps.drop (j + 1)) (by rw [← e]; exact hl)
  rw [← e, hj] at h1
  exact h1
theorem part_at (f : Text) (ps : List Text) (j : Nat) (h : j < ps.length) :
    ((wholeOf f ps).drop (f.length + 4 * ps.length + sumLen (ps.take j))).take ps[j].length = ps[j] := by
  have e := list_at ps j h
  have h1 := part_whole f (ps.take j) ps[j] (ps.drop (j + 1))
  rw [← e] at h1
  exact h1
theorem stop_part (f : Text) (ps : List Text) (j : Nat) (h : j < ps.length) (hl : (wholeOf f ps).length ≤ 65536) :
    stopAt (wholeOf f ps) f.length ps.length j = f.length + 4 * ps.length + sumLen (ps.take (j + 1)) := by
  unfold stopAt
  by_cases h1 : j + 1 < ps.length
  · rw [if_pos h1]
    have := numAt_part f ps (j + 1) h1 hl
    rw [show f.length + 4 * (j + 1) = f.length + 4 * j + 4 by omega] at this
    exact this
  · rw [if_neg h1, wholeOf_length, List.take_of_length_le (by omega)]

theorem partOk_whole (f : Text) (ps : List Text) (j : Nat) (h : j < ps.length) (hl : (wholeOf f ps).length ≤ 65536) : partOk (wholeOf f ps) f.length ps.length j = true := by
  unfold partOk
  rw [numAt_part f ps j h hl, stop_part f ps j h hl, wholeOf_length, sumLen_take ps j h]
  have := sumLen_take_le ps (j + 1)
  rw [sumLen_take ps j h] at this
  simp; omega

theorem fparts_whole (s : ByteArray) (f : Text) (ps : List Text) (hs : s.data.toList = wholeOf f ps) (hl : (wholeOf f ps).length ≤ 65536) : txts (fparts s f.length ps.length ps.length) = ps := by
  apply List.ext_getElem
  · simp [txts, fparts]
  · intro j h1 h2
    simp only [txts, fparts, List.getElem_map, List.getElem_range, fpart]
    rw [ext_list, hs, numAt_part f ps j h2 hl, stop_part f ps j h2 hl, sumLen_take ps j h2]
    have e : f.length + 4 * ps.length + (sumLen (ps.take j) + ps[j].length) - (f.length + 4 * ps.length + sumLen (ps.take j)) = ps[j].length := by omega
    rw [e, part_at f ps j h2]

/-- If all parts are cut well and join to the same text, Split tells them; else ErrForm. -/
theorem splitOf_fwd_yes (s : ByteArray) (fixed many : Nat) (hm : many ≤ 8) (hl : s.size ≤ 65536) (h : fixed + 4 * many ≤ s.size)
    (hj : wholeOf (s.data.toList.take fixed) (txts (fparts s fixed many many)) = s.data.toList) :
    splitOf s.data.toList (fixed : Int) (many : Int) = (s.data.toList.take fixed, txts (fparts s fixed many many), 0) := by
  have hfl : (s.data.toList.take fixed).length = fixed := by rw [List.length_take, size_list]; omega
  have hpl : (txts (fparts s fixed many many)).length = many := by rw [txts_length, fparts_length]
  have hw := wholeOf_length (s.data.toList.take fixed) (txts (fparts s fixed many many))
  rw [hj, size_list, hfl, hpl] at hw
  have h1 := splitOf_of_whole (s.data.toList.take fixed) (txts (fparts s fixed many many)) (by rw [hpl]; exact hm) (by rw [hfl, hpl]; omega)
  rw [hfl, hpl, hj] at h1
  exact h1

theorem splitOf_fwd_no (s : ByteArray) (fixed many : Nat) (hf : fixed ≤ 65536) (hm : many ≤ 8) (hl : s.size ≤ 65536) (h : fixed + 4 * many ≤ s.size)
    (hno : (∃ j, j < many ∧ partOk s.data.toList fixed many j = false) ∨ wholeOf (s.data.toList.take fixed) (txts (fparts s fixed many many)) ≠ s.data.toList) :
    splitOf s.data.toList (fixed : Int) (many : Int) = ([], [], 2) := by
  have hc : splitOf s.data.toList (fixed : Int) (many : Int) = (match cutBack s.data.toList fixed (fixed + 4 * many) many s.data.toList.length [] with | some ps => (s.data.toList.take fixed, ps, 0) | none => ([], [], 2)) := by
    unfold splitOf
    rw [if_pos (by omega), if_pos (by omega), if_pos (by rw [size_list]; exact hl), Int.toNat_natCast, Int.toNat_natCast, if_pos (by rw [size_list]; exact h)]
    rfl
  cases hcb : cutBack s.data.toList fixed (fixed + 4 * many) many s.data.toList.length [] with
  | none => rw [hc, hcb]
  | some ps =>
    exfalso
    obtain ⟨e1, e2⟩ := cutBack_whole s.data.toList fixed many ps (by rw [size_list]; exact h) hcb
    have hfl : (s.data.toList.take fixed).length = fixed := by rw [List.length_take, size_list]; omega
    have hlw : (wholeOf (s.data.toList.take fixed) ps).length ≤ 65536 := by rw [e2, size_list]; exact hl
    rcases hno with ⟨j, hj, hbad⟩ | hne
    · have := partOk_whole (s.data.toList.take fixed) ps j (by omega) hlw
      rw [e2, hfl, e1, hbad] at this
      cases this
    · have := fparts_whole s (s.data.toList.take fixed) ps e2.symm hlw
      rw [hfl, e1] at this
      rw [this] at hne
      exact hne e2
end Go.Proofs.Ytagfbbflpjjbfaa
