/- octets.Split: split where the counts are right. -/
import Derived.Test.YtagfbbflpjjbfaaOctG
namespace Go.Proofs.Ytagfbbflpjjbfaa
open Go.RowKit

theorem info_str : (Try.prog.info? 9).map (fun i => (i.zero, i.size, i.bytes)) = some (some (.string ⟨#[]⟩), 1, 16) := by kernel_rfl

def strVals (ss : List ByteArray) : List Value := ss.map Value.string
/-- The cells of the parts' list, when those from k on are there. -/
def gapVals (k : Nat) (acc : List ByteArray) : List Value := List.replicate k (Value.string ⟨#[]⟩) ++ strVals acc
theorem gap_cell (k : Nat) (acc : List ByteArray) : (gapVals (k + 1) acc)[k]? = some (.string ⟨#[]⟩) := by
  unfold gapVals
  rw [List.getElem?_append_left (by simp), List.getElem?_replicate, if_pos (by omega)]
theorem gap_set (k : Nat) (acc : List ByteArray) (x : ByteArray) : (gapVals (k + 1) acc).set k (.string x) = gapVals k (x :: acc) := by
  unfold gapVals
  rw [List.replicate_succ', List.append_assoc, List.set_append_right _ _ (by simp)]
  simp [strVals]
theorem gap_zero (acc : List ByteArray) : gapVals 0 acc = strVals acc := rfl

theorem cut_step (s : ByteArray) (fixed body k stop : Nat) (acc : List ByteArray) (h : numAt s.data.toList (fixed + 4 * k) ≤ stop) :
    cutBack s.data.toList fixed body (k + 1) stop (txts acc) = cutBack s.data.toList fixed body k (numAt s.data.toList (fixed + 4 * k)) (txts (s.extract (numAt s.data.toList (fixed + 4 * k)) stop :: acc)) := by
  simp only [cutBack, if_pos h, txts, List.map_cons, ext_list]

/-- How split ends, where the counts are right. -/
def SplitEnds (s : ByteArray) (fixed many : Nat) (w : World) (e : Ending) (w' : World) : Prop :=
  match cutBack s.data.toList fixed (fixed + 4 * many) many s.size [] with
  | some ps => ∃ v qs, e = .returned (.tuple #[.string (s.extract 0 fixed), v]) ∧ Strs w' w'.heap.size v qs ∧ FromOn w.heap.size v ∧ txts qs = ps ∧ Below w.heap.size w w'
  | none => Panics 2 w e w'

theorem ends_some {s : ByteArray} {fixed many : Nat} {w w' : World} {v : Value} {qs : List ByteArray} (h : cutBack s.data.toList fixed (fixed + 4 * many) many s.size [] = some (txts qs))
    (hv : Strs w' w'.heap.size v qs) (hfr : FromOn w.heap.size v) (hb : Below w.heap.size w w') : SplitEnds s fixed many w (.returned (.tuple #[.string (s.extract 0 fixed), v])) w' := by
  unfold SplitEnds; rw [h]; exact ⟨v, qs, rfl, hv, hfr, rfl, hb⟩
theorem ends_none {s : ByteArray} {fixed many : Nat} {w w' : World} (h : cutBack s.data.toList fixed (fixed + 4 * many) many s.size [] = none)
    (hb : Below w.heap.size w w') : SplitEnds s fixed many w (.panicked [{ v := .iface 28 (.int .i64 2), recovered := false }]) w' := by
  unfold SplitEnds; rw [h]; exact ⟨rfl, hb⟩

set_option maxHeartbeats 2000000 in
theorem split_ok (s : ByteArray) (fixed many : Nat) (w : World) (hf : fixed ≤ 65536) (hm : many ≤ 8) (hl : s.size ≤ 65536) (h : fixed + 4 * many ≤ s.size) :
    Calls Try.prog 28 #[.string s, .int .i64 fixed, .int .i64 many] w (SplitEnds s fixed many w) := by
  have hd0 : decide ((fixed : Int) ≤ 65536) = true := by simp; omega
  have hd1 : decide ((many : Int) ≤ 8) = true := by simp; omega
  have hd2 : decide ((s.size : Int) ≤ 65536) = true := by simp; omega
  have hd3 : decide ((fixed : Int) + 4 * (many : Int) ≤ (s.size : Int)) = true := by simp; omega
  obtain ⟨i0, hi, hz0, hz1, hz2⟩ := info_parts info_str
  obtain ⟨M, hM⟩ : ∃ M, M = madeCells (Value.string ⟨#[]⟩).cells (many * i0.size) := ⟨_, rfl⟩
  have hMs : M.toList = List.replicate many (.string ⟨#[]⟩) := by rw [hM, hz1, Nat.mul_one]; exact toList_madeCells_one _ _
  have hmk : ∀ W : World, (Instr.makeSlice 23 (.int .i64 (many : Int)) (.int .i64 (many : Int))).run Try.prog W = .ok (.slice (some ⟨W.heap.size, 0, none⟩) many many) (W.alloc (.cells M 9)) := fun W => by
    have hr := run_make (P := Try.prog) W 23 9 i0 (.string ⟨#[]⟩) Try.underlying23 hi hz0 .i64 .i64 (many : Int) (many : Int) (by omega) (by omega) (by rw [hz2]; omega) (by omega)
    rw [hM]
    simpa using hr
  clear hM hi hz0 hz1 hz2
  go_enter Try.func28, Try.ntmps28
  go_wp2_with fail
  with_reducible refine (demand_yes _ _).mono ?_
  rintro e w1 ⟨rfl, rfl⟩
  go_wp2_with fail
  with_reducible refine (demand_yes _ _).mono ?_
  rintro e w1 ⟨rfl, rfl⟩
  go_wp2_with fail
  with_reducible refine (demand_yes _ _).mono ?_
  rintro e w1 ⟨rfl, rfl⟩
  go_wp2_with fail
  with_reducible refine (demand_yes _ _).mono ?_
  rintro e w1 ⟨rfl, rfl⟩
  go_wp2_with fail
  clear hd0 hd1 hd2 hd3 hmk
  go_loopw [10, 11] (fun t i wr => ∃ (k stop : Nat) (acc : List ByteArray), k ≤ many ∧ i = .int .i64 ((k : Int) - 1) ∧ stop ≤ s.size ∧ t = .int .i64 (stop : Int) ∧ k + acc.length = many ∧
      RowAt wr w.heap.size 9 (gapVals k acc) ∧ Below w.heap.size w wr ∧ cutBack s.data.toList fixed (fixed + 4 * many) many s.size [] = cutBack s.data.toList fixed (fixed + 4 * many) k stop (txts acc)) (fun _ i _ => (intOf i + 1).toNat)
  case atStart => exact ⟨many, s.size, [], Nat.le_refl _, rfl, Nat.le_refl _, rfl, rfl, by simpa [gapVals, strVals, hMs] using RowAt.new w 9 M, (Below.refl _ _).alloc (Nat.le_refl _) _, rfl⟩
  case round =>
    obtain ⟨k, stop, acc, hk, rfl, hst, rfl, hka, hrow, hb, hcut⟩ := hrel
    have HC := Lib.hid hcut
    have HM := Lib.hid hMs
    clear hcut hMs
    match k, hk, hka, hrow, HC with
    | 0, hk, hka, hrow, HC =>
      by_cases hbody : stop = fixed + 4 * many
      · have hd : ((stop : Int) == (fixed : Int) + 4 * (many : Int)) = true := beq_iff_eq.2 (by omega)
        have hacc : acc.length = many := by omega
        have hx2 : (s.extract 0 fixed).size ≤ 281474976710656 := by rw [ext_size _ _ _ (by omega)]; omega
        have HE := Lib.hid (show cutBack s.data.toList fixed (fixed + 4 * many) many s.size [] = some (txts acc) by
          have := HC.out
          rw [this]; simp [cutBack, hbody])
        have HB := Lib.hid hbody
        have HA := Lib.hid hacc
        clear hbody hacc HC
        go_wp2_with fail
        with_reducible refine (demand_yes _ _).mono ?_
        rintro e w1 ⟨rfl, rfl⟩
        go_wp2_with fail
        with_reducible refine (clone_any _ _ hx2).mono ?_
        rintro e w2 ⟨rfl, hb2⟩
        have hz := hb.size
        have hrow2 := hrow.below hb2 hrow.lt
        have hbn : Below w.heap.size w w2 := hb.trans (hb2.mono hz)
        clear hrow hb hb2
        go_wp2_with fail
        go_ret2
        have hv := Strs.row (ss := acc) hrow2
        rw [HA.out] at hv
        exact ends_some HE.out hv (fun ad n c e => by injection e with e _ _; injection e with e; subst e; exact Nat.le_refl _) hbn
      · have hd : ((stop : Int) == (fixed : Int) + 4 * (many : Int)) = false := beq_eq_false_iff_ne.2 (by omega)
        have HE := Lib.hid (show cutBack s.data.toList fixed (fixed + 4 * many) many s.size [] = none by
          have := HC.out
          rw [this]; simp [cutBack, hbody])
        clear hbody HC
        go_wp2_with fail
        with_reducible refine (demand_no _ _).mono ?_
        rintro e w1 ⟨rfl, rfl⟩
        exact ⟨rfl, ends_none HE.out hb⟩
    | k + 1, hk, hka, hrow, HC =>
      generalize hpl : numAt s.data.toList (fixed + 4 * k) = place
      have HP := Lib.hid hpl
      clear hpl
      have hplt : place < 4294967296 := by rw [← HP.out]; exact numAt_lt _ _
      by_cases hle : place ≤ stop
      · have hd : decide (place ≤ stop) = true := by simpa using hle
        have HE := Lib.hid (cut_step s fixed (fixed + 4 * many) k stop acc (by rw [HP.out]; exact hle))
        have hx2 : (s.extract place stop).size ≤ 281474976710656 := by rw [ext_size _ _ _ hst]; omega
        have hc : wr.cell? ⟨w.heap.size, k, none⟩ = some (.string ⟨#[]⟩) := by rw [hrow.cell, gap_cell]
        have hfz := hrow.frozen k
        go_wp2_with fail
        with_reducible refine (placeAt_int s _ (fixed + 4 * k) _ (by simp) (by omega) hl).mono ?_
        rintro e w1 ⟨rfl, rfl⟩
        rw [HP.out]
        go_wp2_with fail
        with_reducible refine (demand_yes _ _).mono ?_
        rintro e w1 ⟨rfl, rfl⟩
        go_wp2_with fail
        with_reducible refine (clone_any _ _ hx2).mono ?_
        rintro e w2 ⟨rfl, hb2⟩
        have hz := hb.size
        have hrow2 := hrow.below hb2 hrow.lt
        have hc2 : w2.cell? ⟨w.heap.size, k, none⟩ = some (.string ⟨#[]⟩) := by rw [hrow2.cell, gap_cell]
        have hfz2 := hrow2.frozen k
        have hrow3 := hrow2.set k (.string (s.extract place stop))
        rw [gap_set] at hrow3
        have hbn : Below w.heap.size w (w2.setCell ⟨w.heap.size, k, none⟩ (.string (s.extract place stop))) := (hb.trans (hb2.mono hz)).setCell (Nat.le_refl _) _
        clear hrow hrow2 hb hb2 hc hfz
        go_wp2_with fail
        go_roundw
        case rel => exact ⟨k, place, s.extract place stop :: acc, by omega, by go_num, by omega, rfl, by simp; omega, hrow3, hbn, by rw [HC.out, HE.out, HP.out]⟩
        case measure => simp [intOf]
      · have hd : decide (place ≤ stop) = false := by simpa using hle
        have HE := Lib.hid (show cutBack s.data.toList fixed (fixed + 4 * many) many s.size [] = none by
          have := HC.out
          rw [this]; simp only [cutBack]; rw [HP.out, if_neg hle])
        clear HC
        go_wp2_with fail
        with_reducible refine (placeAt_int s _ (fixed + 4 * k) _ (by simp) (by omega) hl).mono ?_
        rintro e w1 ⟨rfl, rfl⟩
        rw [HP.out]
        go_wp2_with fail
        with_reducible refine (demand_no _ _).mono ?_
        rintro e w1 ⟨rfl, rfl⟩
        exact ⟨rfl, ends_none HE.out hb⟩
end Go.Proofs.Ytagfbbflpjjbfaa
