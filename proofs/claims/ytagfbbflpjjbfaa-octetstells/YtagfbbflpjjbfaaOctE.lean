/- octets.Join. -/
import Derived.Test.YtagfbbflpjjbfaaOctD
import Derived.Test.YtagfbbflpjjbfaaOctQ
namespace Go.Proofs.Ytagfbbflpjjbfaa
open Go.RowKit

def txts (ss : List ByteArray) : List Text := ss.map fun s => s.data.toList
def strSum (ss : List ByteArray) : Nat := sumLen (txts ss)
theorem size_mk (l : Text) : (ByteArray.mk l.toArray).size = l.length := by simp [ByteArray.size]
theorem size_list (s : ByteArray) : s.data.toList.length = s.size := by simp
theorem strSum_take (ss : List ByteArray) (k : Nat) (h : k < ss.length) : strSum (ss.take (k + 1)) = strSum (ss.take k) + ss[k].size := by
  unfold strSum txts
  rw [List.take_succ_eq_append_getElem h, List.map_append, sumLen_append]
  simp [sumLen]
theorem strSum_le (ss : List ByteArray) (k : Nat) : strSum (ss.take k) ≤ strSum ss := by
  have e : ss = ss.take k ++ ss.drop k := (List.take_append_drop k ss).symm
  have h : strSum ss = strSum (ss.take k) + strSum (ss.drop k) := by
    conv => lhs; rw [e]
    unfold strSum txts
    rw [List.map_append, sumLen_append]
  omega
theorem strSum_zero (ss : List ByteArray) : strSum (ss.take 0) = 0 := rfl

set_option maxHeartbeats 1000000 in
theorem demandRoom_yes (f : ByteArray) (ss : List ByteArray) (v : Value) (B : Nat) (w : World) (hv : Strs w B v ss) (h8 : ss.length ≤ 8) (hs : f.size + 4 * ss.length + strSum ss ≤ 65536) :
    Calls Try.prog 33 #[.string f, v] w fun e w' => e = .returned (.tuple #[]) ∧ w = w' := by
  obtain ⟨A, c, rfl, hc⟩ := hv.form
  have hd1 : decide ((ss.length : Int) ≤ 8) = true := by simp; omega
  have hd2 : decide ((f.size : Int) ≤ 65536 - 4 * (ss.length : Int)) = true := by simp; omega
  go_enter Try.func33, Try.ntmps33
  go_wp2_with fail
  with_reducible refine (demand_yes _ _).mono ?_
  rintro e w1 ⟨rfl, rfl⟩
  go_wp2_with fail
  with_reducible refine (demand_yes _ _).mono ?_
  rintro e w1 ⟨rfl, rfl⟩
  go_wp2_with fail
  go_loop [4, 26] (fun r i => ∃ k : Nat, k ≤ ss.length ∧ i = .int .i64 k ∧ r = .int .i64 (65536 - 4 * (ss.length : Int) - (f.size : Int) - (strSum (ss.take k) : Int))) (fun _ i => ss.length - (intOf i).toNat)
  case atStart => exact ⟨0, Nat.zero_le _, rfl, by simp [strSum, txts, sumLen]⟩
  case round =>
    obtain ⟨k, hk, rfl, rfl⟩ := hrel
    by_cases hlt : k < ss.length
    · obtain ⟨ad, rfl, hb, hcell⟩ := hv.at_ hlt
      have h1 := strSum_take ss k hlt
      have h2 := strSum_le ss (k + 1)
      have hd3 : decide ((ss[k].size : Int) ≤ 65536 - 4 * (ss.length : Int) - (f.size : Int) - (strSum (ss.take k) : Int)) = true := by simp; omega
      have H1 := Lib.hid h1
      have hb1 : strSum (ss.take k) + ss[k].size ≤ strSum ss := by omega
      clear h1 h2 hd1 hd2
      go_wp2_with fail
      with_reducible refine (demand_yes _ _).mono ?_
      rintro e w1 ⟨rfl, rfl⟩
      go_wp2_with fail
      go_round
      case rel => exact ⟨k + 1, by omega, by go_num, by rw [H1.out]; go_num⟩
      case measure => simp [intOf]; omega
    · go_wp2_with fail
      go_end0
      exact ⟨rfl, rfl⟩

set_option maxHeartbeats 1000000 in
theorem demandRoom_no (f : ByteArray) (ss : List ByteArray) (v : Value) (B : Nat) (w : World) (hv : Strs w B v ss) (hc9 : ss.length ≤ 9223372036854775807) (hf9 : f.size ≤ 9223372036854775807) (h : ¬ (ss.length ≤ 8 ∧ f.size + 4 * ss.length + strSum ss ≤ 65536)) :
    Calls Try.prog 33 #[.string f, v] w fun e w' => e = .panicked [{ v := .iface 28 (.int .i64 4), recovered := false }] ∧ w = w' := by
  obtain ⟨A, c, rfl, hc⟩ := hv.form
  by_cases h8 : ss.length ≤ 8
  · have hd1 : decide ((ss.length : Int) ≤ 8) = true := by simp; omega
    by_cases hf : f.size ≤ 65536 - 4 * ss.length
    · have hd2 : decide ((f.size : Int) ≤ 65536 - 4 * (ss.length : Int)) = true := by simp; omega
      have hbig : 65536 < f.size + 4 * ss.length + strSum ss := by omega
      clear h
      go_enter Try.func33, Try.ntmps33
      go_wp2_with fail
      with_reducible refine (demand_yes _ _).mono ?_
      rintro e w1 ⟨rfl, rfl⟩
      go_wp2_with fail
      with_reducible refine (demand_yes _ _).mono ?_
      rintro e w1 ⟨rfl, rfl⟩
      go_wp2_with fail
      go_loop [4, 26] (fun r i => ∃ k : Nat, k ≤ ss.length ∧ i = .int .i64 k ∧ 0 ≤ 65536 - 4 * (ss.length : Int) - (f.size : Int) - (strSum (ss.take k) : Int) ∧ r = .int .i64 (65536 - 4 * (ss.length : Int) - (f.size : Int) - (strSum (ss.take k) : Int))) (fun _ i => ss.length - (intOf i).toNat)
      case atStart => exact ⟨0, Nat.zero_le _, rfl, by rw [strSum_zero]; omega, by simp [strSum, txts, sumLen]⟩
      case round =>
        obtain ⟨k, hk, rfl, hr, rfl⟩ := hrel
        by_cases hlt : k < ss.length
        · obtain ⟨ad, rfl, hb, hcell⟩ := hv.at_ hlt
          have h1 := strSum_take ss k hlt
          by_cases hroom : (ss[k].size : Int) ≤ 65536 - 4 * (ss.length : Int) - (f.size : Int) - (strSum (ss.take k) : Int)
          · have hd3 : decide ((ss[k].size : Int) ≤ 65536 - 4 * (ss.length : Int) - (f.size : Int) - (strSum (ss.take k) : Int)) = true := by simpa using hroom
            have H1 := Lib.hid h1
            clear h1 hd1 hd2
            go_wp2_with fail
            with_reducible refine (demand_yes _ _).mono ?_
            rintro e w1 ⟨rfl, rfl⟩
            go_wp2_with fail
            go_round
            case rel => exact ⟨k + 1, by omega, by go_num, by rw [H1.out]; omega, by rw [H1.out]; go_num⟩
            case measure => simp [intOf]; omega
          · have hd3 : decide ((ss[k].size : Int) ≤ 65536 - 4 * (ss.length : Int) - (f.size : Int) - (strSum (ss.take k) : Int)) = false := by simpa using hroom
            clear h1 hd1 hd2
            go_wp2_with fail
            with_reducible refine (demand_no _ _).mono ?_
            rintro e w1 ⟨rfl, rfl⟩
            exact ⟨rfl, rfl, rfl⟩
        · exfalso
          rw [List.take_of_length_le (by omega)] at hr
          omega
    · have hd2 : decide ((f.size : Int) ≤ 65536 - 4 * (ss.length : Int)) = false := by simp; omega
      go_enter Try.func33, Try.ntmps33
      go_wp2_with fail
      with_reducible refine (demand_yes _ _).mono ?_
      rintro e w1 ⟨rfl, rfl⟩
      go_wp2_with fail
      with_reducible refine (demand_no _ _).mono ?_
      rintro e w1 ⟨rfl, rfl⟩
      exact ⟨rfl, rfl, rfl⟩
  · have hd1 : decide ((ss.length : Int) ≤ 8) = false := by simp; omega
    go_enter Try.func33, Try.ntmps33
    go_wp2_with fail
    with_reducible refine (demand_no _ _).mono ?_
    rintro e w1 ⟨rfl, rfl⟩
    exact ⟨rfl, rfl, rfl⟩

theorem ownsRow_keep {w w' : World} {base : Nat} {e : TypeId} {size n : Nat} {v : Value} {xs : List Value} (h : w.ownsRow base e size v n xs) (hb : Below w.heap.size w w') : w'.ownsRow base e size v n xs := by
  obtain ⟨hl, h⟩ := h
  refine ⟨hl, ?_⟩
  rcases h with h | ⟨g, cap, cur, hv, hg, hh, h1, h2, h3, h4⟩
  · exact .inl h
  · refine .inr ⟨g, cap, cur, hv, hg, ?_, h1, h2, h3, h4⟩
    rw [hb.block g ?_]; exact hh
    rcases Nat.lt_or_ge g w.heap.size with k | k
    · exact k
    · rw [Array.getElem?_eq_none k] at hh; cases hh
theorem builderAt_keep {T e : TypeId} {B b : Nat} {p : Value} {bs : List Value} {w w' : World} (h : Lib.BuilderAt T e B b p bs w) (hb : Below w.heap.size w w') : Lib.BuilderAt T e B b p bs w' := by
  have hlt := h.lt
  obtain ⟨hB, v, hh, ho, hn⟩ := h
  exact ⟨hB, v, by rw [hb.block b hlt]; exact hh, ownsRow_keep ho hb, hn⟩
theorem isBuilder_keep {T e : TypeId} {B b : Nat} {bs : List Value} {w w' : World} (h : Lib.IsBuilder T e B b bs w) (hb : Below w.heap.size w w') : Lib.IsBuilder T e B b bs w' :=
  h.elim (fun x => .inl (builderAt_keep x hb)) (fun x => .inr (builderAt_keep x hb))

theorem txts_take (ss : List ByteArray) (k : Nat) (h : k < ss.length) : txts (ss.take (k + 1)) = txts (ss.take k) ++ [ss[k].data.toList] := by
  unfold txts
  rw [List.take_succ_eq_append_getElem h, List.map_append]; rfl
theorem txts_length (ss : List ByteArray) : (txts ss).length = ss.length := by simp [txts]

/-- What the builder holds when k places are written. -/
def head1 (f : ByteArray) (ss : List ByteArray) (k : Nat) : Text := f.data.toList ++ placesOf (f.size + 4 * ss.length) (txts (ss.take k))
theorem head1_step (f : ByteArray) (ss : List ByteArray) (k : Nat) (h : k < ss.length) : head1 f ss (k + 1) = head1 f ss k ++ leBytes (f.size + 4 * ss.length + strSum (ss.take k)) 4 := by
  unfold head1
  rw [txts_take ss k h, placesOf_append, List.append_assoc]
  simp [placesOf, strSum]
theorem head1_length (f : ByteArray) (ss : List ByteArray) (k : Nat) (h : k ≤ ss.length) : (head1 f ss k).length = f.size + 4 * k := by
  unfold head1
  simp [placesOf_length, txts_length]; omega
/-- What it holds when k parts are written, too. -/
def head2 (f : ByteArray) (ss : List ByteArray) (k : Nat) : Text := head1 f ss ss.length ++ (txts (ss.take k)).flatten
theorem head2_step (f : ByteArray) (ss : List ByteArray) (k : Nat) (h : k < ss.length) : head2 f ss (k + 1) = head2 f ss k ++ ss[k].data.toList := by
  unfold head2
  rw [txts_take ss k h, List.append_assoc]
  simp
theorem head2_length (f : ByteArray) (ss : List ByteArray) (k : Nat) : (head2 f ss k).length = f.size + 4 * ss.length + strSum (ss.take k) := by
  unfold head2
  rw [List.length_append, head1_length f ss _ (Nat.le_refl _)]; rfl
theorem head2_end (f : ByteArray) (ss : List ByteArray) : head2 f ss ss.length = wholeOf f.data.toList (txts ss) := by
  unfold head2 head1 wholeOf
  rw [List.take_length, txts_length, size_list]

set_option maxHeartbeats 1000000 in
theorem join_yes (f : ByteArray) (ss : List ByteArray) (v : Value) (w : World) (hv : Strs w w.heap.size v ss) (h8 : ss.length ≤ 8) (hs : f.size + 4 * ss.length + strSum ss ≤ 65536) :
    Calls Try.prog 26 #[.string f, v] w fun e w' => e = .returned (.string ⟨(wholeOf f.data.toList (txts ss)).toArray⟩) ∧ Below w.heap.size w w' := by
  obtain ⟨A, c, rfl, hc⟩ := hv.form
  go_enter Try.func26, Try.ntmps26
  go_wp2_with fail
  with_reducible refine (demandRoom_yes f ss _ _ _ hv h8 hs).mono ?_
  rintro e w1 ⟨rfl, rfl⟩
  have hB0 : Lib.IsBuilder 60 5 w.heap.size w.heap.size [] (w.alloc (.cells #[.pointer none, .slice none 0 0] 60)) := Lib.fresh_isBuilder _ _ w
  go_wp2_with fail
  with_reducible refine (Try.Builder_WriteString w.heap.size w.heap.size [] f _ hB0 (by simp; omega) (by simp)).mono ?_
  rintro e w1 ⟨rfl, hB1, hb1⟩
  go_wp2_with fail
  have hB1' : Lib.IsBuilder 60 5 w.heap.size w.heap.size (Lib.byteCells (head1 f ss 0)) w1 := by
    have := hB1
    rw [List.nil_append, Lib.strCells_eq] at this
    have e : head1 f ss 0 = f.data.toList := by simp [head1, txts, placesOf]
    rw [e]; exact Or.inr this
  have hb1' : Below w.heap.size w w1 := ((Below.refl _ w).alloc (Nat.le_refl _) _).trans hb1
  clear hB0 hB1 hb1
  go_loopw [6, 24] (fun p i wr => ∃ k : Nat, k ≤ ss.length ∧ i = .int .i64 k ∧ p = .int .i64 ((f.size : Int) + 4 * (ss.length : Int) + (strSum (ss.take k) : Int)) ∧
      Lib.IsBuilder 60 5 w.heap.size w.heap.size (Lib.byteCells (head1 f ss k)) wr ∧ Below w.heap.size w wr) (fun _ i _ => ss.length - (intOf i).toNat)
  case atStart => exact ⟨0, Nat.zero_le _, rfl, by rw [strSum_zero]; go_num, hB1', hb1'⟩
  case round =>
    obtain ⟨k, hk, rfl, rfl, hB, hb⟩ := hrel
    clear hB1' hb1'
    have hz := hb.size
    have hsl := strSum_le ss k
    by_cases hlt : k < ss.length
    · obtain ⟨ad, rfl, hbl, hcell⟩ := (hv.below hb (Nat.le_refl _)).at_ hlt
      have H1 := Lib.hid (strSum_take ss k hlt)
      have hsl1 := strSum_le ss (k + 1)
      have hb1 : strSum (ss.take k) + ss[k].size ≤ strSum ss := by have := H1.out; omega
      clear hsl1
      go_wp2_with fail
      with_reducible refine (Put_int _ (f.size + 4 * ss.length + strSum (ss.take k)) _ _ (by simp)).mono ?_
      rintro e w2 ⟨rfl, hb2⟩
      rw [putOf_four]
      have hBk := isBuilder_keep hB hb2
      have hl1 := head1_length f ss k hk
      go_wp2_with fail
      with_reducible refine (Try.Builder_WriteString w.heap.size w.heap.size _ _ _ hBk ?_ ?_).mono ?_
      · rw [Lib.byteCells_length, hl1, size_mk (leBytes _ 4), leBytes_length]; omega
      · have := hb2.size; omega
      rintro e w3 ⟨rfl, hB3, hb3⟩
      have hBn : Lib.IsBuilder 60 5 w.heap.size w.heap.size (Lib.byteCells (head1 f ss (k + 1))) w3 := by
        rw [head1_step f ss k hlt, Lib.byteCells_append]
        exact Or.inr hB3
      have hbn : Below w.heap.size w w3 := (hb.trans (hb2.mono hz)).trans hb3
      clear hB hBk hB3 hb2 hb3 hl1 hcell
      go_wp2_with fail
      go_roundw
      case rel => exact ⟨k + 1, by omega, by go_num, by rw [H1.out]; go_num, hBn, hbn⟩
      case measure => simp [intOf]; omega
    · have hkn : k = ss.length := by omega
      rw [hkn] at hB
      generalize strSum (ss.take k) = sk at *
      clear hkn
      go_wp2_with fail
      go_loopw [39] (fun i wr => ∃ k : Nat, k ≤ ss.length ∧ i = .int .i64 k ∧
          Lib.IsBuilder 60 5 w.heap.size w.heap.size (Lib.byteCells (head2 f ss k)) wr ∧ Below w.heap.size w wr) (fun i _ => ss.length - (intOf i).toNat)
      case atStart => exact ⟨0, Nat.zero_le _, rfl, by have e : head2 f ss 0 = head1 f ss ss.length := by simp [head2, txts]
                                                       rw [e]; exact hB, hb⟩
      case round =>
        clear hB hb hz hsl hlt hk
        obtain ⟨k, hk, rfl, hB, hb⟩ := hrel
        have hz := hb.size
        by_cases hlt2 : k < ss.length
        · obtain ⟨ad, rfl, hbl, hcell⟩ := (hv.below hb (Nat.le_refl _)).at_ hlt2
          have hl1 := head2_length f ss k
          have hst := strSum_take ss k hlt2
          have hsl1 := strSum_le ss (k + 1)
          have hB' := Lib.hid hst
          have hb1 : strSum (ss.take k) + ss[k].size ≤ strSum ss := by omega
          clear hst hsl1
          have HL := Lib.hid hl1
          clear hl1
          go_wp2_with fail
          with_reducible refine (Try.Builder_WriteString w.heap.size w.heap.size _ _ _ hB ?_ ?_).mono ?_
          · rw [Lib.byteCells_length, HL.out]; omega
          · omega
          rintro e w3 ⟨rfl, hB3, hb3⟩
          have hBn : Lib.IsBuilder 60 5 w.heap.size w.heap.size (Lib.byteCells (head2 f ss (k + 1))) w3 := by
            rw [head2_step f ss k hlt2, Lib.byteCells_append]
            exact Or.inr hB3
          have hbn : Below w.heap.size w w3 := hb.trans hb3
          clear hB hB3 hb3 hcell
          go_wp2_with fail
          go_roundw
          case rel => exact ⟨k + 1, by omega, by go_num, hBn, hbn⟩
          case measure => simp [intOf]; omega
        · obtain rfl : k = ss.length := by omega
          rw [head2_end] at hB
          go_wp2_with fail
          with_reducible refine (Try.Builder_String_any w.heap.size w.heap.size _ _ hB hz).mono ?_
          rintro e w3 ⟨rfl, hb3⟩
          have hbn : Below w.heap.size w w3 := hb.trans hb3
          clear hB hb3 hb
          go_wp2_with fail
          go_ret
          exact ⟨rfl, hbn⟩
end Go.Proofs.Ytagfbbflpjjbfaa
