/- octets.Join.
   octets.Join: the closure, attempt, and the call itself.
   octets.Split: split itself.
   octets.Split: split where the counts are right.
   octets.Split: the closure, attempt, and the call itself. -/
import Derived.Test.YtieheieiolobaaaGreatDoorOctD
import Derived.Test.YtieheieiolobaaaGreatDoorOctQ
namespace Go.Proofs.YtieheieiolobaaaGreatDoor
open Go.RowKit

def txts (ss : List ByteArray) : List Text := ss.map fun s => s.data.toList
def strSum (ss : List ByteArray) : Nat := sumLen (txts ss)
theorem size_mk (l : Text) : (ByteArray.mk l.toArray).size = l.length := by simp [ByteArray.size]
theorem size_list (s : ByteArray) : s.data.toList.length = s.size := by simp
theorem strSum_take (ss : List ByteArray) (k : Nat) (h : k < ss.length) : strSum (ss.take (k + 1)) = strSum (ss.take k) + ss[k].size := by
  unfold strSum txts
  rw [List.take_succ_eq_append_getElem h, List.map_append, sumLen_append]
  simp [sumLen]
theorem strSum_le (ss : List ByteArray) (k : Nat) : strSum (ss.take k) ≤ strSum ss := by
  have e : ss = ss.take k ++ ss.drop k := (List.take_append_drop k ss).symm
  have h : strSum ss = strSum (ss.take k) + strSum (ss.drop k) := by
    conv => lhs; rw [e]
    unfold strSum txts
    rw [List.map_append, sumLen_append]
  omega
theorem strSum_zero (ss : List ByteArray) : strSum (ss.take 0) = 0 := rfl

set_option maxHeartbeats 1000000 in
theorem demandRoom_yes (f : ByteArray) (ss : List ByteArray) (v : Value) (B : Nat) (w : World) (hv : Strs w B v ss) (h8 : ss.length ≤ 8) (hs : f.size + 4 * ss.length + strSum ss ≤ 65536) :
    Calls Tryz.prog 103 #[.string f, v] w fun e w' => e = .returned (.tuple #[]) ∧ w = w' := by
  obtain ⟨A, c, rfl, hc⟩ := hv.form
  have hd1 : decide ((ss.length : Int) ≤ 8) = true := by simp; omega
  have hd2 : decide ((f.size : Int) ≤ 65536 - 4 * (ss.length : Int)) = true := by simp; omega
  go_enter Tryz.func103, Tryz.ntmps103
  go_wp2_with fail
  with_reducible refine (demand_yes _ _).mono ?_
  rintro e w1 ⟨rfl, rfl⟩
  go_wp2_with fail
  with_reducible refine (demand_yes _ _).mono ?_
  rintro e w1 ⟨rfl, rfl⟩
  go_wp2_with fail
  go_loop [4, 26] (fun r i => ∃ k : Nat, k ≤ ss.length ∧ i = .int .i64 k ∧ r = .int .i64 (65536 - 4 * (ss.length : Int) - (f.size : Int) - (strSum (ss.take k) : Int))) (fun _ i => ss.length - (intOf i).toNat)
  case atStart => exact ⟨0, Nat.zero_le _, rfl, by simp [strSum, txts, sumLen]⟩
  case round =>
    obtain ⟨k, hk, rfl, rfl⟩ := hrel
    by_cases hlt : k < ss.length
    · obtain ⟨ad, rfl, hb, hcell⟩ := hv.at_ hlt
      have h1 := strSum_take ss k hlt
      have h2 := strSum_le ss (k + 1)
      have hd3 : decide ((ss[k].size : Int) ≤ 65536 - 4 * (ss.length : Int) - (f.size : Int) - (strSum (ss.take k) : Int)) = true := by simp; omega
      have H1 := Lib.hid h1
      have hb1 : strSum (ss.take k) + ss[k].size ≤ strSum ss := by omega
      clear h1 h2 hd1 hd2
      go_wp2_with fail
      with_reducible refine (demand_yes _ _).mono ?_
      rintro e w1 ⟨rfl, rfl⟩
      go_wp2_with fail
      go_round
      case rel => exact ⟨k + 1, by omega, by go_num, by rw [H1.out]; go_num⟩
      case measure => simp [intOf]; omega
    · go_wp2_with fail
      go_end0
      exact ⟨rfl, rfl⟩

set_option maxHeartbeats 1000000 in
theorem demandRoom_no (f : ByteArray) (ss : List ByteArray) (v : Value) (B : Nat) (w : World) (hv : Strs w B v ss) (hc9 : ss.length ≤ 9223372036854775807) (hf9 : f.size ≤ 9223372036854775807) (h : ¬ (ss.length ≤ 8 ∧ f.size + 4 * ss.length + strSum ss ≤ 65536)) :
    Calls Tryz.prog 103 #[.string f, v] w fun e w' => e = .panicked [{ v := .iface 44 (.int .i64 4), recovered := false }] ∧ w = w' := by
  obtain ⟨A, c, rfl, hc⟩ := hv.form
  by_cases h8 : ss.length ≤ 8
  · have hd1 : decide ((ss.length : Int) ≤ 8) = true := by simp; omega
    by_cases hf : f.size ≤ 65536 - 4 * ss.length
    · have hd2 : decide ((f.size : Int) ≤ 65536 - 4 * (ss.length : Int)) = true := by simp; omega
      have hbig : 65536 < f.size + 4 * ss.length + strSum ss := by omega
      clear h
      go_enter Tryz.func103, Tryz.ntmps103
      go_wp2_with fail
      with_reducible refine (demand_yes _ _).mono ?_
      rintro e w1 ⟨rfl, rfl⟩
      go_wp2_with fail
      with_reducible refine (demand_yes _ _).mono ?_
      rintro e w1 ⟨rfl, rfl⟩
      go_wp2_with fail
      go_loop [4, 26] (fun r i => ∃ k : Nat, k ≤ ss.length ∧ i = .int .i64 k ∧ 0 ≤ 65536 - 4 * (ss.length : Int) - (f.size : Int) - (strSum (ss.take k) : Int) ∧ r = .int .i64 (65536 - 4 * (ss.length : Int) - (f.size : Int) - (strSum (ss.take k) : Int))) (fun _ i => ss.length - (intOf i).toNat)
      case atStart => exact ⟨0, Nat.zero_le _, rfl, by rw [strSum_zero]; omega, by simp [strSum, txts, sumLen]⟩
      case round =>
        obtain ⟨k, hk, rfl, hr, rfl⟩ := hrel
        by_cases hlt : k < ss.length
        · obtain ⟨ad, rfl, hb, hcell⟩ := hv.at_ hlt
          have h1 := strSum_take ss k hlt
          by_cases hroom : (ss[k].size : Int) ≤ 65536 - 4 * (ss.length : Int) - (f.size : Int) - (strSum (ss.take k) : Int)
          · have hd3 : decide ((ss[k].size : Int) ≤ 65536 - 4 * (ss.length : Int) - (f.size : Int) - (strSum (ss.take k) : Int)) = true := by simpa using hroom
            have H1 := Lib.hid h1
            clear h1 hd1 hd2
            go_wp2_with fail
            with_reducible refine (demand_yes _ _).mono ?_
            rintro e w1 ⟨rfl, rfl⟩
            go_wp2_with fail
            go_round
            case rel => exact ⟨k + 1, by omega, by go_num, by rw [H1.out]; omega, by rw [H1.out]; go_num⟩
            case measure => simp [intOf]; omega
          · have hd3 : decide ((ss[k].size : Int) ≤ 65536 - 4 * (ss.length : Int) - (f.size : Int) - (strSum (ss.take k) : Int)) = false := by simpa using hroom
            clear h1 hd1 hd2
            go_wp2_with fail
            with_reducible refine (demand_no _ _).mono ?_
            rintro e w1 ⟨rfl, rfl⟩
            exact ⟨rfl, rfl, rfl⟩
        · exfalso
          rw [List.take_of_length_le (by omega)] at hr
          omega
    · have hd2 : decide ((f.size : Int) ≤ 65536 - 4 * (ss.length : Int)) = false := by simp; omega
      go_enter Tryz.func103, Tryz.ntmps103
      go_wp2_with fail
      with_reducible refine (demand_yes _ _).mono ?_
      rintro e w1 ⟨rfl, rfl⟩
      go_wp2_with fail
      with_reducible refine (demand_no _ _).mono ?_
      rintro e w1 ⟨rfl, rfl⟩
      exact ⟨rfl, rfl, rfl⟩
  · have hd1 : decide ((ss.length : Int) ≤ 8) = false := by simp; omega
    go_enter Tryz.func103, Tryz.ntmps103
    go_wp2_with fail
    with_reducible refine (demand_no _ _).mono ?_
    rintro e w1 ⟨rfl, rfl⟩
    exact ⟨rfl, rfl, rfl⟩

theorem ownsRow_keep {w w' : World} {base : Nat} {e : TypeId} {size n : Nat} {v : Value} {xs : List Value} (h : w.ownsRow base e size v n xs) (hb : Below w.heap.size w w') : w'.ownsRow base e size v n xs := by
  obtain ⟨hl, h⟩ := h
  refine ⟨hl, ?_⟩
  rcases h with h | ⟨g, cap, cur, hv, hg, hh, h1, h2, h3, h4⟩
  · exact .inl h
  · refine .inr ⟨g, cap, cur, hv, hg, ?_, h1, h2, h3, h4⟩
    rw [hb.block g ?_]; exact hh
    rcases Nat.lt_or_ge g w.heap.size with k | k
    · exact k
    · rw [Array.getElem?_eq_none k] at hh; cases hh
theorem builderAt_keep {T e : TypeId} {B b : Nat} {p : Value} {bs : List Value} {w w' : World} (h : Lib.BuilderAt T e B b p bs w) (hb : Below w.heap.size w w') : Lib.BuilderAt T e B b p bs w' := by
  have hlt := h.lt
  obtain ⟨hB, v, hh, ho, hn⟩ := h
  exact ⟨hB, v, by rw [hb.block b hlt]; exact hh, ownsRow_keep ho hb, hn⟩
theorem isBuilder_keep {T e : TypeId} {B b : Nat} {bs : List Value} {w w' : World} (h : Lib.IsBuilder T e B b bs w) (hb : Below w.heap.size w w') : Lib.IsBuilder T e B b bs w' :=
  h.elim (fun x => .inl (builderAt_keep x hb)) (fun x => .inr (builderAt_keep x hb))

theorem txts_take (ss : List ByteArray) (k : Nat) (h : k < ss.length) : txts (ss.take (k + 1)) = txts (ss.take k) ++ [ss[k].data.toList] := by
  unfold txts
  rw [List.take_succ_eq_append_getElem h, List.map_append]; rfl
theorem txts_length (ss : List ByteArray) : (txts ss).length = ss.length := by simp [txts]

/-- What the builder holds when k places are written. -/
def head1 (f : ByteArray) (ss : List ByteArray) (k : Nat) : Text := f.data.toList ++ placesOf (f.size + 4 * ss.length) (txts (ss.take k))
theorem head1_step (f : ByteArray) (ss : List ByteArray) (k : Nat) (h : k < ss.length) : head1 f ss (k + 1) = head1 f ss k ++ leBytes (f.size + 4 * ss.length + strSum (ss.take k)) 4 := by
  unfold head1
  rw [txts_take ss k h, placesOf_append, List.append_assoc]
  simp [placesOf, strSum]
theorem head1_length (f : ByteArray) (ss : List ByteArray) (k : Nat) (h : k ≤ ss.length) : (head1 f ss k).length = f.size + 4 * k := by
  unfold head1
  simp [placesOf_length, txts_length]; omega
/-- What it holds when k parts are written, too. -/
def head2 (f : ByteArray) (ss : List ByteArray) (k : Nat) : Text := head1 f ss ss.length ++ (txts (ss.take k)).flatten
theorem head2_step (f : ByteArray) (ss : List ByteArray) (k : Nat) (h : k < ss.length) : head2 f ss (k + 1) = head2 f ss k ++ ss[k].data.toList := by
  unfold head2
  rw [txts_take ss k h, List.append_assoc]
  simp
theorem head2_length (f : ByteArray) (ss : List ByteArray) (k : Nat) : (head2 f ss k).length = f.size + 4 * ss.length + strSum (ss.take k) := by
  unfold head2
  rw [List.length_append, head1_length f ss _ (Nat.le_refl _)]; rfl
theorem head2_end (f : ByteArray) (ss : List ByteArray) : head2 f ss ss.length = wholeOf f.data.toList (txts ss) := by
  unfold head2 head1 wholeOf
  rw [List.take_length, txts_length, size_list]

set_option maxHeartbeats 1000000 in
theorem join_yes (f : ByteArray) (ss : List ByteArray) (v : Value) (w : World) (hv : Strs w w.heap.size v ss) (h8 : ss.length ≤ 8) (hs : f.size + 4 * ss.length + strSum ss ≤ 65536) :
    Calls Tryz.prog 89 #[.string f, v] w fun e w' => e = .returned (.string ⟨(wholeOf f.data.toList (txts ss)).toArray⟩) ∧ Below w.heap.size w w' := by
  obtain ⟨A, c, rfl, hc⟩ := hv.form
  go_enter Tryz.func89, Tryz.ntmps89
  go_wp2_with fail
  with_reducible refine (demandRoom_yes f ss _ _ _ hv h8 hs).mono ?_
  rintro e w1 ⟨rfl, rfl⟩
  have hB0 : Lib.IsBuilder 116 5 w.heap.size w.heap.size [] (w.alloc (.cells #[.pointer none, .slice none 0 0] 116)) := Lib.fresh_isBuilder _ _ w
  go_wp2_with fail
  with_reducible refine (Tryz.Builder_WriteString w.heap.size w.heap.size [] f _ hB0 (by simp; omega) (by simp)).mono ?_
  rintro e w1 ⟨rfl, hB1, hb1⟩
  go_wp2_with fail
  have hB1' : Lib.IsBuilder 116 5 w.heap.size w.heap.size (Lib.byteCells (head1 f ss 0)) w1 := by
    have := hB1
    rw [List.nil_append, Lib.strCells_eq] at this
    have e : head1 f ss 0 = f.data.toList := by simp [head1, txts, placesOf]
    rw [e]; exact Or.inr this
  have hb1' : Below w.heap.size w w1 := ((Below.refl _ w).alloc (Nat.le_refl _) _).trans hb1
  clear hB0 hB1 hb1
  go_loopw [6, 24] (fun p i wr => ∃ k : Nat, k ≤ ss.length ∧ i = .int .i64 k ∧ p = .int .i64 ((f.size : Int) + 4 * (ss.length : Int) + (strSum (ss.take k) : Int)) ∧
      Lib.IsBuilder 116 5 w.heap.size w.heap.size (Lib.byteCells (head1 f ss k)) wr ∧ Below w.heap.size w wr) (fun _ i _ => ss.length - (intOf i).toNat)
  case atStart => exact ⟨0, Nat.zero_le _, rfl, by rw [strSum_zero]; go_num, hB1', hb1'⟩
  case round =>
    obtain ⟨k, hk, rfl, rfl, hB, hb⟩ := hrel
    clear hB1' hb1'
    have hz := hb.size
    have hsl := strSum_le ss k
    by_cases hlt : k < ss.length
    · obtain ⟨ad, rfl, hbl, hcell⟩ := (hv.below hb (Nat.le_refl _)).at_ hlt
      have H1 := Lib.hid (strSum_take ss k hlt)
      have hsl1 := strSum_le ss (k + 1)
      have hb1 : strSum (ss.take k) + ss[k].size ≤ strSum ss := by have := H1.out; omega
      clear hsl1
      go_wp2_with fail
      with_reducible refine (Put_int _ (f.size + 4 * ss.length + strSum (ss.take k)) _ _ (by simp)).mono ?_
      rintro e w2 ⟨rfl, hb2⟩
      rw [putOf_four]
      have hBk := isBuilder_keep hB hb2
      have hl1 := head1_length f ss k hk
      go_wp2_with fail
      with_reducible refine (Tryz.Builder_WriteString w.heap.size w.heap.size _ _ _ hBk ?_ ?_).mono ?_
      · rw [Lib.byteCells_length, hl1, size_mk (leBytes _ 4), leBytes_length]; omega
      · have := hb2.size; omega
      rintro e w3 ⟨rfl, hB3, hb3⟩
      have hBn : Lib.IsBuilder 116 5 w.heap.size w.heap.size (Lib.byteCells (head1 f ss (k + 1))) w3 := by
        rw [head1_step f ss k hlt, Lib.byteCells_append]
        exact Or.inr hB3
      have hbn : Below w.heap.size w w3 := (hb.trans (hb2.mono hz)).trans hb3
      clear hB hBk hB3 hb2 hb3 hl1 hcell
      go_wp2_with fail
      go_roundw
      case rel => exact ⟨k + 1, by omega, by go_num, by rw [H1.out]; go_num, hBn, hbn⟩
      case measure => simp [intOf]; omega
    · have hkn : k = ss.length := by omega
      rw [hkn] at hB
      generalize strSum (ss.take k) = sk at *
      clear hkn
      go_wp2_with fail
      go_loopw [39] (fun i wr => ∃ k : Nat, k ≤ ss.length ∧ i = .int .i64 k ∧
          Lib.IsBuilder 116 5 w.heap.size w.heap.size (Lib.byteCells (head2 f ss k)) wr ∧ Below w.heap.size w wr) (fun i _ => ss.length - (intOf i).toNat)
      case atStart => exact ⟨0, Nat.zero_le _, rfl, by have e : head2 f ss 0 = head1 f ss ss.length := by simp [head2, txts]
                                                       rw [e]; exact hB, hb⟩
      case round =>
        clear hB hb hz hsl hlt hk
        obtain ⟨k, hk, rfl, hB, hb⟩ := hrel
        have hz := hb.size
        by_cases hlt2 : k < ss.length
        · obtain ⟨ad, rfl, hbl, hcell⟩ := (hv.below hb (Nat.le_refl _)).at_ hlt2
          have hl1 := head2_length f ss k
          have hst := strSum_take ss k hlt2
          have hsl1 := strSum_le ss (k + 1)
          have hB' := Lib.hid hst
          have hb1 : strSum (ss.take k) + ss[k].size ≤ strSum ss := by omega
          clear hst hsl1
          have HL := Lib.hid hl1
          clear hl1
          go_wp2_with fail
          with_reducible refine (Tryz.Builder_WriteString w.heap.size w.heap.size _ _ _ hB ?_ ?_).mono ?_
          · rw [Lib.byteCells_length, HL.out]; omega
          · omega
          rintro e w3 ⟨rfl, hB3, hb3⟩
          have hBn : Lib.IsBuilder 116 5 w.heap.size w.heap.size (Lib.byteCells (head2 f ss (k + 1))) w3 := by
            rw [head2_step f ss k hlt2, Lib.byteCells_append]
            exact Or.inr hB3
          have hbn : Below w.heap.size w w3 := hb.trans hb3
          clear hB hB3 hb3 hcell
          go_wp2_with fail
          go_roundw
          case rel => exact ⟨k + 1, by omega, by go_num, hBn, hbn⟩
          case measure => simp [intOf]; omega
        · obtain rfl : k = ss.length := by omega
          rw [head2_end] at hB
          go_wp2_with fail
          with_reducible refine (Tryz.Builder_String_any w.heap.size w.heap.size _ _ hB hz).mono ?_
          rintro e w3 ⟨rfl, hb3⟩
          have hbn : Below w.heap.size w w3 := hb.trans hb3
          clear hB hb3 hb
          go_wp2_with fail
          go_ret
          exact ⟨rfl, hbn⟩
end Go.Proofs.YtieheieiolobaaaGreatDoor

namespace Go.Proofs.YtieheieiolobaaaGreatDoor
open Go.RowKit

theorem join_no (f : ByteArray) (ss : List ByteArray) (v : Value) (w : World) (hv : Strs w w.heap.size v ss) (hc9 : ss.length ≤ 9223372036854775807) (hf9 : f.size ≤ 9223372036854775807) (h : ¬ (ss.length ≤ 8 ∧ f.size + 4 * ss.length + strSum ss ≤ 65536)) :
    Calls Tryz.prog 89 #[.string f, v] w fun e w' => e = .panicked [{ v := .iface 44 (.int .i64 4), recovered := false }] ∧ w = w' := by
  obtain ⟨A, c, rfl, hc⟩ := hv.form
  go_enter Tryz.func89, Tryz.ntmps89
  go_wp2_with fail
  with_reducible refine (demandRoom_no f ss _ _ _ hv hc9 hf9 h).mono ?_
  rintro e w1 ⟨rfl, rfl⟩
  exact ⟨rfl, rfl, rfl⟩

theorem joinFn_yes (f : ByteArray) (ss : List ByteArray) (v x : Value) (N : Nat) (w : World) (hv : Strs w w.heap.size v ss) (h8 : ss.length ≤ 8) (hs : f.size + 4 * ss.length + strSum ss ≤ 65536)
    (hN : N + 3 ≤ w.heap.size) (c0 : w.cell? ⟨N, 0, none⟩ = some (.string f)) (c1 : w.cell? ⟨N + 1, 0, none⟩ = some v) (c2 : w.cell? ⟨N + 2, 0, none⟩ = some x) (f2 : w.frozen? ⟨N + 2, 0, none⟩ = false) :
    Calls Tryz.prog 88 #[.pointer (some ⟨N, 0, none⟩), .pointer (some ⟨N + 1, 0, none⟩), .pointer (some ⟨N + 2, 0, none⟩)] w fun e w' =>
      e = .returned (.tuple #[]) ∧ ∃ w1, Below w.heap.size w w1 ∧ w' = w1.setCell ⟨N + 2, 0, none⟩ (.string ⟨(wholeOf f.data.toList (txts ss)).toArray⟩) := by
  obtain ⟨A, c, rfl, hc⟩ := hv.form
  go_enter Tryz.func88, Tryz.ntmps88
  go_wp2_with fail
  with_reducible refine (join_yes f ss _ _ hv h8 hs).mono ?_
  rintro e w1 ⟨rfl, hb⟩
  obtain ⟨hc, hf⟩ := bcell hb
  have d2 : w1.cell? ⟨N + 2, 0, none⟩ = some x := by rw [hc _ _ (by omega)]; exact c2
  have g2 : w1.frozen? ⟨N + 2, 0, none⟩ = false := by rw [hf _ _ (by omega)]; exact f2
  clear hc hf c0 c1 c2 f2
  go_wp2
  go_end0
  exact ⟨rfl, w1, hb, rfl⟩

theorem joinFn_no (f : ByteArray) (ss : List ByteArray) (v : Value) (N : Nat) (w : World) (hv : Strs w w.heap.size v ss) (hc9 : ss.length ≤ 9223372036854775807) (hf9 : f.size ≤ 9223372036854775807) (h : ¬ (ss.length ≤ 8 ∧ f.size + 4 * ss.length + strSum ss ≤ 65536))
    (c0 : w.cell? ⟨N, 0, none⟩ = some (.string f)) (c1 : w.cell? ⟨N + 1, 0, none⟩ = some v) :
    Calls Tryz.prog 88 #[.pointer (some ⟨N, 0, none⟩), .pointer (some ⟨N + 1, 0, none⟩), .pointer (some ⟨N + 2, 0, none⟩)] w fun e w' =>
      e = .panicked [{ v := .iface 44 (.int .i64 4), recovered := false }] ∧ w = w' := by
  obtain ⟨A, c, rfl, hc⟩ := hv.form
  go_enter Tryz.func88, Tryz.ntmps88
  go_wp2_with fail
  with_reducible refine (join_no f ss _ _ hv hc9 hf9 h).mono ?_
  rintro e w1 ⟨rfl, rfl⟩
  exact ⟨rfl, rfl, rfl⟩

theorem tryJoin_yes (f : ByteArray) (ss : List ByteArray) (v x : Value) (N : Nat) (w : World) (hv : Strs w w.heap.size v ss) (h8 : ss.length ≤ 8) (hs : f.size + 4 * ss.length + strSum ss ≤ 65536)
    (hN : N + 3 = w.heap.size) (c0 : w.cell? ⟨N, 0, none⟩ = some (.string f)) (c1 : w.cell? ⟨N + 1, 0, none⟩ = some v) (c2 : w.cell? ⟨N + 2, 0, none⟩ = some x) (f2 : w.frozen? ⟨N + 2, 0, none⟩ = false) :
    Calls Tryz.prog 87 #[.func (.func 88) #[] #[.pointer (some ⟨N, 0, none⟩), .pointer (some ⟨N + 1, 0, none⟩), .pointer (some ⟨N + 2, 0, none⟩)]] w fun e w' =>
      e = .returned (.int .i64 0) ∧ w'.cell? ⟨N + 2, 0, none⟩ = some (.string ⟨(wholeOf f.data.toList (txts ss)).toArray⟩) ∧ Below N w w' := by
  have old : ∀ p : Addr, p.block < w.heap.size → (w.alloc (.cells #[.int .i64 0] 44)).cell? p = w.cell? p := fun p hp => World.cell?_alloc_lt _ _ _ hp
  have oldf : ∀ p : Addr, p.block < w.heap.size → (w.alloc (.cells #[.int .i64 0] 44)).frozen? p = w.frozen? p := fun p hp => World.frozen?_alloc_old _ _ _ (by omega)
  have hv' : Strs (w.alloc (.cells #[.int .i64 0] 44)) (w.alloc (.cells #[.int .i64 0] 44)).heap.size v ss := (hv.keep old).more (by simp)
  refine (attempt_ok 88 _ w (fun w' => ∃ w1, Below (w.heap.size + 1) (w.alloc (.cells #[.int .i64 0] 44)) w1 ∧ w' = w1.setCell ⟨N + 2, 0, none⟩ (.string ⟨(wholeOf f.data.toList (txts ss)).toArray⟩))
    (enters_of Tryz.func88 (by kernel_rfl) rfl) ((joinFn_yes f ss v x N _ hv' h8 hs (by simp; omega) ((old _ (by show N < _; omega)).trans c0) ((old _ (by show N + 1 < _; omega)).trans c1) ((old _ (by show N + 2 < _; omega)).trans c2) ((oldf _ (by show N + 2 < _; omega)).trans f2)).mono ?_)).mono ?_
  · rintro e w' ⟨rfl, w1, hb, rfl⟩
    have hr := (RowAt.new w 44 #[.int .i64 0]).below hb (by simp)
    refine ⟨rfl, ⟨w1, by simpa using hb, rfl⟩, ?_, ?_⟩
    · rw [World.cell?_setCell_other _ _ _ _ (by simp <;> omega), hr.cell]; rfl
    · rw [World.frozen?_setCell, hr.frozen]
  · rintro e w' ⟨rfl, w2, ⟨w1, hb, rfl⟩, rfl⟩
    have k2 : w1.cell? ⟨N + 2, 0, none⟩ = some x := (hb.cell (p := ⟨N + 2, 0, none⟩) (by show N + 2 < _; omega)).trans ((old _ (by show N + 2 < _; omega)).trans c2)
    refine ⟨rfl, ?_, ?_⟩
    · rw [World.cell?_setCell_other _ _ _ _ (by simp <;> omega), World.cell?_setCell_same _ _ _ k2]
    · have h0 : Below N w (w.alloc (.cells #[.int .i64 0] 44)) := (Below.refl _ _).alloc (by omega) _
      exact ((h0.trans (hb.mono (by omega))).setCell (by show N ≤ N + 2; omega) _).setCell (by show N ≤ w.heap.size; omega) _

theorem tryJoin_no (f : ByteArray) (ss : List ByteArray) (v : Value) (N : Nat) (w : World) (hv : Strs w w.heap.size v ss) (hc9 : ss.length ≤ 9223372036854775807) (hf9 : f.size ≤ 9223372036854775807) (h : ¬ (ss.length ≤ 8 ∧ f.size + 4 * ss.length + strSum ss ≤ 65536))
    (hN : N + 3 = w.heap.size) (c0 : w.cell? ⟨N, 0, none⟩ = some (.string f)) (c1 : w.cell? ⟨N + 1, 0, none⟩ = some v) :
    Calls Tryz.prog 87 #[.func (.func 88) #[] #[.pointer (some ⟨N, 0, none⟩), .pointer (some ⟨N + 1, 0, none⟩), .pointer (some ⟨N + 2, 0, none⟩)]] w fun e w' =>
      e = .returned (.int .i64 4) ∧ Below w.heap.size w w' := by
  have old : ∀ p : Addr, p.block < w.heap.size → (w.alloc (.cells #[.int .i64 0] 44)).cell? p = w.cell? p := fun p hp => World.cell?_alloc_lt _ _ _ hp
  have hv' : Strs (w.alloc (.cells #[.int .i64 0] 44)) (w.alloc (.cells #[.int .i64 0] 44)).heap.size v ss := (hv.keep old).more (by simp)
  refine (attempt_no 88 _ 4 w (fun w' => w.alloc (.cells #[.int .i64 0] 44) = w')
    (enters_of Tryz.func88 (by kernel_rfl) rfl) ((joinFn_no f ss v N _ hv' hc9 hf9 h ((old _ (by show N < _; omega)).trans c0) ((old _ (by show N + 1 < _; omega)).trans c1)).mono ?_)).mono ?_
  · rintro e w' ⟨rfl, rfl⟩
    have hr := RowAt.new w 44 #[.int .i64 0]
    exact ⟨rfl, rfl, by rw [hr.cell]; rfl, hr.frozen 0⟩
  · rintro e w' ⟨rfl, w2, rfl, rfl⟩
    exact ⟨rfl, ((Below.refl _ _).alloc (Nat.le_refl _) _).setCell (Nat.le_refl _) _⟩

theorem strs_alloc {w : World} {v : Value} {ss : List ByteArray} (h : Strs w w.heap.size v ss) (o : Obj) : Strs (w.alloc o) (w.alloc o).heap.size v ss :=
  (h.keep fun p hp => World.cell?_alloc_lt _ _ _ hp).more (by simp)

set_option maxHeartbeats 1000000 in
theorem Join_yes (f : ByteArray) (ss : List ByteArray) (v : Value) (w : World) (hv : Strs w w.heap.size v ss) (h8 : ss.length ≤ 8) (hs : f.size + 4 * ss.length + strSum ss ≤ 65536) :
    Calls Tryz.prog 60 #[.string f, v] w fun e w' => e = .returned (.tuple #[.string ⟨(wholeOf f.data.toList (txts ss)).toArray⟩, .int .i64 0]) ∧ Below w.heap.size w w' := by
  obtain ⟨A, c, rfl, hc⟩ := hv.form
  have hmf : ∀ (fn : Fn) (first cap : Array Value) (w : World), (Instr.makeFunc fn first cap).run Tryz.prog w = .ok (.func fn first cap) w := fun _ _ _ _ => rfl
  go_enter Tryz.func60, Tryz.ntmps60
  go_wp2_with fail
  refine (tryJoin_yes f ss _ (.string ⟨#[]⟩) w.heap.size _ (strs_alloc (strs_alloc (strs_alloc hv _) _) _) h8 hs ?_ ?_ ?_ ?_ ?_).mono ?_
  · simp
  · simp [go_sem]
  · simp [go_sem]
  · simp [go_sem]
  · simp [go_sem]
  rintro e w1 ⟨rfl, hc2, hb⟩
  have hb' : Below w.heap.size w w1 := Below.trans ((((Below.refl _ w).alloc (by simp) _).alloc (by simp <;> omega) _).alloc (by simp <;> omega) _) hb
  clear hb
  go_wp2
  go_ret2
  exact ⟨rfl, hb'⟩

set_option maxHeartbeats 1000000 in
theorem Join_no (f : ByteArray) (ss : List ByteArray) (v : Value) (w : World) (hv : Strs w w.heap.size v ss) (hc9 : ss.length ≤ 9223372036854775807) (hf9 : f.size ≤ 9223372036854775807) (h : ¬ (ss.length ≤ 8 ∧ f.size + 4 * ss.length + strSum ss ≤ 65536)) :
    Calls Tryz.prog 60 #[.string f, v] w fun e w' => e = .returned (.tuple #[.string ⟨#[]⟩, .int .i64 4]) ∧ Below w.heap.size w w' := by
  obtain ⟨A, c, rfl, hc⟩ := hv.form
  have hmf : ∀ (fn : Fn) (first cap : Array Value) (w : World), (Instr.makeFunc fn first cap).run Tryz.prog w = .ok (.func fn first cap) w := fun _ _ _ _ => rfl
  go_enter Tryz.func60, Tryz.ntmps60
  go_wp2_with fail
  refine (tryJoin_no f ss _ w.heap.size _ (strs_alloc (strs_alloc (strs_alloc hv _) _) _) hc9 hf9 h ?_ ?_ ?_).mono ?_
  · simp
  · simp [go_sem]
  · simp [go_sem]
  rintro e w1 ⟨rfl, hb⟩
  have hc2 : w1.cell? ⟨w.heap.size + 2, 0, none⟩ = some (.string ⟨#[]⟩) := by rw [(bcell hb).1 _ _ (by simp)]; simp [go_sem]
  have hb' : Below w.heap.size w w1 := Below.trans ((((Below.refl _ w).alloc (by simp) _).alloc (by simp <;> omega) _).alloc (by simp <;> omega) _) (hb.mono (by simp <;> omega))
  clear hb
  go_wp2
  go_ret2
  exact ⟨rfl, hb'⟩

/-- What Join answers: the whole, and the error. -/
def joinOf (f : Text) (ps : List Text) : Text × Int :=
  if ps.length ≤ 8 ∧ f.length + 4 * ps.length + sumLen ps ≤ 65536 then (wholeOf f ps, 0) else ([], 4)

theorem Join_any (f : ByteArray) (ss : List ByteArray) (v : Value) (w : World) (hv : Strs w w.heap.size v ss) (hc9 : ss.length ≤ 9223372036854775807) (hf9 : f.size ≤ 9223372036854775807) :
    Calls Tryz.prog 60 #[.string f, v] w fun e w' => e = .returned (.tuple #[.string ⟨(joinOf f.data.toList (txts ss)).1.toArray⟩, .int .i64 (joinOf f.data.toList (txts ss)).2]) ∧ Below w.heap.size w w' := by
  unfold joinOf
  rw [size_list, txts_length]
  by_cases h : ss.length ≤ 8 ∧ f.size + 4 * ss.length + sumLen (txts ss) ≤ 65536
  · rw [if_pos h]; exact Join_yes f ss v w hv h.1 h.2
  · rw [if_neg h]; exact Join_no f ss v w hv hc9 hf9 h
end Go.Proofs.YtieheieiolobaaaGreatDoor

namespace Go.Proofs.YtieheieiolobaaaGreatDoor
open Go.RowKit

theorem ext_list (s : ByteArray) (i j : Nat) : (s.extract i j).data.toList = (s.data.toList.drop i).take (j - i) := by
  rw [Lib.extract_data]

theorem numAt_lt (s : Text) (a : Nat) : numAt s a < 4294967296 := by
  unfold numAt
  have h := leNum_lt ((s.drop a).take 4)
  have hl : ((s.drop a).take 4).length ≤ 4 := List.length_take_le _ _
  have h2 : 256 ^ ((s.drop a).take 4).length ≤ 256 ^ 4 := Nat.pow_le_pow_right (by omega) hl
  rw [pow32] at h2
  omega

set_option maxHeartbeats 400000 in
theorem placeAt_any (s : ByteArray) (a : Nat) (w : World) (h : a + 4 ≤ s.size) (hs : s.size ≤ 65536) :
    Calls Tryz.prog 117 #[.string s, .int .i64 a] w fun e w' => e = .returned (.int .i64 (numAt s.data.toList a)) ∧ w = w' := by
  have hx : (s.extract a (a + 4)).size ≤ 8 := by rw [ext_size _ _ _ h]; omega
  have hlt := numAt_lt s.data.toList a
  have he : leNum (s.extract a (a + 4)).data.toList = numAt s.data.toList a := by
    rw [ext_list]; unfold numAt; rw [show a + 4 - a = 4 by omega]
  go_enter Tryz.func117, Tryz.ntmps117
  go_wp2_with fail
  with_reducible refine (number_any _ _ hx).mono ?_
  rintro e w1 ⟨rfl, rfl⟩
  rw [he]
  clear he hx
  go_wp2_with fail
  go_ret
  exact ⟨rfl, rfl⟩

theorem placeAt_int (s : ByteArray) (x : Int) (a : Nat) (w : World) (hx : x = (a : Int)) (h : a + 4 ≤ s.size) (hs : s.size ≤ 65536) :
    Calls Tryz.prog 117 #[.string s, .int .i64 x] w fun e w' => e = .returned (.int .i64 (numAt s.data.toList a)) ∧ w = w' := by
  subst hx; exact placeAt_any s a w h hs

def Panics (y : Int) (w : World) (e : Ending) (w' : World) : Prop := e = .panicked [{ v := .iface 44 (.int .i64 y), recovered := false }] ∧ Below w.heap.size w w'

theorem split_fixed (s : ByteArray) (fixed many : Int) (w : World) (h : ¬ (0 ≤ fixed ∧ fixed ≤ 65536)) :
    Calls Tryz.prog 105 #[.string s, .int .i64 fixed, .int .i64 many] w (Panics 1 w) := by
  by_cases h0 : 0 ≤ fixed
  · have hd : decide (fixed ≤ 65536) = false := by simp; omega
    go_enter Tryz.func105, Tryz.ntmps105
    go_wp2_with fail
    with_reducible refine (demand_no _ _).mono ?_
    rintro e w1 ⟨rfl, rfl⟩
    exact ⟨rfl, rfl, Below.refl _ _⟩
  · have hd : decide (0 ≤ fixed) = false := by simp; omega
    go_enter Tryz.func105, Tryz.ntmps105
    go_wp2_with fail
    with_reducible refine (demand_no _ _).mono ?_
    rintro e w1 ⟨rfl, rfl⟩
    exact ⟨rfl, rfl, Below.refl _ _⟩

theorem split_many (s : ByteArray) (fixed many : Int) (w : World) (hf : 0 ≤ fixed ∧ fixed ≤ 65536) (h : ¬ (0 ≤ many ∧ many ≤ 8)) :
    Calls Tryz.prog 105 #[.string s, .int .i64 fixed, .int .i64 many] w (Panics 1 w) := by
  obtain ⟨hf0, hf1⟩ := hf
  have hd0 : decide (fixed ≤ 65536) = true := by simp; omega
  by_cases h0 : 0 ≤ many
  · have hd : decide (many ≤ 8) = false := by simp; omega
    go_enter Tryz.func105, Tryz.ntmps105
    go_wp2_with fail
    with_reducible refine (demand_yes _ _).mono ?_
    rintro e w1 ⟨rfl, rfl⟩
    go_wp2_with fail
    with_reducible refine (demand_no _ _).mono ?_
    rintro e w1 ⟨rfl, rfl⟩
    exact ⟨rfl, rfl, Below.refl _ _⟩
  · have hd : decide (0 ≤ many) = false := by simp; omega
    go_enter Tryz.func105, Tryz.ntmps105
    go_wp2_with fail
    with_reducible refine (demand_yes _ _).mono ?_
    rintro e w1 ⟨rfl, rfl⟩
    go_wp2_with fail
    with_reducible refine (demand_no _ _).mono ?_
    rintro e w1 ⟨rfl, rfl⟩
    exact ⟨rfl, rfl, Below.refl _ _⟩

theorem split_long (s : ByteArray) (fixed many : Nat) (w : World) (hf : fixed ≤ 65536) (hm : many ≤ 8) (h : 65536 < s.size) :
    Calls Tryz.prog 105 #[.string s, .int .i64 fixed, .int .i64 many] w (Panics 4 w) := by
  have hd0 : decide ((fixed : Int) ≤ 65536) = true := by simp; omega
  have hd1 : decide ((many : Int) ≤ 8) = true := by simp; omega
  have hd2 : decide ((s.size : Int) ≤ 65536) = false := by simp; omega
  go_enter Tryz.func105, Tryz.ntmps105
  go_wp2_with fail
  with_reducible refine (demand_yes _ _).mono ?_
  rintro e w1 ⟨rfl, rfl⟩
  go_wp2_with fail
  with_reducible refine (demand_yes _ _).mono ?_
  rintro e w1 ⟨rfl, rfl⟩
  go_wp2_with fail
  with_reducible refine (demand_no _ _).mono ?_
  rintro e w1 ⟨rfl, rfl⟩
  exact ⟨rfl, rfl, Below.refl _ _⟩

theorem split_short (s : ByteArray) (fixed many : Nat) (w : World) (hf : fixed ≤ 65536) (hm : many ≤ 8) (hl : s.size ≤ 65536) (h : s.size < fixed + 4 * many) :
    Calls Tryz.prog 105 #[.string s, .int .i64 fixed, .int .i64 many] w (Panics 3 w) := by
  have hd0 : decide ((fixed : Int) ≤ 65536) = true := by simp; omega
  have hd1 : decide ((many : Int) ≤ 8) = true := by simp; omega
  have hd2 : decide ((s.size : Int) ≤ 65536) = true := by simp; omega
  have hd3 : decide ((fixed : Int) + 4 * (many : Int) ≤ (s.size : Int)) = false := by simp; omega
  go_enter Tryz.func105, Tryz.ntmps105
  go_wp2_with fail
  with_reducible refine (demand_yes _ _).mono ?_
  rintro e w1 ⟨rfl, rfl⟩
  go_wp2_with fail
  with_reducible refine (demand_yes _ _).mono ?_
  rintro e w1 ⟨rfl, rfl⟩
  go_wp2_with fail
  with_reducible refine (demand_yes _ _).mono ?_
  rintro e w1 ⟨rfl, rfl⟩
  go_wp2_with fail
  with_reducible refine (demand_no _ _).mono ?_
  rintro e w1 ⟨rfl, rfl⟩
  exact ⟨rfl, rfl, Below.refl _ _⟩
end Go.Proofs.YtieheieiolobaaaGreatDoor

namespace Go.Proofs.YtieheieiolobaaaGreatDoor
open Go.RowKit

theorem info_str : (Tryz.prog.info? 9).map (fun i => (i.zero, i.size, i.bytes)) = some (some (.string ⟨#[]⟩), 1, 16) := by kernel_rfl

def strVals (ss : List ByteArray) : List Value := ss.map Value.string
/-- The cells of the parts' list, when those from k on are there. -/
def gapVals (k : Nat) (acc : List ByteArray) : List Value := List.replicate k (Value.string ⟨#[]⟩) ++ strVals acc
theorem gap_cell (k : Nat) (acc : List ByteArray) : (gapVals (k + 1) acc)[k]? = some (.string ⟨#[]⟩) := by
  unfold gapVals
  rw [List.getElem?_append_left (by simp), List.getElem?_replicate, if_pos (by omega)]
theorem gap_set (k : Nat) (acc : List ByteArray) (x : ByteArray) : (gapVals (k + 1) acc).set k (.string x) = gapVals k (x :: acc) := by
  unfold gapVals
  rw [List.replicate_succ', List.append_assoc, List.set_append_right _ _ (by simp)]
  simp [strVals]
theorem gap_zero (acc : List ByteArray) : gapVals 0 acc = strVals acc := rfl

theorem cut_step (s : ByteArray) (fixed body k stop : Nat) (acc : List ByteArray) (h : numAt s.data.toList (fixed + 4 * k) ≤ stop) :
    cutBack s.data.toList fixed body (k + 1) stop (txts acc) = cutBack s.data.toList fixed body k (numAt s.data.toList (fixed + 4 * k)) (txts (s.extract (numAt s.data.toList (fixed + 4 * k)) stop :: acc)) := by
  simp only [cutBack, if_pos h, txts, List.map_cons, ext_list]

/-- How split ends, where the counts are right. -/
def SplitEnds (s : ByteArray) (fixed many : Nat) (w : World) (e : Ending) (w' : World) : Prop :=
  match cutBack s.data.toList fixed (fixed + 4 * many) many s.size [] with
  | some ps => ∃ v qs, e = .returned (.tuple #[.string (s.extract 0 fixed), v]) ∧ Strs w' w'.heap.size v qs ∧ FromOn w.heap.size v ∧ txts qs = ps ∧ Below w.heap.size w w'
  | none => Panics 2 w e w'

theorem ends_some {s : ByteArray} {fixed many : Nat} {w w' : World} {v : Value} {qs : List ByteArray} (h : cutBack s.data.toList fixed (fixed + 4 * many) many s.size [] = some (txts qs))
    (hv : Strs w' w'.heap.size v qs) (hfr : FromOn w.heap.size v) (hb : Below w.heap.size w w') : SplitEnds s fixed many w (.returned (.tuple #[.string (s.extract 0 fixed), v])) w' := by
  unfold SplitEnds; rw [h]; exact ⟨v, qs, rfl, hv, hfr, rfl, hb⟩
theorem ends_none {s : ByteArray} {fixed many : Nat} {w w' : World} (h : cutBack s.data.toList fixed (fixed + 4 * many) many s.size [] = none)
    (hb : Below w.heap.size w w') : SplitEnds s fixed many w (.panicked [{ v := .iface 44 (.int .i64 2), recovered := false }]) w' := by
  unfold SplitEnds; rw [h]; exact ⟨rfl, hb⟩

set_option maxHeartbeats 2000000 in
theorem split_ok (s : ByteArray) (fixed many : Nat) (w : World) (hf : fixed ≤ 65536) (hm : many ≤ 8) (hl : s.size ≤ 65536) (h : fixed + 4 * many ≤ s.size) :
    Calls Tryz.prog 105 #[.string s, .int .i64 fixed, .int .i64 many] w (SplitEnds s fixed many w) := by
  have hd0 : decide ((fixed : Int) ≤ 65536) = true := by simp; omega
  have hd1 : decide ((many : Int) ≤ 8) = true := by simp; omega
  have hd2 : decide ((s.size : Int) ≤ 65536) = true := by simp; omega
  have hd3 : decide ((fixed : Int) + 4 * (many : Int) ≤ (s.size : Int)) = true := by simp; omega
  obtain ⟨i0, hi, hz0, hz1, hz2⟩ := info_parts info_str
  obtain ⟨M, hM⟩ : ∃ M, M = madeCells (Value.string ⟨#[]⟩).cells (many * i0.size) := ⟨_, rfl⟩
  have hMs : M.toList = List.replicate many (.string ⟨#[]⟩) := by rw [hM, hz1, Nat.mul_one]; exact toList_madeCells_one _ _
  have hmk : ∀ W : World, (Instr.makeSlice 51 (.int .i64 (many : Int)) (.int .i64 (many : Int))).run Tryz.prog W = .ok (.slice (some ⟨W.heap.size, 0, none⟩) many many) (W.alloc (.cells M 9)) := fun W => by
    have hr := run_make (P := Tryz.prog) W 51 9 i0 (.string ⟨#[]⟩) Tryz.underlying51 hi hz0 .i64 .i64 (many : Int) (many : Int) (by omega) (by omega) (by rw [hz2]; omega) (by omega)
    rw [hM]
    simpa using hr
  clear hM hi hz0 hz1 hz2
  go_enter Tryz.func105, Tryz.ntmps105
  go_wp2_with fail
  with_reducible refine (demand_yes _ _).mono ?_
  rintro e w1 ⟨rfl, rfl⟩
  go_wp2_with fail
  with_reducible refine (demand_yes _ _).mono ?_
  rintro e w1 ⟨rfl, rfl⟩
  go_wp2_with fail
  with_reducible refine (demand_yes _ _).mono ?_
  rintro e w1 ⟨rfl, rfl⟩
  go_wp2_with fail
  with_reducible refine (demand_yes _ _).mono ?_
  rintro e w1 ⟨rfl, rfl⟩
  go_wp2_with fail
  clear hd0 hd1 hd2 hd3 hmk
  go_loopw [10, 11] (fun t i wr => ∃ (k stop : Nat) (acc : List ByteArray), k ≤ many ∧ i = .int .i64 ((k : Int) - 1) ∧ stop ≤ s.size ∧ t = .int .i64 (stop : Int) ∧ k + acc.length = many ∧
      RowAt wr w.heap.size 9 (gapVals k acc) ∧ Below w.heap.size w wr ∧ cutBack s.data.toList fixed (fixed + 4 * many) many s.size [] = cutBack s.data.toList fixed (fixed + 4 * many) k stop (txts acc)) (fun _ i _ => (intOf i + 1).toNat)
  case atStart => exact ⟨many, s.size, [], Nat.le_refl _, rfl, Nat.le_refl _, rfl, rfl, by simpa [gapVals, strVals, hMs] using RowAt.new w 9 M, (Below.refl _ _).alloc (Nat.le_refl _) _, rfl⟩
  case round =>
    obtain ⟨k, stop, acc, hk, rfl, hst, rfl, hka, hrow, hb, hcut⟩ := hrel
    have HC := Lib.hid hcut
    have HM := Lib.hid hMs
    clear hcut hMs
    match k, hk, hka, hrow, HC with
    | 0, hk, hka, hrow, HC =>
      by_cases hbody : stop = fixed + 4 * many
      · have hd : ((stop : Int) == (fixed : Int) + 4 * (many : Int)) = true := beq_iff_eq.2 (by omega)
        have hacc : acc.length = many := by omega
        have hx2 : (s.extract 0 fixed).size ≤ 281474976710656 := by rw [ext_size _ _ _ (by omega)]; omega
        have HE := Lib.hid (show cutBack s.data.toList fixed (fixed + 4 * many) many s.size [] = some (txts acc) by
          have := HC.out
          rw [this]; simp [cutBack, hbody])
        have HB := Lib.hid hbody
        have HA := Lib.hid hacc
        clear hbody hacc HC
        go_wp2_with fail
        with_reducible refine (demand_yes _ _).mono ?_
        rintro e w1 ⟨rfl, rfl⟩
        go_wp2_with fail
        with_reducible refine (clone_any _ _ hx2).mono ?_
        rintro e w2 ⟨rfl, hb2⟩
        have hz := hb.size
        have hrow2 := hrow.below hb2 hrow.lt
        have hbn : Below w.heap.size w w2 := hb.trans (hb2.mono hz)
        clear hrow hb hb2
        go_wp2_with fail
        go_ret2
        have hv := Strs.row (ss := acc) hrow2
        rw [HA.out] at hv
        exact ends_some HE.out hv (fun ad n c e => by injection e with e _ _; injection e with e; subst e; exact Nat.le_refl _) hbn
      · have hd : ((stop : Int) == (fixed : Int) + 4 * (many : Int)) = false := beq_eq_false_iff_ne.2 (by omega)
        have HE := Lib.hid (show cutBack s.data.toList fixed (fixed + 4 * many) many s.size [] = none by
          have := HC.out
          rw [this]; simp [cutBack, hbody])
        clear hbody HC
        go_wp2_with fail
        with_reducible refine (demand_no _ _).mono ?_
        rintro e w1 ⟨rfl, rfl⟩
        exact ⟨rfl, ends_none HE.out hb⟩
    | k + 1, hk, hka, hrow, HC =>
      generalize hpl : numAt s.data.toList (fixed + 4 * k) = place
      have HP := Lib.hid hpl
      clear hpl
      have hplt : place < 4294967296 := by rw [← HP.out]; exact numAt_lt _ _
      by_cases hle : place ≤ stop
      · have hd : decide (place ≤ stop) = true := by simpa using hle
        have HE := Lib.hid (cut_step s fixed (fixed + 4 * many) k stop acc (by rw [HP.out]; exact hle))
        have hx2 : (s.extract place stop).size ≤ 281474976710656 := by rw [ext_size _ _ _ hst]; omega
        have hc : wr.cell? ⟨w.heap.size, k, none⟩ = some (.string ⟨#[]⟩) := by rw [hrow.cell, gap_cell]
        have hfz := hrow.frozen k
        go_wp2_with fail
        with_reducible refine (placeAt_int s _ (fixed + 4 * k) _ (by simp) (by omega) hl).mono ?_
        rintro e w1 ⟨rfl, rfl⟩
        rw [HP.out]
        go_wp2_with fail
        with_reducible refine (demand_yes _ _).mono ?_
        rintro e w1 ⟨rfl, rfl⟩
        go_wp2_with fail
        with_reducible refine (clone_any _ _ hx2).mono ?_
        rintro e w2 ⟨rfl, hb2⟩
        have hz := hb.size
        have hrow2 := hrow.below hb2 hrow.lt
        have hc2 : w2.cell? ⟨w.heap.size, k, none⟩ = some (.string ⟨#[]⟩) := by rw [hrow2.cell, gap_cell]
        have hfz2 := hrow2.frozen k
        have hrow3 := hrow2.set k (.string (s.extract place stop))
        rw [gap_set] at hrow3
        have hbn : Below w.heap.size w (w2.setCell ⟨w.heap.size, k, none⟩ (.string (s.extract place stop))) := (hb.trans (hb2.mono hz)).setCell (Nat.le_refl _) _
        clear hrow hrow2 hb hb2 hc hfz
        go_wp2_with fail
        go_roundw
        case rel => exact ⟨k, place, s.extract place stop :: acc, by omega, by go_num, by omega, rfl, by simp; omega, hrow3, hbn, by rw [HC.out, HE.out, HP.out]⟩
        case measure => simp [intOf]
      · have hd : decide (place ≤ stop) = false := by simpa using hle
        have HE := Lib.hid (show cutBack s.data.toList fixed (fixed + 4 * many) many s.size [] = none by
          have := HC.out
          rw [this]; simp only [cutBack]; rw [HP.out, if_neg hle])
        clear HC
        go_wp2_with fail
        with_reducible refine (placeAt_int s _ (fixed + 4 * k) _ (by simp) (by omega) hl).mono ?_
        rintro e w1 ⟨rfl, rfl⟩
        rw [HP.out]
        go_wp2_with fail
        with_reducible refine (demand_no _ _).mono ?_
        rintro e w1 ⟨rfl, rfl⟩
        exact ⟨rfl, ends_none HE.out hb⟩
end Go.Proofs.YtieheieiolobaaaGreatDoor

namespace Go.Proofs.YtieheieiolobaaaGreatDoor
open Go.RowKit

/-- split ends well: the fixed text, and the parts, in new memory. -/
def SplitYes (s : ByteArray) (fixed many : Int) (hd : ByteArray) (ps : List Text) : Prop :=
  ∀ w, Calls Tryz.prog 105 #[.string s, .int .i64 fixed, .int .i64 many] w fun e w' => ∃ v qs, e = .returned (.tuple #[.string hd, v]) ∧ Strs w' w'.heap.size v qs ∧ FromOn w.heap.size v ∧ txts qs = ps ∧ Below w.heap.size w w'
def SplitNo (s : ByteArray) (fixed many y : Int) : Prop :=
  ∀ w, Calls Tryz.prog 105 #[.string s, .int .i64 fixed, .int .i64 many] w (Panics y w)

/-- What is in the two results' cells. -/
def Holds (N : Nat) (hd : ByteArray) (ps : List Text) (w w' : World) : Prop :=
  ∃ v qs, w'.cell? ⟨N + 3, 0, none⟩ = some (.string hd) ∧ w'.cell? ⟨N + 4, 0, none⟩ = some v ∧ Strs w' w'.heap.size v qs ∧ FromOn w.heap.size v ∧ txts qs = ps

theorem splitFn_yes (s : ByteArray) (fixed many : Int) (hd : ByteArray) (ps : List Text) (x y : Value) (N : Nat) (w : World) (hyes : SplitYes s fixed many hd ps)
    (hN : N + 5 ≤ w.heap.size) (c0 : w.cell? ⟨N, 0, none⟩ = some (.string s)) (c1 : w.cell? ⟨N + 1, 0, none⟩ = some (.int .i64 fixed)) (c2 : w.cell? ⟨N + 2, 0, none⟩ = some (.int .i64 many))
    (c3 : w.cell? ⟨N + 3, 0, none⟩ = some x) (c4 : w.cell? ⟨N + 4, 0, none⟩ = some y) (f3 : w.frozen? ⟨N + 3, 0, none⟩ = false) (f4 : w.frozen? ⟨N + 4, 0, none⟩ = false) :
    Calls Tryz.prog 104 #[.pointer (some ⟨N, 0, none⟩), .pointer (some ⟨N + 1, 0, none⟩), .pointer (some ⟨N + 2, 0, none⟩), .pointer (some ⟨N + 3, 0, none⟩), .pointer (some ⟨N + 4, 0, none⟩)] w fun e w' =>
      e = .returned (.tuple #[]) ∧ Holds N hd ps w w' ∧ ∃ w1 v, Below w.heap.size w w1 ∧ w' = (w1.setCell ⟨N + 3, 0, none⟩ (.string hd)).setCell ⟨N + 4, 0, none⟩ v := by
  go_enter Tryz.func104, Tryz.ntmps104
  go_wp2_with fail
  refine (hyes _).mono ?_
  rintro e w1 ⟨v, qs, rfl, hv, hfr, hq, hb⟩
  obtain ⟨A, c, rfl, hcc⟩ := hv.form
  obtain ⟨hc, hf⟩ := bcell hb
  have d3 : w1.cell? ⟨N + 3, 0, none⟩ = some x := by rw [hc _ _ (by omega)]; exact c3
  have d4 : w1.cell? ⟨N + 4, 0, none⟩ = some y := by rw [hc _ _ (by omega)]; exact c4
  have g3 : w1.frozen? ⟨N + 3, 0, none⟩ = false := by rw [hf _ _ (by omega)]; exact f3
  have g4 : w1.frozen? ⟨N + 4, 0, none⟩ = false := by rw [hf _ _ (by omega)]; exact f4
  have HQ := Lib.hid hq
  clear hc hf c0 c1 c2 c3 c4 f3 f4 hq
  go_wp2_with fail
  go_end0
  have hv2 := (hv.setCell hfr (p := ⟨N + 3, 0, none⟩) (by show N + 3 < _; omega) (.string hd)).setCell hfr (p := ⟨N + 4, 0, none⟩) (by show N + 4 < _; omega) (.slice A qs.length c)
  refine ⟨rfl, ⟨.slice A qs.length c, qs, ?_, ?_, ?_, hfr, HQ.out⟩, w1, _, hb, rfl⟩
  · rw [World.cell?_setCell_other _ _ _ _ (by simp), World.cell?_setCell_same _ _ _ d3]
  · exact World.cell?_setCell_same _ _ _ ((World.cell?_setCell_other _ _ _ _ (by simp)).trans d4)
  · simpa [World.setCell] using hv2

theorem splitFn_no (s : ByteArray) (fixed many y : Int) (N : Nat) (w : World) (hno : SplitNo s fixed many y)
    (c0 : w.cell? ⟨N, 0, none⟩ = some (.string s)) (c1 : w.cell? ⟨N + 1, 0, none⟩ = some (.int .i64 fixed)) (c2 : w.cell? ⟨N + 2, 0, none⟩ = some (.int .i64 many)) :
    Calls Tryz.prog 104 #[.pointer (some ⟨N, 0, none⟩), .pointer (some ⟨N + 1, 0, none⟩), .pointer (some ⟨N + 2, 0, none⟩), .pointer (some ⟨N + 3, 0, none⟩), .pointer (some ⟨N + 4, 0, none⟩)] w (Panics y w) := by
  go_enter Tryz.func104, Tryz.ntmps104
  go_wp2_with fail
  refine (hno _).mono ?_
  rintro e w1 ⟨rfl, hb⟩
  exact ⟨rfl, rfl, hb⟩

theorem trySplit_yes (s : ByteArray) (fixed many : Int) (hd : ByteArray) (ps : List Text) (x y : Value) (N : Nat) (w : World) (hyes : SplitYes s fixed many hd ps)
    (hN : N + 5 = w.heap.size) (c0 : w.cell? ⟨N, 0, none⟩ = some (.string s)) (c1 : w.cell? ⟨N + 1, 0, none⟩ = some (.int .i64 fixed)) (c2 : w.cell? ⟨N + 2, 0, none⟩ = some (.int .i64 many))
    (c3 : w.cell? ⟨N + 3, 0, none⟩ = some x) (c4 : w.cell? ⟨N + 4, 0, none⟩ = some y) (f3 : w.frozen? ⟨N + 3, 0, none⟩ = false) (f4 : w.frozen? ⟨N + 4, 0, none⟩ = false) :
    Calls Tryz.prog 87 #[.func (.func 104) #[] #[.pointer (some ⟨N, 0, none⟩), .pointer (some ⟨N + 1, 0, none⟩), .pointer (some ⟨N + 2, 0, none⟩), .pointer (some ⟨N + 3, 0, none⟩), .pointer (some ⟨N + 4, 0, none⟩)]] w fun e w' =>
      e = .returned (.int .i64 0) ∧ Holds N hd ps w w' ∧ Below N w w' := by
  have old : ∀ p : Addr, p.block < w.heap.size → (w.alloc (.cells #[.int .i64 0] 44)).cell? p = w.cell? p := fun p hp => World.cell?_alloc_lt _ _ _ hp
  have oldf : ∀ p : Addr, p.block < w.heap.size → (w.alloc (.cells #[.int .i64 0] 44)).frozen? p = w.frozen? p := fun p hp => World.frozen?_alloc_old _ _ _ (by omega)
  refine (attempt_ok 104 _ w (fun w' => Holds N hd ps (w.alloc (.cells #[.int .i64 0] 44)) w' ∧ Below N w w')
    (enters_of Tryz.func104 (by kernel_rfl) rfl) ((splitFn_yes s fixed many hd ps x y N _ hyes (by simp; omega) ((old _ (by show N < _; omega)).trans c0) ((old _ (by show N + 1 < _; omega)).trans c1) ((old _ (by show N + 2 < _; omega)).trans c2)
      ((old _ (by show N + 3 < _; omega)).trans c3) ((old _ (by show N + 4 < _; omega)).trans c4) ((oldf _ (by show N + 3 < _; omega)).trans f3) ((oldf _ (by show N + 4 < _; omega)).trans f4)).mono ?_)).mono ?_
  · rintro e w' ⟨rfl, hh, w1, v, hb, rfl⟩
    have hr := (RowAt.new w 44 #[.int .i64 0]).below hb (by simp)
    have h0 : Below N w (w.alloc (.cells #[.int .i64 0] 44)) := (Below.refl _ _).alloc (by omega) _
    refine ⟨rfl, ⟨hh, ((h0.trans (hb.mono (by simp; omega))).setCell (by show N ≤ N + 3; omega) _).setCell (by show N ≤ N + 4; omega) _⟩, ?_, ?_⟩
    · rw [World.cell?_setCell_other _ _ _ _ (by simp <;> omega), World.cell?_setCell_other _ _ _ _ (by simp <;> omega), hr.cell]; rfl
    · rw [World.frozen?_setCell, World.frozen?_setCell, hr.frozen]
  · rintro e w' ⟨rfl, w1, ⟨⟨v, qs, k3, k4, hv, hfr, hq⟩, hb⟩, rfl⟩
    refine ⟨rfl, ⟨v, qs, ?_, ?_, ?_, hfr.less (by simp), hq⟩, hb.setCell (by show N ≤ w.heap.size; omega) _⟩
    · rw [World.cell?_setCell_other _ _ _ _ (by simp <;> omega)]; exact k3
    · rw [World.cell?_setCell_other _ _ _ _ (by simp <;> omega)]; exact k4
    · have := hv.setCell hfr (p := ⟨w.heap.size, 0, none⟩) (by simp) (.int .i64 0)
      simpa [World.setCell] using this

theorem trySplit_no (s : ByteArray) (fixed many y : Int) (N : Nat) (w : World) (hno : SplitNo s fixed many y)
    (hN : N + 5 = w.heap.size) (c0 : w.cell? ⟨N, 0, none⟩ = some (.string s)) (c1 : w.cell? ⟨N + 1, 0, none⟩ = some (.int .i64 fixed)) (c2 : w.cell? ⟨N + 2, 0, none⟩ = some (.int .i64 many)) :
    Calls Tryz.prog 87 #[.func (.func 104) #[] #[.pointer (some ⟨N, 0, none⟩), .pointer (some ⟨N + 1, 0, none⟩), .pointer (some ⟨N + 2, 0, none⟩), .pointer (some ⟨N + 3, 0, none⟩), .pointer (some ⟨N + 4, 0, none⟩)]] w fun e w' =>
      e = .returned (.int .i64 y) ∧ Below w.heap.size w w' := by
  have old : ∀ p : Addr, p.block < w.heap.size → (w.alloc (.cells #[.int .i64 0] 44)).cell? p = w.cell? p := fun p hp => World.cell?_alloc_lt _ _ _ hp
  refine (attempt_no 104 _ y w (fun w' => Below w.heap.size w w')
    (enters_of Tryz.func104 (by kernel_rfl) rfl) ((splitFn_no s fixed many y N _ hno ((old _ (by show N < _; omega)).trans c0) ((old _ (by show N + 1 < _; omega)).trans c1) ((old _ (by show N + 2 < _; omega)).trans c2)).mono ?_)).mono ?_
  · rintro e w' ⟨rfl, hb⟩
    have hr := (RowAt.new w 44 #[.int .i64 0]).below hb (by simp)
    exact ⟨rfl, ((Below.refl _ _).alloc (Nat.le_refl _) _).trans (hb.mono (by simp)), by rw [hr.cell]; rfl, hr.frozen 0⟩
  · rintro e w' ⟨rfl, w2, hb, rfl⟩
    exact ⟨rfl, hb.setCell (Nat.le_refl _) _⟩

set_option maxHeartbeats 1000000 in
theorem Split_yes (s : ByteArray) (fixed many : Int) (hd : ByteArray) (ps : List Text) (w : World) (hyes : SplitYes s fixed many hd ps) :
    Calls Tryz.prog 91 #[.string s, .int .i64 fixed, .int .i64 many] w fun e w' => ∃ v qs, e = .returned (.tuple #[.string hd, v, .int .i64 0]) ∧ Strs w' w'.heap.size v qs ∧ FromOn w.heap.size v ∧ txts qs = ps ∧ Below w.heap.size w w' := by
  have hmf : ∀ (fn : Fn) (first cap : Array Value) (w : World), (Instr.makeFunc fn first cap).run Tryz.prog w = .ok (.func fn first cap) w := fun _ _ _ _ => rfl
  go_enter Tryz.func91, Tryz.ntmps91
  go_wp2_with fail
  refine (trySplit_yes s fixed many hd ps (.string ⟨#[]⟩) (.slice none 0 0) w.heap.size _ hyes ?_ ?_ ?_ ?_ ?_ ?_ ?_ ?_).mono ?_
  · simp
  · simp [go_sem]
  · simp [go_sem]
  · simp [go_sem]
  · simp [go_sem]
  · simp [go_sem]
  · simp [go_sem]
  · simp [go_sem]
  rintro e w1 ⟨rfl, ⟨v, qs, hc3, hc4, hv, hfr, hq⟩, hb⟩
  obtain ⟨A, c, rfl, hcc⟩ := hv.form
  have hb' : Below w.heap.size w w1 := Below.trans ((((((Below.refl _ w).alloc (by simp) _).alloc (by simp <;> omega) _).alloc (by simp <;> omega) _).alloc (by simp <;> omega) _).alloc (by simp <;> omega) _) hb
  have HQ := Lib.hid hq
  have hfr' : FromOn w.heap.size (.slice A qs.length c) := hfr.less (by simp <;> omega)
  clear hb hq hfr
  go_wp2_with fail
  go_region
  all_goals (try go_wp2)
  all_goals go_ret3
  all_goals exact ⟨_, qs, rfl, hv.below (Below.refl _ _).drew (Nat.le_refl _), hfr', HQ.out, hb'.drew⟩

set_option maxHeartbeats 1000000 in
theorem Split_no (s : ByteArray) (fixed many y : Int) (w : World) (hno : SplitNo s fixed many y) :
    Calls Tryz.prog 91 #[.string s, .int .i64 fixed, .int .i64 many] w fun e w' => e = .returned (.tuple #[.string ⟨#[]⟩, .slice none 0 0, .int .i64 y]) ∧ Below w.heap.size w w' := by
  have hmf : ∀ (fn : Fn) (first cap : Array Value) (w : World), (Instr.makeFunc fn first cap).run Tryz.prog w = .ok (.func fn first cap) w := fun _ _ _ _ => rfl
  go_enter Tryz.func91, Tryz.ntmps91
  go_wp2_with fail
  refine (trySplit_no s fixed many y w.heap.size _ hno ?_ ?_ ?_ ?_).mono ?_
  · simp
  · simp [go_sem]
  · simp [go_sem]
  · simp [go_sem]
  rintro e w1 ⟨rfl, hb⟩
  have hc3 : w1.cell? ⟨w.heap.size + 3, 0, none⟩ = some (.string ⟨#[]⟩) := by rw [(bcell hb).1 _ _ (by simp)]; simp [go_sem]
  have hc4 : w1.cell? ⟨w.heap.size + 4, 0, none⟩ = some (.slice none 0 0) := by rw [(bcell hb).1 _ _ (by simp)]; simp [go_sem]
  have hb' : Below w.heap.size w w1 := Below.trans ((((((Below.refl _ w).alloc (by simp) _).alloc (by simp <;> omega) _).alloc (by simp <;> omega) _).alloc (by simp <;> omega) _).alloc (by simp <;> omega) _) (hb.mono (by simp <;> omega))
  clear hb
  go_wp2_with fail
  go_region
  all_goals (try go_wp2)
  all_goals go_ret3
  all_goals exact ⟨rfl, hb'.drew⟩

/-- What Split answers: the fixed text, the parts, the error. -/
def splitOf (s : Text) (fixed many : Int) : Text × List Text × Int :=
  if 0 ≤ fixed ∧ fixed ≤ 65536 then
    if 0 ≤ many ∧ many ≤ 8 then
      if s.length ≤ 65536 then
        if fixed.toNat + 4 * many.toNat ≤ s.length then
          match cutBack s fixed.toNat (fixed.toNat + 4 * many.toNat) many.toNat s.length [] with
          | some ps => (s.take fixed.toNat, ps, 0)
          | none => ([], [], 2)
        else ([], [], 3)
      else ([], [], 4)
    else ([], [], 1)
  else ([], [], 1)

/-- Split's answer, in memory. -/
def SplitGives (w : World) (r : Text × List Text × Int) (e : Ending) (w' : World) : Prop :=
  ∃ v qs, e = .returned (.tuple #[.string ⟨r.1.toArray⟩, v, .int .i64 r.2.2]) ∧ Strs w' w'.heap.size v qs ∧ FromOn w.heap.size v ∧ txts qs = r.2.1 ∧ Below w.heap.size w w'

theorem fromOn_nil (lo : Nat) : FromOn lo (.slice none 0 0) := fun ad n c e => by injection e with e; cases e

theorem gives_no {s : ByteArray} {fixed many y : Int} {w : World} (hno : SplitNo s fixed many y) :
    Calls Tryz.prog 91 #[.string s, .int .i64 fixed, .int .i64 many] w (SplitGives w ([], [], y)) :=
  (Split_no s fixed many y w hno).mono fun _ _ ⟨he, hb⟩ => ⟨_, [], he, Strs.nil _ _, fromOn_nil _, rfl, hb⟩

theorem ext_zero (s : ByteArray) (n : Nat) : s.extract 0 n = ⟨(s.data.toList.take n).toArray⟩ := by
  apply ByteArray.ext
  apply Array.toList_inj.1
  rw [ext_list]
  simp

theorem Split_any (s : ByteArray) (fixed many : Int) (w : World) :
    Calls Tryz.prog 91 #[.string s, .int .i64 fixed, .int .i64 many] w (SplitGives w (splitOf s.data.toList fixed many)) := by
  unfold splitOf
  rw [size_list]
  by_cases h1 : 0 ≤ fixed ∧ fixed ≤ 65536
  · by_cases h2 : 0 ≤ many ∧ many ≤ 8
    · obtain ⟨f, rfl⟩ := Int.eq_ofNat_of_zero_le h1.1
      obtain ⟨m, rfl⟩ := Int.eq_ofNat_of_zero_le h2.1
      rw [if_pos h1, if_pos h2, Int.toNat_natCast, Int.toNat_natCast]
      by_cases h3 : s.size ≤ 65536
      · by_cases h4 : f + 4 * m ≤ s.size
        · rw [if_pos h3, if_pos h4]
          have hk : ∀ w, _ := fun w => split_ok s f m w (by omega) (by omega) h3 h4
          cases hc : cutBack s.data.toList f (f + 4 * m) m s.size [] with
          | some ps =>
            have hyes : SplitYes s f m (s.extract 0 f) ps := fun w => (hk w).mono fun e w' he => by
              unfold SplitEnds at he; rw [hc] at he; exact he
            refine (Split_yes s f m _ ps w hyes).mono fun e w' he => ?_
            obtain ⟨v, qs, he, hv, hfr, hq, hb⟩ := he
            exact ⟨v, qs, by rw [he, ext_zero], hv, hfr, hq, hb⟩
          | none =>
            exact gives_no fun w => (hk w).mono fun e w' he => by
              unfold SplitEnds at he; rw [hc] at he; exact he
        · rw [if_pos h3, if_neg h4]
          exact gives_no fun w => split_short s f m w (by omega) (by omega) h3 (by omega)
      · rw [if_neg h3]
        exact gives_no fun w => split_long s f m w (by omega) (by omega) (by omega)
    · rw [if_pos h1, if_neg h2]
      exact gives_no fun w => split_many s fixed many w h1 h2
  · rw [if_neg h1]
    exact gives_no fun w => split_fixed s fixed many w h1
end Go.Proofs.YtieheieiolobaaaGreatDoor
