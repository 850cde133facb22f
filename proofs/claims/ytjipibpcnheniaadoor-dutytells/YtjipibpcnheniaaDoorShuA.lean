/- The document's own answers of layer 9: may, Round, Place, Back; what the program's calls answer. -/
import Derived.Test.YtjipibpcnheniaaDoorChuD
import Derived.Test.YtjipibpcnheniaaDoorShuP
namespace Go.Proofs.YtjipibpcnheniaaDoor
open Go.RowKit

/-- What may be: so many numbers, so many rounds, one of the numbers. -/
def mayB (n m i : Int) : Bool := decide (1 ≤ n) && decide (n ≤ 65536) && decide (0 ≤ m) && decide (m ≤ 90) && decide (0 ≤ i) && decide (i < n)
theorem mayB_iff (n m i : Int) : mayB n m i = true ↔ 1 ≤ n ∧ n ≤ 65536 ∧ 0 ≤ m ∧ m ≤ 90 ∧ 0 ≤ i ∧ i < n := by simp [mayB, and_assoc]
theorem mayB_nat {n m i : Int} (h : mayB n m i = true) : ∃ N M I : Nat, n = (N : Int) ∧ m = (M : Int) ∧ i = (I : Int) ∧ 1 ≤ N ∧ N ≤ 65536 ∧ M ≤ 90 ∧ I < N := by
  have := (mayB_iff n m i).1 h
  exact ⟨n.toNat, m.toNat, i.toNat, by omega, by omega, by omega, by omega, by omega, by omega, by omega⟩

theorem rmay_any (n m i : Int) (w : World) :
    Calls Tryd.prog 58 #[.int .i64 n, .int .i64 m, .int .i64 i] w fun e w' => e = .returned (.bool (mayB n m i)) ∧ w = w' := by
  by_cases h1 : 1 ≤ n
  all_goals by_cases h2 : n ≤ 65536
  all_goals by_cases h3 : 0 ≤ m
  all_goals by_cases h4 : m ≤ 90
  all_goals by_cases h5 : 0 ≤ i
  all_goals
    go_enter Tryd.func58, Tryd.ntmps58
    go_wp2
    go_ret
    exact ⟨ret_bool (by first | (simp [mayB, h1, h2, h3, h4, h5]; done) | (simp [mayB]; omega)), rfl⟩

/-- What Round makes of a number. -/
def roundS (N seed R I : Nat) : Nat := stepS N (foldB [seed, R] % N) (fun t => bitOf [seed, R, t]) I
theorem roundS_lt {N seed R I : Nat} (hi : I < N) : roundS N seed R I < N := stepS_lt hi
theorem roundS_round {N seed R I : Nat} (hi : I < N) : roundS N seed R (roundS N seed R I) = I := stepS_step (Nat.mod_lt _ (by omega)) hi
theorem roundS_bit {N seed R I : Nat} {p f : Nat} {b : Bool} (hp : foldB [seed, R] % N = p) (hf : mateS N p I = f) (hb : bitOf [seed, R, max I f] = b) : roundS N seed R I = if b then f else I := by
  subst hp; subst hf; subst hb; rfl

theorem mate_val (N p I : Nat) (h2 : I < N) : ((p : Int) + N - I).tmod N = (mateS N p I : Int) := by
  have e : (p : Int) + N - I = ((p + N - I : Nat) : Int) := by omega
  rw [e, Int.tmod_eq_emod_of_nonneg (by omega)]
  exact (Int.natCast_emod _ _).symm
theorem max_val (I f : Nat) : max (I : Int) (f : Int) = ((max I f : Nat) : Int) := by omega

theorem words2 (w : World) (a b : Nat) (t : TypeId) (g : Nat) (hg : w.heap.size = g) : Words (w.alloc (.cells #[.int .u64 (a : Int), .int .u64 (b : Int)] t)) (w.alloc (.cells #[.int .u64 (a : Int), .int .u64 (b : Int)] t)).heap.size (.slice (some ⟨g, 0, none⟩) 2 2) [a, b] := by
  subst hg; exact Elems.row (xs := [a, b]) (RowAt.new w t #[.int .u64 (a : Int), .int .u64 (b : Int)])
theorem words3 (w : World) (a b c : Nat) (t : TypeId) (g : Nat) (hg : w.heap.size = g) : Words (w.alloc (.cells #[.int .u64 (a : Int), .int .u64 (b : Int), .int .u64 (c : Int)] t)) (w.alloc (.cells #[.int .u64 (a : Int), .int .u64 (b : Int), .int .u64 (c : Int)] t)).heap.size (.slice (some ⟨g, 0, none⟩) 3 3) [a, b, c] := by
  subst hg; exact Elems.row (xs := [a, b, c]) (RowAt.new w t #[.int .u64 (a : Int), .int .u64 (b : Int), .int .u64 (c : Int)])
set_option maxHeartbeats 1000000 in
theorem rRound_yes (N seed R I : Nat) (w : World) (h1 : 1 ≤ N) (h2 : N ≤ 65536) (h3 : I < N) (h4 : R < 90) :
    Calls Tryd.prog 59 #[.int .i64 N, .int .u64 seed, .int .i64 R, .int .i64 I] w fun e w' => e = .returned (.tuple #[.int .i64 (roundS N seed R I), .int .i64 0]) ∧ Below w.heap.size w w' := by
  have hm : mayB N 0 I = true := (mayB_iff _ _ _).2 (by omega)
  have c0 := fun W => rmay_any (N : Int) 0 (I : Int) W
  rw [hm] at c0
  obtain ⟨p, hp⟩ : ∃ p, foldB [seed, R] % N = p := ⟨_, rfl⟩
  have hpl : p < N := by rw [← hp]; exact Nat.mod_lt _ (by omega)
  obtain ⟨f, hf⟩ : ∃ f, mateS N p I = f := ⟨_, rfl⟩
  have hfl : f < N := by rw [← hf]; exact mateS_lt (by omega)
  obtain ⟨t, ht⟩ : ∃ t, max I f = t := ⟨_, rfl⟩
  obtain ⟨b, hb⟩ : ∃ b, bitOf [seed, R, max I f] = b := ⟨_, rfl⟩
  have hR := roundS_bit hp hf hb
  have ev := mate_val N p I h3
  rw [hf] at ev
  rw [ht] at hb
  have cD : ∀ (W : World) (v : Value), Words W W.heap.size v [seed, R] → Calls Tryd.prog 76 #[.int .i64 N, v] W fun e w' => e = .returned (.int .i64 p) ∧ Below W.heap.size W w' := fun W v hv => by
    have := rDraw_yes N [seed, R] v W hv (by simp) h1 (by omega)
    rwa [hp] at this
  have cB : ∀ (W : World) (v : Value), Words W W.heap.size v [seed, R, t] → Calls Tryd.prog 77 #[v] W fun e w' => e = .returned (.bool b) ∧ Below W.heap.size W w' := fun W v hv => by
    have := rBit_any [seed, R, t] v W hv (by simp)
    rwa [hb] at this
  clear hp hf hb hm
  have hw : (I < f ∧ t = f) ∨ (f ≤ I ∧ t = I) := by omega
  rcases hw with ⟨hw, rfl⟩ | ⟨hw, rfl⟩
  all_goals clear ht
  all_goals cases b
  all_goals simp only [Bool.false_eq_true, if_false, if_true] at hR
  all_goals rw [hR]
  all_goals
   go_enter Tryd.func59, Tryd.ntmps59
   go_wp2_with fail
   with_reducible refine (c0 _).mono ?_
   rintro e w1 ⟨rfl, rfl⟩
   go_wp2_with fail
   with_reducible refine (cD _ _ (words2 _ _ _ _ _ rfl)).mono ?_
   rintro e w1 ⟨rfl, b1⟩
   have B1 := bstepH ((Below.refl _ w).alloc (Nat.le_refl _) _) b1 (by simp)
   clear b1 cD
   go_wp2_with fail
   with_reducible refine (cB _ _ (words3 _ _ _ _ _ _ rfl)).mono ?_
   rintro e w2 ⟨rfl, b2⟩
   have B2 := bstepH (B1.alloc B1.size _) b2 (by have := B1.size; simp; omega)
   clear b2 cB
   go_wp2_with fail
   go_ret2
   exact ⟨rfl, B2⟩

theorem rRound_no (n s r i : Int) (w : World) (h : mayB n 0 i = false ∨ r < 0 ∨ 89 < r) :
    Calls Tryd.prog 59 #[.int .i64 n, .int .u64 s, .int .i64 r, .int .i64 i] w fun e w' => e = .returned (.tuple #[.int .i64 0, .int .i64 1]) ∧ Below w.heap.size w w' := by
  have c0 := fun W => rmay_any n 0 i W
  obtain ⟨b, hb⟩ : ∃ b, mayB n 0 i = b := ⟨_, rfl⟩
  rw [hb] at h c0
  cases b
  · go_enter Tryd.func59, Tryd.ntmps59
    go_wp2_with (first | (with_reducible refine (c0 _).mono ?_; rintro e w1 ⟨rfl, rfl⟩))
    go_ret2
    exact ⟨rfl, Below.refl _ _⟩
  · have h := h.resolve_left (by simp)
    by_cases h1 : r < 0
    · go_enter Tryd.func59, Tryd.ntmps59
      go_wp2_with (first | (with_reducible refine (c0 _).mono ?_; rintro e w1 ⟨rfl, rfl⟩))
      go_ret2
      exact ⟨rfl, Below.refl _ _⟩
    · have h2 : 89 < r := h.resolve_left h1
      go_enter Tryd.func59, Tryd.ntmps59
      go_wp2_with (first | (with_reducible refine (c0 _).mono ?_; rintro e w1 ⟨rfl, rfl⟩))
      go_ret2
      exact ⟨rfl, Below.refl _ _⟩

/-- A round, asked of the document or of the program, in a world behind others. -/
theorem stS_lt {N seed : Nat} : ∀ r i, i < N → roundS N seed r i < N := fun _ _ h => roundS_lt h
theorem stS_st {N seed : Nat} : ∀ r i, i < N → roundS N seed r (roundS N seed r i) = i := fun _ _ h => roundS_round h
theorem range_take (m k : Nat) (h : k < m) : (List.range m).take (k + 1) = (List.range m).take k ++ [k] := by
  rw [List.take_succ_eq_append_getElem (by simpa using h)]; simp
set_option maxHeartbeats 1000000 in
theorem rPlace_yes (N M seed I : Nat) (w : World) (h1 : 1 ≤ N) (h2 : N ≤ 65536) (h3 : I < N) (h4 : M ≤ 90) :
    Calls Tryd.prog 35 #[.int .i64 N, .int .i64 M, .int .u64 seed, .int .i64 I] w fun e w' => e = .returned (.tuple #[.int .i64 (placeS (roundS N seed) M I), .int .i64 0]) ∧ Below w.heap.size w w' := by
  have hm : mayB N M I = true := (mayB_iff _ _ _).2 (by omega)
  have c0 := fun W => rmay_any (N : Int) M (I : Int) W
  rw [hm] at c0
  go_enter Tryd.func35, Tryd.ntmps35
  go_wp2_with (first | (with_reducible refine (c0 _).mono ?_; rintro e w1 ⟨rfl, rfl⟩))
  go_loopw [11, 12] (fun x i wr => ∃ k : Nat, k ≤ M ∧ i = .int .i64 k ∧ x = .int .i64 (placeS (roundS N seed) k I) ∧ Below w.heap.size w wr) (fun _ i _ => M - (intOf i).toNat)
  case atStart => exact ⟨0, Nat.zero_le _, rfl, rfl, Below.refl _ _⟩
  case round =>
    obtain ⟨k, hk, rfl, rfl, hb⟩ := hrel
    by_cases hlt : k < M
    · have hX : placeS (roundS N seed) k I < N := runS_lt stS_lt _ h3
      have hS := Lib.hid (placeS_succ (st := roundS N seed) k I)
      generalize placeS (roundS N seed) k I = X at *
      have cR := fun W => rRound_yes N seed k X W h1 h2 hX (by omega)
      go_wp2_with fail
      with_reducible refine (cR _).mono ?_
      rintro e w2 ⟨rfl, hb2⟩
      have hw2 := bstepH hb hb2 hb.size
      clear hb2 hb cR
      go_wp2_with fail
      go_roundw
      case rel => exact ⟨k + 1, by omega, by go_num, by rw [hS.out], hw2⟩
      case measure => simp [intOf]; omega
    · obtain rfl : k = M := by omega
      go_wp2_with fail
      go_ret2
      exact ⟨rfl, hb⟩
set_option maxHeartbeats 1000000 in
theorem rBack_yes (N M seed I : Nat) (w : World) (h1 : 1 ≤ N) (h2 : N ≤ 65536) (h3 : I < N) (h4 : M ≤ 90) :
    Calls Tryd.prog 43 #[.int .i64 N, .int .i64 M, .int .u64 seed, .int .i64 I] w fun e w' => e = .returned (.tuple #[.int .i64 (backS (roundS N seed) M I), .int .i64 0]) ∧ Below w.heap.size w w' := by
  have hm : mayB N M I = true := (mayB_iff _ _ _).2 (by omega)
  have c0 := fun W => rmay_any (N : Int) M (I : Int) W
  rw [hm] at c0
  go_enter Tryd.func43, Tryd.ntmps43
  go_wp2_with (first | (with_reducible refine (c0 _).mono ?_; rintro e w1 ⟨rfl, rfl⟩))
  go_loopw [11, 12] (fun x i wr => ∃ k Y : Nat, k ≤ M ∧ Y < N ∧ i = .int .i64 ((k : Int) - 1) ∧ x = .int .i64 Y ∧ backS (roundS N seed) k Y = backS (roundS N seed) M I ∧ Below w.heap.size w wr) (fun _ i _ => (intOf i + 1).toNat)
  case atStart => exact ⟨M, I, Nat.le_refl _, h3, by go_num, rfl, rfl, Below.refl _ _⟩
  case round =>
    obtain ⟨k, Y, hk, hY, rfl, rfl, hS, hb⟩ := hrel
    rcases Nat.eq_zero_or_pos k with h0 | hpos
    · subst h0
      have e : backS (roundS N seed) M I = Y := by rw [← hS]; rfl
      go_wp2_with fail
      go_ret2
      refine ⟨?_, hb⟩
      rw [e]
      rfl
    · obtain ⟨j, rfl⟩ : ∃ j, k = j + 1 := ⟨k - 1, by omega⟩
      rw [backS_succ] at hS
      have hX : roundS N seed j Y < N := roundS_lt hY
      have cR := fun W => rRound_yes N seed j Y W h1 h2 hY (by omega)
      have ej : ((j + 1 : Nat) : Int) - 1 = (j : Int) := by omega
      rw [ej]
      clear ej
      generalize roundS N seed j Y = X at *
      have HS := Lib.hid hS
      clear hS
      go_wp2_with fail
      with_reducible refine (cR _).mono ?_
      rintro e w2 ⟨rfl, hb2⟩
      have hw2 := bstepH hb hb2 hb.size
      clear hb2 hb cR
      go_wp2_with fail
      go_roundw
      case rel => exact ⟨j, X, by omega, hX, by go_num, rfl, HS.out, hw2⟩
      case measure => simp [intOf]
theorem rPlace_no (n m s i : Int) (w : World) (h : mayB n m i = false) :
    Calls Tryd.prog 35 #[.int .i64 n, .int .i64 m, .int .u64 s, .int .i64 i] w fun e w' => e = .returned (.tuple #[.int .i64 0, .int .i64 1]) ∧ Below w.heap.size w w' := by
  have c0 := fun W => rmay_any n m i W
  rw [h] at c0
  go_enter Tryd.func35, Tryd.ntmps35
  go_wp2_with (first | (with_reducible refine (c0 _).mono ?_; rintro e w1 ⟨rfl, rfl⟩))
  go_ret2
  exact ⟨rfl, Below.refl _ _⟩
theorem rBack_no (n m s i : Int) (w : World) (h : mayB n m i = false) :
    Calls Tryd.prog 43 #[.int .i64 n, .int .i64 m, .int .u64 s, .int .i64 i] w fun e w' => e = .returned (.tuple #[.int .i64 0, .int .i64 1]) ∧ Below w.heap.size w w' := by
  have c0 := fun W => rmay_any n m i W
  rw [h] at c0
  go_enter Tryd.func43, Tryd.ntmps43
  go_wp2_with (first | (with_reducible refine (c0 _).mono ?_; rintro e w1 ⟨rfl, rfl⟩))
  go_ret2
  exact ⟨rfl, Below.refl _ _⟩
end Go.Proofs.YtjipibpcnheniaaDoor
