/- The program's rounds of layer 9: fitsH, forth, back and what they hand back, mates, change, become.
   shuffle.through, Place, Back.
   shuffle.swap.
   shuffle.All. -/
import Derived.Test.YtjipibpcnheniaaDoorShuA
import Derived.Test.YtjipibpcnheniaaDoorBitC
namespace Go.Proofs.YtjipibpcnheniaaDoor
open Go.RowKit Go.Shelf
attribute [local go_sem] Oper.semAt_some

def fitsN (n i : Int) : Bool := decide (1 ≤ n) && decide (n ≤ 65536) && decide (0 ≤ i) && decide (i < n)
def fitsR (m : Int) : Bool := decide (0 ≤ m) && decide (m ≤ 90)
theorem mayB_eq (n m i : Int) : mayB n m i = (fitsN n i && fitsR m) := by
  rw [Bool.eq_iff_iff]; simp [mayB, fitsN, fitsR]; omega
theorem fits_any (n i : Int) (w : World) :
    Calls Tryd.prog 50 #[.int .i64 n, .int .i64 i] w fun e w' => e = .returned (.bool (fitsN n i)) ∧ w = w' := by
  by_cases h1 : 1 ≤ n
  all_goals by_cases h2 : n ≤ 65536
  all_goals by_cases h5 : 0 ≤ i
  all_goals
    go_enter Tryd.func50, Tryd.ntmps50
    go_wp2
    go_ret
    exact ⟨ret_bool (by first | (simp [fitsN, h1, h2, h5]; done) | (simp [fitsN]; omega)), rfl⟩
theorem fitsRounds_any (m : Int) (w : World) :
    Calls Tryd.prog 51 #[.int .i64 m] w fun e w' => e = .returned (.bool (fitsR m)) ∧ w = w' := by
  by_cases h1 : 0 ≤ m
  all_goals
    go_enter Tryd.func51, Tryd.ntmps51
    go_wp2
    go_ret
    exact ⟨ret_bool (by first | (simp [fitsR, h1]; done) | (simp [fitsR]; omega)), rfl⟩
theorem forth_any (m : Int) (w : World) :
    Calls Tryd.prog 75 #[.int .i64 m] w fun e w' => e = .returned (.func (.func 86) #[] #[.pointer (some ⟨w.heap.size, 0, none⟩)]) ∧ w' = w.alloc (.cells #[.int .i64 m] 3) := by
  go_enter Tryd.func75, Tryd.ntmps75
  go_wp2
  go_ret
  exact ⟨rfl, rfl⟩
theorem backs_any (m : Int) (w : World) :
    Calls Tryd.prog 52 #[.int .i64 m] w fun e w' => e = .returned (.func (.func 71) #[] #[.pointer (some ⟨w.heap.size, 0, none⟩)]) ∧ w' = w.alloc (.cells #[.int .i64 m] 3) := by
  go_enter Tryd.func52, Tryd.ntmps52
  go_wp2
  go_ret
  exact ⟨rfl, rfl⟩

abbrev encR : Fin 90 → Array Value := fun x => #[.int .i64 (x.val : Int)]
abbrev valsR (l : List (Fin 90)) : List Nat := l.map (·.val)
theorem valsR_length {l : List (Fin 90)} {k : Nat} (h : valsR l = List.range k) : l.length = k := by
  have := congrArg List.length h
  simpa using this
theorem valsR_snoc {l : List (Fin 90)} {k : Nat} (h : valsR l = List.range k) (hk : k < 90) : valsR (l ++ [⟨k, hk⟩]) = List.range (k + 1) := by
  rw [List.range_succ, ← h]; simp [valsR]
theorem valsR_down {l : List (Fin 90)} {j m : Nat} (h : valsR l ++ (List.range (j + 1)).reverse = (List.range m).reverse) (hk : j < 90) : valsR (l ++ [⟨j, hk⟩]) ++ (List.range j).reverse = (List.range m).reverse := by
  rw [← h, List.range_succ, List.reverse_append]; simp [valsR]
theorem valsR_left {l : List (Fin 90)} {j m : Nat} (h : valsR l ++ (List.range j).reverse = (List.range m).reverse) : l.length + j = m := by
  have := congrArg List.length h
  simpa using this
set_option maxRecDepth 100000 in
set_option maxHeartbeats 1000000 in
theorem forth_stops (m : Nat) (hm : m ≤ 90) (F : Fence) (n : Nat) (hF : F.fn 86) (hro : F.round = none) (hn : 1 ≤ n) (Bn : Nat) (w : World) (hc : w.cell? ⟨Bn, 0, none⟩ = some (.int .i64 (m : Int))) :
    SeqStopsK F n Tryd.prog 86 #[.pointer (some ⟨Bn, 0, none⟩)] encR (fun _ _ => True) (fun ys => valsR ys = List.range m) (fun _ => True) 90 w := by
  intro l J Jx W hW _ _ hY h0
  have hc1 : W.cell? ⟨Bn, 0, none⟩ = some (.int .i64 (m : Int)) := (hW.cell (p := ⟨Bn, 0, none⟩) (World.block_lt_of_cell? w _ hc)).trans hc
  refine callsIn_of_wp Tryd.func86 rfl hF ?_ hro
  simp only [Tryd.ntmps86, List.size_toArray, List.length_cons, List.length_nil, Nat.reduceAdd, Nat.reduceSub, Array.replicate_succ, Array.replicate_zero, List.push_toArray, List.append_toArray, List.nil_append, List.cons_append]
  gi_wp2
  gi_loopw [5] (fun i wr => ∃ (k : Nat) (pre : List (Fin 90)), k ≤ m ∧ i = .int .i64 k ∧ valsR pre = List.range k ∧ J pre wr) (fun i _ => m - (intOf i).toNat)
  case atStart => exact ⟨0, [], Nat.zero_le _, rfl, rfl, h0⟩
  case round =>
    obtain ⟨k, pre, hk, rfl, hp, hJ⟩ := hrel
    by_cases hlt : k < m
    · have hk9 : k < 90 := by omega
      obtain ⟨fn, tmps, assign, body, hy, hR⟩ := hY pre ⟨k, hk9⟩ wr hJ (by rw [valsR_length hp]; exact hk9)
      have HP := Lib.hid (valsR_snoc hp hk9)
      clear hY hp
      gi_wp2
      refine hR.mono ?_
      rintro e W3 (⟨rfl, hJ3, -⟩ | ⟨rfl, hJx3⟩)
      · gi_wp2
        go_roundw
        case rel => exact ⟨k + 1, _, by omega, by go_num, HP.out, hJ3⟩
        case measure => simp [intOf]; omega
      · gi_wp2
        refine bodyPost_ret (results_none rfl _ _ _) rfl ?_
        exact ⟨⟨_, rfl⟩, .inr ⟨_, trivial, hJx3⟩⟩
    · obtain rfl : k = m := by omega
      gi_wp2
      go_end0
      exact ⟨⟨_, rfl⟩, .inl ⟨_, hp, hJ⟩⟩
set_option maxRecDepth 100000 in
set_option maxHeartbeats 1000000 in
theorem back_stops (m : Nat) (hm : m ≤ 90) (F : Fence) (n : Nat) (hF : F.fn 71) (hro : F.round = none) (hn : 1 ≤ n) (Bn : Nat) (w : World) (hc : w.cell? ⟨Bn, 0, none⟩ = some (.int .i64 (m : Int))) :
    SeqStopsK F n Tryd.prog 71 #[.pointer (some ⟨Bn, 0, none⟩)] encR (fun _ _ => True) (fun ys => valsR ys = (List.range m).reverse) (fun _ => True) 90 w := by
  intro l J Jx W hW _ _ hY h0
  have hc1 : W.cell? ⟨Bn, 0, none⟩ = some (.int .i64 (m : Int)) := (hW.cell (p := ⟨Bn, 0, none⟩) (World.block_lt_of_cell? w _ hc)).trans hc
  refine callsIn_of_wp Tryd.func71 rfl hF ?_ hro
  simp only [Tryd.ntmps71, List.size_toArray, List.length_cons, List.length_nil, Nat.reduceAdd, Nat.reduceSub, Array.replicate_succ, Array.replicate_zero, List.push_toArray, List.append_toArray, List.nil_append, List.cons_append]
  gi_wp2
  gi_loopw [3] (fun i wr => ∃ (k : Nat) (pre : List (Fin 90)), k ≤ m ∧ i = .int .i64 ((k : Int) - 1) ∧ valsR pre ++ (List.range k).reverse = (List.range m).reverse ∧ J pre wr) (fun i _ => (intOf i + 1).toNat)
  case atStart => exact ⟨m, [], Nat.le_refl _, rfl, rfl, h0⟩
  case round =>
    obtain ⟨k, pre, hk, rfl, hp, hJ⟩ := hrel
    rcases Nat.eq_zero_or_pos k with hz | hpos
    · subst hz
      have HP := Lib.hid hp
      clear hp
      gi_wp2
      go_end0
      exact ⟨⟨_, rfl⟩, .inl ⟨_, by simpa using HP.out, hJ⟩⟩
    · obtain ⟨j, rfl⟩ : ∃ j, k = j + 1 := ⟨k - 1, by omega⟩
      have hk9 : j < 90 := by omega
      obtain ⟨fn, tmps, assign, body, hy, hR⟩ := hY pre ⟨j, hk9⟩ wr hJ (by have := valsR_left hp; omega)
      have HP := Lib.hid (valsR_down hp hk9)
      have ej : ((j + 1 : Nat) : Int) - 1 = (j : Int) := by omega
      rw [ej]
      clear hY hp ej
      gi_wp2
      refine hR.mono ?_
      rintro e W3 (⟨rfl, hJ3, -⟩ | ⟨rfl, hJx3⟩)
      · gi_wp2
        go_roundw
        case rel => exact ⟨j, _, by omega, by go_num, HP.out, hJ3⟩
        case measure => simp [intOf]
      · gi_wp2
        refine bodyPost_ret (results_none rfl _ _ _) rfl ?_
        exact ⟨⟨_, rfl⟩, .inr ⟨_, trivial, hJx3⟩⟩

/-- A pivot's closure: its own boxes, no block below lo, hold the pivot and how many there are. -/
def MateFn (lo : Nat) (w : World) (v : Value) (N p : Nat) : Prop := ∃ a b : Nat, v = .func (.func 84) #[] #[.pointer (some ⟨a, 0, none⟩), .pointer (some ⟨b, 0, none⟩)] ∧ lo ≤ a ∧ lo ≤ b ∧ RowAt w a 3 [.int .i64 (p : Int)] ∧ RowAt w b 3 [.int .i64 (N : Int)]
set_option maxHeartbeats 1000000 in
theorem mates_any (N seed R : Nat) (w : World) (hT : Tab w) (h1 : 1 ≤ N) (h2 : N ≤ 65536) (h4 : R < 90) :
    Calls Tryd.prog 72 #[.int .i64 N, .int .u64 seed, .int .i64 R] w fun e w' => ∃ v, e = .returned v ∧ MateFn w.heap.size w' v N (foldB [seed, R] % N) ∧ Below w.heap.size w w' := by
  obtain ⟨p, hp⟩ : ∃ p, foldB [seed, R] % N = p := ⟨_, rfl⟩
  have cD : ∀ (W : World) (v : Value), Tab W → Words W W.heap.size v [seed, R] → Calls Tryd.prog 83 #[.int .i64 N, v] W fun e w' => e = .returned (.int .i64 p) ∧ Below W.heap.size W w' := fun W v hT hv => by
    have := Draw_yes N [seed, R] v W hv (by simp) hT h1 (by omega)
    rwa [hp] at this
  rw [hp]
  clear hp
  go_enter Tryd.func72, Tryd.ntmps72
  go_wp2_with fail
  with_reducible refine (cD _ _ ?_ (words2 _ _ _ _ _ (by exact World.size_alloc _ _))).mono ?_
  · exact (hT.on ((Below.refl _ _).alloc (Nat.le_refl _) _)).on ((Below.refl _ _).alloc (Nat.le_refl _) _)
  rintro e w1 ⟨rfl, b1⟩
  have r0 := (((RowAt.new w 3 #[.int .i64 (N : Int)]).alloc (.cells #[.int .u64 (seed : Int), .int .u64 (R : Int)] 22)).on b1).alloc (.cells #[.int .i64 (p : Int)] 3)
  have r1 := RowAt.new w1 3 #[.int .i64 (p : Int)]
  have B1 := bstepH (((Below.refl w.heap.size w).alloc (Nat.le_refl _) (.cells #[.int .i64 (N : Int)] 3)).alloc (by simp) (.cells #[.int .u64 (seed : Int), .int .u64 (R : Int)] 22)) b1 (by simp; omega)
  clear b1 cD
  go_wp2_with fail
  go_ret
  exact ⟨_, rfl, ⟨_, _, rfl, B1.size, Nat.le_refl _, r1, r0⟩, B1.alloc B1.size _⟩

set_option maxHeartbeats 1000000 in
theorem matef_any (N p I f : Nat) (a b : Nat) (w : World) (hN : N ≤ 65536) (hp : p < N) (hI : I < N) (hf : mateS N p I = f) (h1 : RowAt w a 3 [.int .i64 (p : Int)]) (h2 : RowAt w b 3 [.int .i64 (N : Int)]) :
    Calls Tryd.prog 84 #[.int .i64 I, .pointer (some ⟨a, 0, none⟩), .pointer (some ⟨b, 0, none⟩)] w fun e w' => e = .returned (.int .i64 f) ∧ Below w.heap.size w w' := by
  have ev := mate_val N p I hI
  rw [hf] at ev
  have c1 := h1.one
  have c2 := h2.one
  clear hf h1 h2
  go_enter Tryd.func84, Tryd.ntmps84
  go_wp2_with fail
  go_ret
  exact ⟨rfl, Below.refl _ _⟩

set_option maxHeartbeats 1000000 in
theorem change_any (seed R I f : Nat) (x : Bool) (w : World) (hT : Tab w) (h4 : R < 90) (hI : I < 65536) (hf : f < 65536) (hx : bitOf [seed, R, max I f] = x) :
    Calls Tryd.prog 73 #[.int .u64 seed, .int .i64 R, .int .i64 I, .int .i64 f] w fun e w' => e = .returned (.bool x) ∧ Below w.heap.size w w' := by
  obtain ⟨t, ht⟩ : ∃ t, max I f = t := ⟨_, rfl⟩
  rw [ht] at hx
  have cB : ∀ (W : World) (v : Value), Tab W → Words W W.heap.size v [seed, R, t] → Calls Tryd.prog 85 #[v] W fun e w' => e = .returned (.bool x) ∧ Below W.heap.size W w' := fun W v hT hv => by
    have := Bit_any [seed, R, t] v W hv (by simp) hT
    rwa [hx] at this
  have hw : (I < f ∧ t = f) ∨ (f ≤ I ∧ t = I) := by omega
  clear hx
  rcases hw with ⟨hw, rfl⟩ | ⟨hw, rfl⟩
  all_goals clear ht
  all_goals
    go_enter Tryd.func73, Tryd.ntmps73
    go_wp2_with fail
    with_reducible refine (cB _ _ ?_ (words3 _ _ _ _ _ _ rfl)).mono ?_
    · exact hT.on ((Below.refl _ _).alloc (Nat.le_refl _) _)
    rintro e w1 ⟨rfl, b1⟩
    have B1 := bstepH ((Below.refl w.heap.size w).alloc (Nat.le_refl _) _) b1 (by simp)
    clear b1 cB
    go_wp2_with fail
    go_ret
    exact ⟨rfl, B1⟩

set_option maxHeartbeats 1000000 in
theorem become_any (N seed R I : Nat) (w : World) (hT : Tab w) (h1 : 1 ≤ N) (h2 : N ≤ 65536) (h3 : I < N) (h4 : R < 90) :
    Calls Tryd.prog 78 #[.int .i64 N, .int .u64 seed, .int .i64 R, .int .i64 I] w fun e w' => e = .returned (.int .i64 (roundS N seed R I)) ∧ Below w.heap.size w w' := by
  have cM := fun W hT => mates_any N seed R W hT h1 h2 h4
  obtain ⟨p, hp⟩ : ∃ p, foldB [seed, R] % N = p := ⟨_, rfl⟩
  have hpl : p < N := by rw [← hp]; exact Nat.mod_lt _ (by omega)
  obtain ⟨f, hf⟩ : ∃ f, mateS N p I = f := ⟨_, rfl⟩
  have hfl : f < N := by rw [← hf]; exact mateS_lt (by omega)
  obtain ⟨x, hx⟩ : ∃ x, bitOf [seed, R, max I f] = x := ⟨_, rfl⟩
  have hR := roundS_bit hp hf hx
  rw [hp] at cM
  have cF := fun a b W k1 k2 => matef_any N p I f a b W h2 hpl h3 hf k1 k2
  have cC := fun W hT => change_any seed R I f x W hT h4 (by omega) (by omega) hx
  clear hp hf hx hpl
  rw [hR]
  clear hR
  cases x
  all_goals
    go_enter Tryd.func78, Tryd.ntmps78
    go_wp2_with fail
    with_reducible refine (cM _ hT).mono ?_
    rintro e w1 ⟨v, rfl, ⟨a, b, rfl, -, -, k1, k2⟩, b1⟩
    have T1 := hT.on b1
    clear cM hT
    go_wp2_with fail
    with_reducible refine (cF _ _ _ k1 k2).mono ?_
    rintro e w2 ⟨rfl, b2⟩
    have T2 := T1.on b2
    have B2 := bstepH b1 b2 b1.size
    clear cF T1 b1 b2 k1 k2
    go_wp2_with fail
    with_reducible refine (cC _ T2).mono ?_
    rintro e w3 ⟨rfl, b3⟩
    have B3 := bstepH B2 b3 B2.size
    clear cC T2 B2 b3
    go_wp2_with fail
    go_ret
    exact ⟨rfl, B3⟩

end Go.Proofs.YtjipibpcnheniaaDoor

namespace Go.Proofs.YtjipibpcnheniaaDoor
open Go.RowKit Go.Shelf
attribute [local go_sem] Oper.semAt_some

theorem keepsOthers_below {W W' : World} (h : Below W.heap.size W W') : KeepsOthers W W' :=
  ⟨h.size, fun k o hk _ => (h.block k (by
    rcases Nat.lt_or_ge k W.heap.size with c | c
    · exact c
    · rw [Array.getElem?_eq_none c] at hk; cases hk)).trans hk⟩
set_option maxRecDepth 100000 in
set_option maxHeartbeats 2000000 in
/-- through, of whatever tells rounds. -/
theorem through_in (N M seed I : Nat) (w : World) (hT : Tab w) (h1 : 1 ≤ N) (h2 : N ≤ 65536) (h3 : I < N) (h4 : M ≤ 90) (gf : Nat) (lb : Array Value) (eg : ∀ args w, (callFunc gf args).run Tryd.prog w = .ok (.enter gf args) w)
    (ys : List Nat) (hseq : ∀ W, Below w.heap.size w W → SeqStopsK Fence.wide 5 Tryd.prog gf lb encR (fun _ _ => True) (fun l => valsR l = ys) (fun _ => True) 90 W) :
    CallsIn Fence.wide 6 Tryd.prog 61 #[.func (.func gf) #[] lb, .int .i64 N, .int .i64 M, .int .u64 seed, .int .i64 I] w fun e w' => e = .returned (.tuple #[.int .i64 (runS (roundS N seed) ys I), .int .i64 0]) ∧ Below w.heap.size w w' := by
  have cA : ∀ W, Calls Tryd.prog 50 #[.int .i64 N, .int .i64 I] W fun e w' => e = .returned (.bool true) ∧ W = w' := fun W => by
    have := fits_any (N : Int) (I : Int) W
    rwa [show fitsN N I = true by simp [fitsN]; omega] at this
  have cB : ∀ W, Calls Tryd.prog 51 #[.int .i64 M] W fun e w' => e = .returned (.bool true) ∧ W = w' := fun W => by
    have := fitsRounds_any (M : Int) W
    rwa [show fitsR M = true by simp [fitsR]; omega] at this
  have t1 : Fence.wide.fn 50 := trivial
  have t2 : Fence.wide.fn 51 := trivial
  have t3 : Fence.wide.fn 78 := trivial
  refine callsIn_of_wp_marks Tryd.func61 rfl trivial ?_ rfl
  simp only [Tryd.ntmps61, List.size_toArray, List.length_cons, List.length_nil, Nat.reduceAdd, Nat.reduceSub, Array.replicate_succ, Array.replicate_zero, List.push_toArray, List.append_toArray, List.nil_append, List.cons_append]
  gi_wp2_with (fail)
  refine (callsIn_wide.2 (cA _)).mono ?_
  rintro e w1 ⟨rfl, rfl⟩
  gi_wp2_with (fail)
  refine (callsIn_wide.2 (cB _)).mono ?_
  rintro e w1 ⟨rfl, rfl⟩
  gi_wp2_with (fail)
  obtain ⟨W4, hW4⟩ : ∃ W4, W4 = ((w.alloc (.cells #[.int .i64 (N : Int)] 3)).alloc (.cells #[.int .u64 (seed : Int)] 22)).alloc (.cells #[.int .i64 (I : Int)] 3) := ⟨_, rfl⟩
  have r0 : RowAt W4 w.heap.size 3 [.int .i64 (N : Int)] := by rw [hW4]; exact ((RowAt.new w 3 #[.int .i64 (N : Int)]).alloc _).alloc _
  have r1 : RowAt W4 (w.heap.size + 1) 22 [.int .u64 (seed : Int)] := by
    have := (RowAt.new (w.alloc (.cells #[.int .i64 (N : Int)] 3)) 22 #[.int .u64 (seed : Int)]).alloc (.cells #[.int .i64 (I : Int)] 3)
    rw [World.size_alloc] at this
    rw [hW4]; exact this
  have r2 : RowAt W4 (w.heap.size + 1 + 1) 3 [.int .i64 (I : Int)] := by
    have := RowAt.new ((w.alloc (.cells #[.int .i64 (N : Int)] 3)).alloc (.cells #[.int .u64 (seed : Int)] 22)) 3 #[.int .i64 (I : Int)]
    rw [World.size_alloc, World.size_alloc] at this
    rw [hW4]; exact this
  have hs4 : W4.heap.size = w.heap.size + 3 := by rw [hW4]; simp only [World.size_alloc]
  have hB4 : Below w.heap.size w W4 := by
    rw [hW4]
    exact (((Below.refl _ w).alloc (Nat.le_refl _) _).alloc (by simp) _).alloc (by simp; omega) _
  rw [← hW4]
  clear hW4 cA cB
  have hsq := hseq W4 hB4
  clear hseq t1 t2
  refine wpIn_rangeFunc_ownG rfl (by omega) (gf := gf) (lb := lb) rfl trivial eg hsq (fun _ _ => trivial) (fun _ _ _ _ _ _ _ _ => trivial) (Below.refl _ _) (fun _ => rfl)
    (fun pre W => (RowAt W w.heap.size 3 [.int .i64 (N : Int)] ∧ RowAt W (w.heap.size + 1) 22 [.int .u64 (seed : Int)] ∧ RowAt W (w.heap.size + 1 + 1) 3 [.int .i64 (runS (roundS N seed) (valsR pre) I : Int)]) ∧ Below w.heap.size w W)
    (fun _ _ _ => False)
    (by
      rintro pre X Y row ⟨⟨b0, b1, b2⟩, h5⟩ hg hr
      have hr' := fun r e => (hr r e).2
      exact ⟨⟨b0.stays hg hr', b1.stays hg hr', b2.stays hg hr'⟩, h5.grown hg h5.size (fun k e => by have := (hr k e).1; omega)⟩)
    (fun _ _ _ _ _ hs _ _ => hs)
    ⟨⟨r0, r1, r2⟩, hB4⟩
    (fun x => { tmps := #[.func (.func gf) #[] lb, .int .i64 N, .int .i64 M, .int .u64 seed, .int .i64 I, undef, .pointer (some ⟨w.heap.size, 0, none⟩), undef, .pointer (some ⟨w.heap.size + 1, 0, none⟩), .pointer (some ⟨w.heap.size + 1 + 1, 0, none⟩), .int .i64 0, .int .i64 0, .int .i64 (x.val : Int), .int .i64 N, .int .i64 I, .bool true, .bool false, .bool false, .int .i64 M, .bool true, .bool false, .bool false, .func (.func gf) #[] lb, .int .i64 (x.val : Int), undef, undef, undef, undef, undef, undef], defers := [] }) ?assign ?body ?done ?stop
  case assign =>
    intro l x W K hK
    gi_wp2
    exact hK
  case body =>
    rintro l pre x W ⟨⟨b0, b1, b2⟩, hB⟩ hlt
    have c0 := b0.one
    have c1 := b1.one
    have c2 := b2.one
    have f2 := b2.frozen 0
    have hX : runS (roundS N seed) (valsR pre) I < N := runS_lt stS_lt _ h3
    have HX := Lib.hid (show runS (roundS N seed) (valsR (pre ++ [x])) I = roundS N seed x.val (runS (roundS N seed) (valsR pre) I) by rw [← runS_snoc (st := roundS N seed)]; simp [valsR])
    have cC := become_any N seed x.val (runS (roundS N seed) (valsR pre) I) W (hT.below hB hT.lt) h1 h2 hX x.isLt
    generalize runS (roundS N seed) (valsR pre) I = X at *
    gi_wp2_with (fail)
    refine ((callsIn_wide.2 cC).inRound l).mono ?_
    rintro e w3 ⟨rfl, hb3⟩
    have d0 := b0.on hb3
    have d1 := b1.on hb3
    have d2 := b2.on hb3
    have e2 := d2.frozen 0
    have g2 := d2.one
    have hB3 := bstepH hB hb3 hB.size
    clear c0 c1 c2 f2 b0 b1 b2 cC
    gi_wp2_with (fail)
    refine ⟨((keepsOthers_below hb3).trans (KeepsOthers.setCell _ _ _)).from _, trivial, ⟨?_, ?_, ?_⟩, hB3.setCell (p := ⟨w.heap.size + 1 + 1, 0, none⟩) (by simp; omega) _⟩
    · exact d0.far (p := ⟨w.heap.size + 1 + 1, 0, none⟩) (by simp; omega) _
    · exact d1.far (p := ⟨w.heap.size + 1 + 1, 0, none⟩) (by simp) _
    · rw [HX.out]; exact d2.set 0 _
  case done =>
    rintro D zs W hD hS ⟨⟨b0, b1, b2⟩, hB⟩ hK
    have c2 := b2.one
    rw [hS] at c2
    gi_wp2
    refine ⟨by simp, .inl ⟨_, _, rfl, run_takeDeferred hK, ?_⟩⟩
    refine ⟨.tuple #[.int .i64 (runS (roundS N seed) ys I), .int .i64 0], by simp [results, Tryd.results61, go_sem], rfl, ?_⟩
    exact hB.trans (belowK_b (w := w) (Nat.le_refl _) W D _ _ (by omega) hK rfl rfl)
  case stop =>
    rintro D c pre W _ _ h _
    exact h.elim

theorem through_no (told : Value) (n m s i : Int) (w : World) (h : mayB n m i = false) :
    Calls Tryd.prog 61 #[told, .int .i64 n, .int .i64 m, .int .u64 s, .int .i64 i] w fun e w' => e = .returned (.tuple #[.int .i64 0, .int .i64 1]) ∧ Below w.heap.size w w' := by
  rw [mayB_eq] at h
  have cA := fun W => fits_any n i W
  have cB := fun W => fitsRounds_any m W
  have hB : Below w.heap.size w (((w.alloc (.cells #[.int .i64 n] 3)).alloc (.cells #[.int .u64 s] 22)).alloc (.cells #[.int .i64 i] 3)) := (((Below.refl _ w).alloc (Nat.le_refl _) _).alloc (by simp) _).alloc (by simp; omega) _
  obtain ⟨b, hb⟩ : ∃ b, fitsN n i = b := ⟨_, rfl⟩
  rw [hb] at h cA
  cases b
  · go_enter Tryd.func61, Tryd.ntmps61
    go_wp2_with (first | (with_reducible refine (cA _).mono ?_; rintro e w1 ⟨rfl, rfl⟩))
    go_ret2
    exact ⟨rfl, hB⟩
  · have h : fitsR m = false := by simpa using h
    rw [h] at cB
    go_enter Tryd.func61, Tryd.ntmps61
    go_wp2_with (first | (with_reducible refine (cA _).mono ?_; rintro e w1 ⟨rfl, rfl⟩) | (with_reducible refine (cB _).mono ?_; rintro e w1 ⟨rfl, rfl⟩))
    go_ret2
    exact ⟨rfl, hB⟩

theorem Place_no (n m s i : Int) (w : World) (h : mayB n m i = false) :
    Calls Tryd.prog 56 #[.int .i64 n, .int .i64 m, .int .u64 s, .int .i64 i] w fun e w' => e = .returned (.tuple #[.int .i64 0, .int .i64 1]) ∧ Below w.heap.size w w' := by
  have c0 := fun W => forth_any m W
  have c1 := fun told W => through_no told n m s i W h
  go_enter Tryd.func56, Tryd.ntmps56
  go_wp2_with fail
  with_reducible refine (c0 _).mono ?_
  rintro e w1 ⟨rfl, rfl⟩
  have B1 : Below w.heap.size w (w.alloc (.cells #[.int .i64 m] 3)) := (Below.refl _ _).alloc (Nat.le_refl _) _
  go_wp2_with fail
  with_reducible refine (c1 _ _).mono ?_
  rintro e w1 ⟨rfl, b1⟩
  go_wp2_with fail
  go_ret2
  exact ⟨rfl, bstepH B1 b1 B1.size⟩
set_option maxHeartbeats 1000000 in
theorem Place_yes (N M seed I : Nat) (w : World) (hT : Tab w) (h1 : 1 ≤ N) (h2 : N ≤ 65536) (h3 : I < N) (h4 : M ≤ 90) :
    Calls Tryd.prog 56 #[.int .i64 N, .int .i64 M, .int .u64 seed, .int .i64 I] w fun e w' => e = .returned (.tuple #[.int .i64 (placeS (roundS N seed) M I), .int .i64 0]) ∧ Below w.heap.size w w' := by
  have c0 := fun W => forth_any (M : Int) W
  have B1 : Below w.heap.size w (w.alloc (.cells #[.int .i64 (M : Int)] 3)) := (Below.refl _ _).alloc (Nat.le_refl _) _
  have hc := (RowAt.new w 3 #[.int .i64 (M : Int)]).one
  have c1 := callsIn_wide.1 (through_in N M seed I (w.alloc (.cells #[.int .i64 (M : Int)] 3)) (hT.on B1) h1 h2 h3 h4 86 #[.pointer (some ⟨w.heap.size, 0, none⟩)] (enters_of Tryd.func86 (by kernel_rfl) rfl) (List.range M)
    (fun W hb => forth_stops M h4 Fence.wide 5 trivial rfl (by omega) w.heap.size W ((hb.cell (p := ⟨w.heap.size, 0, none⟩) (by simp)).trans hc)))
  go_enter Tryd.func56, Tryd.ntmps56
  go_wp2_with fail
  with_reducible refine (c0 _).mono ?_
  rintro e w1 ⟨rfl, rfl⟩
  go_wp2_with fail
  with_reducible refine c1.mono ?_
  rintro e w1 ⟨rfl, b1⟩
  go_wp2_with fail
  go_ret2
  exact ⟨rfl, bstepH B1 b1 B1.size⟩

theorem Back_no (n m s i : Int) (w : World) (h : mayB n m i = false) :
    Calls Tryd.prog 38 #[.int .i64 n, .int .i64 m, .int .u64 s, .int .i64 i] w fun e w' => e = .returned (.tuple #[.int .i64 0, .int .i64 1]) ∧ Below w.heap.size w w' := by
  have c0 := fun W => backs_any m W
  have c1 := fun told W => through_no told n m s i W h
  go_enter Tryd.func38, Tryd.ntmps38
  go_wp2_with fail
  with_reducible refine (c0 _).mono ?_
  rintro e w1 ⟨rfl, rfl⟩
  have B1 : Below w.heap.size w (w.alloc (.cells #[.int .i64 m] 3)) := (Below.refl _ _).alloc (Nat.le_refl _) _
  go_wp2_with fail
  with_reducible refine (c1 _ _).mono ?_
  rintro e w1 ⟨rfl, b1⟩
  go_wp2_with fail
  go_ret2
  exact ⟨rfl, bstepH B1 b1 B1.size⟩
set_option maxHeartbeats 1000000 in
theorem Back_yes (N M seed I : Nat) (w : World) (hT : Tab w) (h1 : 1 ≤ N) (h2 : N ≤ 65536) (h3 : I < N) (h4 : M ≤ 90) :
    Calls Tryd.prog 38 #[.int .i64 N, .int .i64 M, .int .u64 seed, .int .i64 I] w fun e w' => e = .returned (.tuple #[.int .i64 (backS (roundS N seed) M I), .int .i64 0]) ∧ Below w.heap.size w w' := by
  have c0 := fun W => backs_any (M : Int) W
  have B1 : Below w.heap.size w (w.alloc (.cells #[.int .i64 (M : Int)] 3)) := (Below.refl _ _).alloc (Nat.le_refl _) _
  have hc := (RowAt.new w 3 #[.int .i64 (M : Int)]).one
  have c1 := callsIn_wide.1 (through_in N M seed I (w.alloc (.cells #[.int .i64 (M : Int)] 3)) (hT.on B1) h1 h2 h3 h4 71 #[.pointer (some ⟨w.heap.size, 0, none⟩)] (enters_of Tryd.func71 (by kernel_rfl) rfl) ((List.range M).reverse)
    (fun W hb => back_stops M h4 Fence.wide 5 trivial rfl (by omega) w.heap.size W ((hb.cell (p := ⟨w.heap.size, 0, none⟩) (by simp)).trans hc)))
  go_enter Tryd.func38, Tryd.ntmps38
  go_wp2_with fail
  with_reducible refine (c0 _).mono ?_
  rintro e w1 ⟨rfl, rfl⟩
  go_wp2_with fail
  with_reducible refine c1.mono ?_
  rintro e w1 ⟨rfl, b1⟩
  go_wp2_with fail
  go_ret2
  exact ⟨rfl, bstepH B1 b1 B1.size⟩
end Go.Proofs.YtjipibpcnheniaaDoor

namespace Go.Proofs.YtjipibpcnheniaaDoor
open Go.RowKit Go.Shelf

abbrev intsV (l : List Nat) : List Value := l.map fun n : Nat => Value.int .i64 (n : Int)
theorem intsV_get {l : List Nat} {j x : Nat} (h : l[j]? = some x) : (intsV l)[j]? = some (.int .i64 (x : Int)) := by simp [intsV, h]
theorem intsV_set (l : List Nat) (j x : Nat) : (intsV l).set j (.int .i64 (x : Int)) = intsV (l.set j x) := by simp [intsV, List.map_set]
abbrev swapS (N seed R : Nat) (l : List Nat) (k : Nat) : List Nat := swapTo N (foldB [seed, R] % N) (fun t => bitOf [seed, R, t]) l k

set_option maxRecDepth 100000 in
set_option maxHeartbeats 2000000 in
theorem swap_any (N seed R g : Nat) (l : List Nat) (w : World) (hT : Tab w) (hg : 1 < g) (h1 : 1 ≤ N) (h2 : N ≤ 65536) (h4 : R < 90) (hl : l.length = N) (hrow : RowAt w g 3 (intsV l)) :
    Calls Tryd.prog 53 #[.slice (some ⟨g, 0, none⟩) N N, .int .u64 seed, .int .i64 R] w fun e w' => e = .returned (.tuple #[]) ∧ RowAt w' g 3 (intsV (swapS N seed R l N)) ∧ But g w w' := by
  have cM := fun W hT => mates_any N seed R W hT h1 h2 h4
  obtain ⟨p, hp⟩ : ∃ p, foldB [seed, R] % N = p := ⟨_, rfl⟩
  have hpl : p < N := by rw [← hp]; exact Nat.mod_lt _ (by omega)
  rw [hp] at cM
  unfold swapS
  rw [hp]
  obtain ⟨bit, hbit⟩ : ∃ bit : Nat → Bool, bit = fun t => bitOf [seed, R, t] := ⟨_, rfl⟩
  rw [← hbit]
  have cC : ∀ (I f : Nat) (W : World), Tab W → I < 65536 → f < 65536 → Calls Tryd.prog 73 #[.int .u64 seed, .int .i64 R, .int .i64 I, .int .i64 f] W fun e w' => e = .returned (.bool (bit (max I f))) ∧ Below W.heap.size W w' := fun I f W hT hI hf => by
    rw [hbit]; exact change_any seed R I f _ W hT h4 hI hf rfl
  clear hp hbit
  go_enter Tryd.func53, Tryd.ntmps53
  go_wp2_with fail
  with_reducible refine (cM _ hT).mono ?_
  rintro e w1 ⟨v, rfl, ⟨a, b, rfl, la, lb, k1, k2⟩, b1⟩
  clear cM
  have hr1 := hrow.on b1
  have hB1 := But.of_below (g := g) b1
  go_wp2_with fail
  have hgl := hrow.lt
  go_loopw [16] (fun i wr => ∃ k : Nat, k ≤ N ∧ i = .int .i64 k ∧ RowAt wr g 3 (intsV (swapTo N p bit l k)) ∧ But g w1 wr) (fun i _ => N - (intOf i).toNat)
  case atStart => exact ⟨0, Nat.zero_le _, rfl, by rw [swapTo_zero hl]; exact hr1, But.refl _ _⟩
  case round =>
    obtain ⟨k, hk, rfl, hr, hb⟩ := hrel
    by_cases hlt : k < N
    · have m1 : RowAt wr a 3 [.int .i64 (p : Int)] := hb.rowAt k1 (by omega)
      have m2 : RowAt wr b 3 [.int .i64 (N : Int)] := hb.rowAt k2 (by omega)
      have hTr : Tab wr := by
        have hc : ∀ i, wr.cell? ⟨1, i, none⟩ = w.cell? ⟨1, i, none⟩ := fun i => (hb.cell (p := ⟨1, i, none⟩) (Nat.lt_of_lt_of_le hT.lt b1.size) (by simp; omega)).trans (b1.cell (p := ⟨1, i, none⟩) hT.lt)
        exact ⟨(hc 0).trans hT.1, (hc 1).trans hT.2.1, (hc 2).trans hT.2.2⟩
      obtain ⟨f, hf⟩ : ∃ f, mateS N p k = f := ⟨_, rfl⟩
      have hfl : f < N := by rw [← hf]; exact mateS_lt (by omega)
      have cF := fun W k1 k2 => matef_any N p k f a b W h2 hpl hlt hf k1 k2
      by_cases hkf : k < f
      · obtain ⟨x, hx⟩ : ∃ x, bit (max k f) = x := ⟨_, rfl⟩
        have cX := fun W hT => cC k f W hT (by omega) (by omega)
        rw [hx] at cX
        cases x
        · have HS := Lib.hid (swapTo_skip (l := l) (bit := bit) hpl k hlt (.inr (by rw [hf]; exact hx)))
          have hd : ((k : Int) < (f : Int)) = True := eq_true (by omega)
          clear hf cC
          go_wp2_with fail
          with_reducible refine (cF _ m1 m2).mono ?_
          rintro e w2 ⟨rfl, hb2⟩
          have hr2 := hr.on hb2
          have hT2 := hTr.on hb2
          have hw2 := hb.trans (But.of_below hb2)
          clear cF m1 m2 hb hb2 hr hTr
          go_wp2_with fail
          with_reducible refine (cX _ hT2).mono ?_
          rintro e w3 ⟨rfl, hb3⟩
          have hr3 := hr2.on hb3
          have hw3 := hw2.trans (But.of_below hb3)
          clear cX hr2 hT2 hw2 hb3
          go_wp2_with fail
          go_roundw
          case rel => exact ⟨k + 1, by omega, by go_num, by rw [HS.out]; exact hr3, hw3⟩
          case measure => simp [intOf]; omega
        · have HS := swapTo_swap (l := l) (bit := bit) hpl k hlt (by rw [hf]; exact hkf) (by rw [hf]; exact hx)
          rw [hf] at HS
          obtain ⟨g1, g2, g3⟩ := HS
          have hd : ((k : Int) < (f : Int)) = True := eq_true (by omega)
          clear hf cC
          go_wp2_with fail
          with_reducible refine (cF _ m1 m2).mono ?_
          rintro e w2 ⟨rfl, hb2⟩
          have hr2 := hr.on hb2
          have hT2 := hTr.on hb2
          have hw2 := hb.trans (But.of_below hb2)
          clear cF m1 m2 hb hb2 hr hTr
          go_wp2_with fail
          with_reducible refine (cX _ hT2).mono ?_
          rintro e w3 ⟨rfl, hb3⟩
          have hr3 := hr2.on hb3
          have hw3 := hw2.trans (But.of_below hb3)
          clear cX hr2 hT2 hw2 hb3
          have q1 : w3.cell? ⟨g, k, none⟩ = some (.int .i64 (l.getD k 0 : Nat)) := by rw [hr3.cell]; exact intsV_get g1
          have q2 : w3.cell? ⟨g, f, none⟩ = some (.int .i64 (l.getD f 0 : Nat)) := by rw [hr3.cell]; exact intsV_get g2
          have z1 := hr3.frozen k
          have z2 := hr3.frozen f
          have R1 := (hr3.set k (.int .i64 (l.getD f 0 : Nat))).set f (.int .i64 (l.getD k 0 : Nat))
          rw [intsV_set, intsV_set, ← g3] at R1
          have R2 := (hw3.setCell k (.int .i64 (l.getD f 0 : Nat))).setCell f (.int .i64 (l.getD k 0 : Nat))
          have hne : ¬ (f = k) := by omega
          have hne2 : ¬ (k = f) := by omega
          clear g1 g2 g3 hr3 hw3
          generalize l.getD k 0 = X at *
          generalize l.getD f 0 = Y at *
          go_wp2_with fail
          go_region
          all_goals go_wp2_with fail
          all_goals go_roundw
          case rel => exact ⟨k + 1, by omega, by go_num, R1, R2.drew⟩
          case measure => simp [intOf]; omega
      · have HS := Lib.hid (swapTo_skip (l := l) (bit := bit) hpl k hlt (.inl (by rw [hf]; omega)))
        have hd : ((k : Int) < (f : Int)) = False := eq_false (by omega)
        clear hf cC
        go_wp2_with fail
        with_reducible refine (cF _ m1 m2).mono ?_
        rintro e w2 ⟨rfl, hb2⟩
        have hr2 := hr.on hb2
        have hw2 := hb.trans (But.of_below hb2)
        clear cF m1 m2 hb hb2 hr
        go_wp2_with fail
        go_roundw
        case rel => exact ⟨k + 1, by omega, by go_num, by rw [HS.out]; exact hr2, hw2⟩
        case measure => simp [intOf]; omega
    · obtain rfl : k = N := by omega
      go_wp2_with fail
      go_end0
      exact ⟨rfl, hr, hB1.trans hb⟩
end Go.Proofs.YtjipibpcnheniaaDoor

namespace Go.Proofs.YtjipibpcnheniaaDoor
open Go.RowKit Go.Shelf
attribute [local go_sem] Oper.semAt_some

/-- Where each number comes to by these rounds. -/
abbrev runL (st : Nat → Nat → Nat) (N : Nat) (q : List Nat) : List Nat := (List.range N).map (runS st q)
theorem runL_nil (st : Nat → Nat → Nat) (N : Nat) : runL st N [] = List.range N := by
  unfold runL
  conv => rhs; rw [← List.map_id (List.range N)]
  rfl
theorem swap_run (N seed R : Nat) (q : List Nat) : swapS N seed R (runL (roundS N seed) N q) N = runL (roundS N seed) N (R :: q) := by
  unfold swapS
  rw [swapTo_all]
  apply List.map_congr_left
  intro j hj
  have hj := List.mem_range.1 hj
  have hlt : roundS N seed R j < N := roundS_lt hj
  show (runL (roundS N seed) N q).getD (roundS N seed R j) 0 = _
  rw [runS_cons, List.getD_eq_getElem?_getD]
  simp [runL, List.getElem?_map, List.getElem?_range hlt]
theorem runL_length (st : Nat → Nat → Nat) (N : Nat) (q : List Nat) : (runL st N q).length = N := by simp [runL]

def fillL (N k : Nat) : List Nat := (List.range N).map fun j => if j < k then j else 0
theorem fillL_zero (N : Nat) : fillL N 0 = List.replicate N 0 := by
  apply List.ext_getElem
  · simp [fillL]
  · intro j h1 h2; simp [fillL]
theorem fillL_all (N : Nat) : fillL N N = List.range N := by
  unfold fillL
  conv => rhs; rw [← List.map_id (List.range N)]
  apply List.map_congr_left
  intro j hj
  rw [if_pos (List.mem_range.1 hj)]; rfl
theorem fillL_get (N k : Nat) (h : k < N) : (fillL N k)[k]? = some 0 := by simp [fillL, List.getElem?_range h]
theorem fillL_set (N k : Nat) : (fillL N k).set k k = fillL N (k + 1) := by
  apply List.ext_getElem
  · simp [fillL]
  · intro j h1 h2
    rw [List.getElem_set]
    by_cases e : k = j
    · subst e; simp [fillL]
    · simp [fillL, e]; split <;> split <;> omega
theorem intsV_zero (N : Nat) : intsV (List.replicate N 0) = List.replicate N (.int .i64 0) := by simp [intsV]

theorem keepsOthers_but {W W' : World} {g : Nat} {t : TypeId} {l : List Value} (hr : RowAt W g t l) (h : But g W W') : KeepsOthers W W' :=
  ⟨h.size, fun k o hk ho => (h.block k (by
    rcases Nat.lt_or_ge k W.heap.size with c | c
    · exact c
    · rw [Array.getElem?_eq_none c] at hk; cases hk) (by
    rintro rfl
    have := (show W.heap[k]? = _ from hr).symm.trans hk
    cases this; cases ho)).trans hk⟩
theorem All_no (n m s : Int) (w : World) (h : mayB n m 0 = false) :
    Calls Tryd.prog 24 #[.int .i64 n, .int .i64 m, .int .u64 s] w fun e w' => e = .returned (.tuple #[.slice none 0 0, .int .i64 1]) ∧ Below w.heap.size w w' := by
  rw [mayB_eq] at h
  have cA := fun W => fits_any n 0 W
  have cB := fun W => fitsRounds_any m W
  have hB : Below w.heap.size w (w.alloc (.cells #[.int .u64 s] 22)) := (Below.refl _ w).alloc (Nat.le_refl _) _
  obtain ⟨b, hb⟩ : ∃ b, fitsN n 0 = b := ⟨_, rfl⟩
  rw [hb] at h cA
  cases b
  · go_enter Tryd.func24, Tryd.ntmps24
    go_wp2_with (first | (with_reducible refine (cA _).mono ?_; rintro e w1 ⟨rfl, rfl⟩))
    go_ret2
    exact ⟨rfl, hB⟩
  · have h : fitsR m = false := by simpa using h
    rw [h] at cB
    go_enter Tryd.func24, Tryd.ntmps24
    go_wp2_with (first | (with_reducible refine (cA _).mono ?_; rintro e w1 ⟨rfl, rfl⟩) | (with_reducible refine (cB _).mono ?_; rintro e w1 ⟨rfl, rfl⟩))
    go_ret2
    exact ⟨rfl, hB⟩

set_option maxRecDepth 100000 in
set_option maxHeartbeats 2000000 in
theorem All_in (N M seed : Nat) (w : World) (hT : Tab w) (h1 : 1 ≤ N) (h2 : N ≤ 65536) (h4 : M ≤ 90) :
    CallsIn Fence.wide 6 Tryd.prog 24 #[.int .i64 N, .int .i64 M, .int .u64 seed] w fun e w' => ∃ g, e = .returned (.tuple #[.slice (some ⟨g, 0, none⟩) N N, .int .i64 0]) ∧ w.heap.size ≤ g ∧ RowAt w' g 3 (intsV (runL (roundS N seed) N (List.range M))) ∧ Below w.heap.size w w' := by
  obtain ⟨i0, hi, hz0, hz1, hz2⟩ := info_parts info_int
  obtain ⟨Z, hZ⟩ : ∃ Z, Z = madeCells (Value.int .i64 0).cells (N * i0.size) := ⟨_, rfl⟩
  have hZs : Z.toList = List.replicate N (.int .i64 0) := by rw [hZ, hz1, Nat.mul_one]; exact toList_madeCells_one _ _
  have hmk : ∀ W : World, (Instr.makeSlice 29 (.int .i64 (N : Int)) (.int .i64 (N : Int))).run Tryd.prog W = .ok (.slice (some ⟨W.heap.size, 0, none⟩) N N) (W.alloc (.cells Z 3)) := fun W => by
    have hr := run_make (P := Tryd.prog) W 29 3 i0 (.int .i64 0) Tryd.underlying29 hi hz0 .i64 .i64 (N : Int) (N : Int) (by omega) (by omega) (by rw [hz2]; omega) (by omega)
    rw [hZ]
    simpa using hr
  clear hZ hi hz0 hz1 hz2
  have cA : ∀ W, Calls Tryd.prog 50 #[.int .i64 N, .int .i64 0] W fun e w' => e = .returned (.bool true) ∧ W = w' := fun W => by
    have := fits_any (N : Int) 0 W
    rwa [show fitsN N 0 = true by simp [fitsN]; omega] at this
  have cB : ∀ W, Calls Tryd.prog 51 #[.int .i64 M] W fun e w' => e = .returned (.bool true) ∧ W = w' := fun W => by
    have := fitsRounds_any (M : Int) W
    rwa [show fitsR M = true by simp [fitsR]; omega] at this
  have t1 : Fence.wide.fn 50 := trivial
  have t2 : Fence.wide.fn 51 := trivial
  have t3 : Fence.wide.fn 52 := trivial
  have t4 : Fence.wide.fn 53 := trivial
  refine callsIn_of_wp_marks Tryd.func24 rfl trivial ?_ rfl
  simp only [Tryd.ntmps24, List.size_toArray, List.length_cons, List.length_nil, Nat.reduceAdd, Nat.reduceSub, Array.replicate_succ, Array.replicate_zero, List.push_toArray, List.append_toArray, List.nil_append, List.cons_append]
  gi_wp2_with (fail)
  refine (callsIn_wide.2 (cA _)).mono ?_
  rintro e w1 ⟨rfl, rfl⟩
  gi_wp2_with (fail)
  refine (callsIn_wide.2 (cB _)).mono ?_
  rintro e w1 ⟨rfl, rfl⟩
  gi_wp2_with (fail)
  clear cA cB hmk
  obtain ⟨W4, hW4⟩ : ∃ W4, W4 = ((w.alloc (.cells #[.int .u64 (seed : Int)] 22)).alloc (.cells Z 3)).alloc (.cells #[.slice (some ⟨w.heap.size + 1, 0, none⟩) N N] 29) := ⟨_, rfl⟩
  have r0 : RowAt W4 w.heap.size 22 [.int .u64 (seed : Int)] := by rw [hW4]; exact ((RowAt.new w 22 #[.int .u64 (seed : Int)]).alloc _).alloc _
  have r1 : RowAt W4 (w.heap.size + 1) 3 (intsV (fillL N 0)) := by
    have := (RowAt.new (w.alloc (.cells #[.int .u64 (seed : Int)] 22)) 3 Z).alloc (.cells #[.slice (some ⟨w.heap.size + 1, 0, none⟩) N N] 29)
    rw [World.size_alloc, hZs, ← intsV_zero, ← fillL_zero] at this
    rw [hW4]; exact this
  have r2 : RowAt W4 (w.heap.size + 1 + 1) 29 [.slice (some ⟨w.heap.size + 1, 0, none⟩) N N] := by
    have := RowAt.new ((w.alloc (.cells #[.int .u64 (seed : Int)] 22)).alloc (.cells Z 3)) 29 #[.slice (some ⟨w.heap.size + 1, 0, none⟩) N N]
    rw [World.size_alloc, World.size_alloc] at this
    rw [hW4]; exact this
  have hs4 : W4.heap.size = w.heap.size + 3 := by rw [hW4]; simp only [World.size_alloc]
  have hB4 : Below w.heap.size w W4 := by
    rw [hW4]
    exact (((Below.refl _ w).alloc (Nat.le_refl _) _).alloc (by simp) _).alloc (by simp; omega) _
  rw [← hW4]
  clear hW4 hZs
  gi_loopw [23] (fun i wr => ∃ k : Nat, k ≤ N ∧ i = .int .i64 k ∧ (RowAt wr w.heap.size 22 [.int .u64 (seed : Int)] ∧ RowAt wr (w.heap.size + 1) 3 (intsV (fillL N k)) ∧ RowAt wr (w.heap.size + 1 + 1) 29 [.slice (some ⟨w.heap.size + 1, 0, none⟩) N N]) ∧ Below w.heap.size w wr) (fun i _ => N - (intOf i).toNat)
  case atStart => exact ⟨0, Nat.zero_le _, rfl, ⟨r0, r1, r2⟩, hB4⟩
  case round =>
    obtain ⟨k, hk, rfl, ⟨b0, b1, b2⟩, hb⟩ := hrel
    clear r0 r1 r2 hB4 hs4
    by_cases hlt : k < N
    · have q2 := b2.one
      have q1 : wr.cell? ⟨w.heap.size + 1, k, none⟩ = some (.int .i64 0) := by rw [b1.cell]; exact intsV_get (fillL_get N k hlt)
      have z1 := b1.frozen k
      have R1 := b1.set k (.int .i64 (k : Int))
      rw [intsV_set, fillL_set] at R1
      have R0 := b0.far (p := ⟨w.heap.size + 1, k, none⟩) (by simp) (.int .i64 (k : Int))
      have R2 := b2.far (p := ⟨w.heap.size + 1, k, none⟩) (by simp) (.int .i64 (k : Int))
      have RB := hb.setCell (p := ⟨w.heap.size + 1, k, none⟩) (by simp) (.int .i64 (k : Int))
      clear b0 b1 b2 hb
      gi_wp2_with (fail)
      go_roundw
      case rel => exact ⟨k + 1, by omega, by go_num, ⟨R0, R1, R2⟩, RB⟩
      case measure => simp [intOf]; omega
    · obtain rfl : k = N := by omega
      have q2 := b2.one
      rw [fillL_all, ← runL_nil (roundS k seed)] at b1
      gi_wp2_with (fail)
      refine (callsIn_wide.2 (backs_any _ _)).mono ?_
      rintro e w1 ⟨rfl, hw1⟩
      have hc5 : w1.cell? ⟨wr.heap.size, 0, none⟩ = some (.int .i64 (M : Int)) := by rw [hw1]; exact cell_new1 _ _ _
      have d0 : RowAt w1 w.heap.size 22 [.int .u64 (seed : Int)] := by rw [hw1]; exact b0.alloc _
      have d1 : RowAt w1 (w.heap.size + 1) 3 (intsV (runL (roundS k seed) k [])) := by rw [hw1]; exact b1.alloc _
      have d2 : RowAt w1 (w.heap.size + 1 + 1) 29 [.slice (some ⟨w.heap.size + 1, 0, none⟩) k k] := by rw [hw1]; exact b2.alloc _
      have hB5 : Below w.heap.size w w1 := by rw [hw1]; exact hb.alloc hb.size _
      have hs5 : w.heap.size + 3 ≤ w1.heap.size := by rw [hw1, World.size_alloc]; have := b2.lt; omega
      clear b0 b1 b2 q2 hb hw1
      gi_wp2_with (fail)
      clear t1 t2 t3
      have hst : ∀ W0, W0 = w1 → SeqStopsK Fence.wide (6 - 1) Tryd.prog 71 #[.pointer (some ⟨wr.heap.size, 0, none⟩)] encR (fun _ _ => True) (fun ys => valsR ys = (List.range M).reverse) (fun _ => True) 90 W0 := fun W0 h0 => by
        subst h0; exact back_stops M h4 Fence.wide 5 trivial rfl (by omega) wr.heap.size _ hc5
      refine wpIn_rangeFunc_ownG rfl (by omega) (gf := 71) (lb := #[.pointer (some ⟨wr.heap.size, 0, none⟩)]) rfl trivial (enters_of Tryd.func71 (by kernel_rfl) rfl) (hst w1 rfl) (fun _ _ => trivial) (fun _ _ _ _ _ _ _ _ => trivial) (Below.refl _ _) (fun _ => rfl)
        (fun pre W => (RowAt W w.heap.size 22 [.int .u64 (seed : Int)] ∧ RowAt W (w.heap.size + 1) 3 (intsV (runL (roundS k seed) k (valsR pre).reverse)) ∧ RowAt W (w.heap.size + 1 + 1) 29 [.slice (some ⟨w.heap.size + 1, 0, none⟩) k k]) ∧ Below w.heap.size w W)
        (fun _ _ _ => False)
        (by
          rintro pre X Y row ⟨⟨b0, b1, b2⟩, h5⟩ hg hr
          have hr' := fun r e => (hr r e).2
          exact ⟨⟨b0.stays hg hr', b1.stays hg hr', b2.stays hg hr'⟩, h5.grown hg h5.size (fun k e => by have := (hr k e).1; omega)⟩)
        (fun _ _ _ _ _ hs _ _ => hs)
        ⟨⟨d0, d1, d2⟩, hB5⟩
        (fun x => { tmps := #[.int .i64 k, .int .i64 M, .int .u64 seed, undef, undef, .pointer (some ⟨w.heap.size, 0, none⟩), .slice none 0 0, .int .i64 0, .pointer (some ⟨w.heap.size + 1 + 1, 0, none⟩), u9, .int .i64 (x.val : Int), .int .i64 k, .bool true, .bool false, .bool false, .int .i64 M, .bool true, .bool false, .bool false, .int .i64 k, .slice (some ⟨w.heap.size + 1, 0, none⟩) k k, .slice (some ⟨w.heap.size + 1, 0, none⟩) k k, .int .i64 k, .int .i64 k, .bool false, u25, u26, u27, u28, u29, u30, .int .i64 M, .func (.func 71) #[] #[.pointer (some ⟨wr.heap.size, 0, none⟩)], .int .i64 (x.val : Int), undef, undef, undef, undef, undef], defers := [] }) ?assign ?body ?done ?stop
      case assign =>
        intro l x W K hK
        gi_wp2
        exact hK
      case body =>
        rintro l pre x W ⟨⟨b0, b1, b2⟩, hB⟩ hlt
        have c0 := b0.one
        have c2 := b2.one
        have HX := Lib.hid (show swapS k seed x.val (runL (roundS k seed) k (valsR pre).reverse) k = runL (roundS k seed) k (valsR (pre ++ [x])).reverse by rw [swap_run]; simp [valsR])
        have cS := swap_any k seed x.val (w.heap.size + 1) _ W (hT.below hB hT.lt) (Nat.lt_succ_of_lt hT.lt) h1 h2 x.isLt (runL_length _ _ _) b1
        rw [HX.out] at cS
        gi_wp2_with (fail)
        refine ((callsIn_wide.2 cS).inRound l).mono ?_
        rintro e w3 ⟨rfl, hr3, hb3⟩
        gi_wp2_with (fail)
        exact ⟨(keepsOthers_but b1 hb3).from _, trivial, ⟨hb3.rowAt b0 (by simp), hr3, hb3.rowAt b2 (by simp)⟩, But.below hB hb3 (by simp) hB.size⟩
      case done =>
        rintro D zs W hD hS ⟨⟨b0, b1, b2⟩, hB⟩ hK
        have c2 := b2.one
        rw [hS, List.reverse_reverse] at b1
        gi_wp2
        refine ⟨by simp, .inl ⟨_, _, rfl, run_takeDeferred hK, ?_⟩⟩
        refine ⟨.tuple #[.slice (some ⟨w.heap.size + 1, 0, none⟩) k k, .int .i64 0], by simp [results, Tryd.results24, go_sem], w.heap.size + 1, rfl, by omega, ?_, ?_⟩
        · exact (World.putObj_heap_other (by omega)).trans b1
        · exact hB.trans (belowK_b (w := w) (Nat.le_refl _) W D _ _ (by omega) hK rfl rfl)
      case stop =>
        rintro D c pre W _ _ h _
        exact h.elim
theorem All_yes (N M seed : Nat) (w : World) (hT : Tab w) (h1 : 1 ≤ N) (h2 : N ≤ 65536) (h4 : M ≤ 90) :
    Calls Tryd.prog 24 #[.int .i64 N, .int .i64 M, .int .u64 seed] w fun e w' => ∃ g, e = .returned (.tuple #[.slice (some ⟨g, 0, none⟩) N N, .int .i64 0]) ∧ w.heap.size ≤ g ∧ RowAt w' g 3 (intsV (runL (roundS N seed) N (List.range M))) ∧ Below w.heap.size w w' :=
  callsIn_wide.1 (All_in N M seed w hT h1 h2 h4)
end Go.Proofs.YtjipibpcnheniaaDoor
