/- The program's rounds of layer 9: fits, forth, back and what they hand back, mates, change, become. -/
import Derived.Test.YtnbgmopjlpchkaaDoorShuA
import Derived.Test.YtnbgmopjlpchkaaDoorBitC
namespace Go.Proofs.YtnbgmopjlpchkaaDoor
open Go.RowKit Go.Shelf
attribute [local go_sem] Oper.semAt_some

def fitsN (n i : Int) : Bool := decide (1 ≤ n) && decide (n ≤ 65536) && decide (0 ≤ i) && decide (i < n)
def fitsR (m : Int) : Bool := decide (0 ≤ m) && decide (m ≤ 90)
theorem mayB_eq (n m i : Int) : mayB n m i = (fitsN n i && fitsR m) := by
  rw [Bool.eq_iff_iff]; simp [mayB, fitsN, fitsR]; omega
theorem fits_any (n i : Int) (w : World) :
    Calls Tryd.prog 19 #[.int .i64 n, .int .i64 i] w fun e w' => e = .returned (.bool (fitsN n i)) ∧ w = w' := by
  by_cases h1 : 1 ≤ n
  all_goals by_cases h2 : n ≤ 65536
  all_goals by_cases h5 : 0 ≤ i
  all_goals
    go_enter Tryd.func19, Tryd.ntmps19
    go_wp2
    go_ret
    exact ⟨ret_bool (by first | (simp [fitsN, h1, h2, h5]; done) | (simp [fitsN]; omega)), rfl⟩
theorem fitsRounds_any (m : Int) (w : World) :
    Calls Tryd.prog 27 #[.int .i64 m] w fun e w' => e = .returned (.bool (fitsR m)) ∧ w = w' := by
  by_cases h1 : 0 ≤ m
  all_goals
    go_enter Tryd.func27, Tryd.ntmps27
    go_wp2
    go_ret
    exact ⟨ret_bool (by first | (simp [fitsR, h1]; done) | (simp [fitsR]; omega)), rfl⟩
theorem forth_any (m : Int) (w : World) :
    Calls Tryd.prog 25 #[.int .i64 m] w fun e w' => e = .returned (.func (.func 32) #[] #[.pointer (some ⟨w.heap.size, 0, none⟩)]) ∧ w' = w.alloc (.cells #[.int .i64 m] 3) := by
  go_enter Tryd.func25, Tryd.ntmps25
  go_wp2
  go_ret
  exact ⟨rfl, rfl⟩
theorem backs_any (m : Int) (w : World) :
    Calls Tryd.prog 26 #[.int .i64 m] w fun e w' => e = .returned (.func (.func 33) #[] #[.pointer (some ⟨w.heap.size, 0, none⟩)]) ∧ w' = w.alloc (.cells #[.int .i64 m] 3) := by
  go_enter Tryd.func26, Tryd.ntmps26
  go_wp2
  go_ret
  exact ⟨rfl, rfl⟩

abbrev encR : Fin 90 → Array Value := fun x => #[.int .i64 (x.val : Int)]
abbrev valsR (l : List (Fin 90)) : List Nat := l.map (·.val)
theorem valsR_length {l : List (Fin 90)} {k : Nat} (h : valsR l = List.range k) : l.length = k := by
  have := congrArg List.length h
  simpa using this
theorem valsR_snoc {l : List (Fin 90)} {k : Nat} (h : valsR l = List.range k) (hk : k < 90) : valsR (l ++ [⟨k, hk⟩]) = List.range (k + 1) := by
  rw [List.range_succ, ← h]; simp [valsR]
theorem valsR_down {l : List (Fin 90)} {j m : Nat} (h : valsR l ++ (List.range (j + 1)).reverse = (List.range m).reverse) (hk : j < 90) : valsR (l ++ [⟨j, hk⟩]) ++ (List.range j).reverse = (List.range m).reverse := by
  rw [← h, List.range_succ, List.reverse_append]; simp [valsR]
theorem valsR_left {l : List (Fin 90)} {j m : Nat} (h : valsR l ++ (List.range j).reverse = (List.range m).reverse) : l.length + j = m := by
  have := congrArg List.length h
  simpa using this
set_option maxRecDepth 100000 in
set_option maxHeartbeats 1000000 in
theorem forth_stops (m : Nat) (hm : m ≤ 90) (F : Fence) (n : Nat) (hF : F.fn 32) (hro : F.round = none) (hn : 1 ≤ n) (Bn : Nat) (w : World) (hc : w.cell? ⟨Bn, 0, none⟩ = some (.int .i64 (m : Int))) :
    SeqStopsK F n Tryd.prog 32 #[.pointer (some ⟨Bn, 0, none⟩)] encR (fun _ _ => True) (fun ys => valsR ys = List.range m) (fun _ => True) 90 w := by
  intro l J Jx W hW _ _ hY h0
  have hc1 : W.cell? ⟨Bn, 0, none⟩ = some (.int .i64 (m : Int)) := (hW.cell (p := ⟨Bn, 0, none⟩) (World.block_lt_of_cell? w _ hc)).trans hc
  refine callsIn_of_wp Tryd.func32 rfl hF ?_ hro
  simp only [Tryd.ntmps32, List.size_toArray, List.length_cons, List.length_nil, Nat.reduceAdd, Nat.reduceSub, Array.replicate_succ, Array.replicate_zero, List.push_toArray, List.append_toArray, List.nil_append, List.cons_append]
  gi_wp2
  gi_loopw [5] (fun i wr => ∃ (k : Nat) (pre : List (Fin 90)), k ≤ m ∧ i = .int .i64 k ∧ valsR pre = List.range k ∧ J pre wr) (fun i _ => m - (intOf i).toNat)
  case atStart => exact ⟨0, [], Nat.zero_le _, rfl, rfl, h0⟩
  case round =>
    obtain ⟨k, pre, hk, rfl, hp, hJ⟩ := hrel
    by_cases hlt : k < m
    · have hk9 : k < 90 := by omega
      obtain ⟨fn, tmps, assign, body, hy, hR⟩ := hY pre ⟨k, hk9⟩ wr hJ (by rw [valsR_length hp]; exact hk9)
      have HP := Lib.hid (valsR_snoc hp hk9)
      clear hY hp
      gi_wp2
      refine hR.mono ?_
      rintro e W3 (⟨rfl, hJ3, -⟩ | ⟨rfl, hJx3⟩)
      · gi_wp2
        go_roundw
        case rel => exact ⟨k + 1, _, by omega, by go_num, HP.out, hJ3⟩
        case measure => simp [intOf]; omega
      · gi_wp2
        refine bodyPost_ret (results_none rfl _ _ _) rfl ?_
        exact ⟨⟨_, rfl⟩, .inr ⟨_, trivial, hJx3⟩⟩
    · obtain rfl : k = m := by omega
      gi_wp2
      go_end0
      exact ⟨⟨_, rfl⟩, .inl ⟨_, hp, hJ⟩⟩
set_option maxRecDepth 100000 in
set_option maxHeartbeats 1000000 in
theorem back_stops (m : Nat) (hm : m ≤ 90) (F : Fence) (n : Nat) (hF : F.fn 33) (hro : F.round = none) (hn : 1 ≤ n) (Bn : Nat) (w : World) (hc : w.cell? ⟨Bn, 0, none⟩ = some (.int .i64 (m : Int))) :
    SeqStopsK F n Tryd.prog 33 #[.pointer (some ⟨Bn, 0, none⟩)] encR (fun _ _ => True) (fun ys => valsR ys = (List.range m).reverse) (fun _ => True) 90 w := by
  intro l J Jx W hW _ _ hY h0
  have hc1 : W.cell? ⟨Bn, 0, none⟩ = some (.int .i64 (m : Int)) := (hW.cell (p := ⟨Bn, 0, none⟩) (World.block_lt_of_cell? w _ hc)).trans hc
  refine callsIn_of_wp Tryd.func33 rfl hF ?_ hro
  simp only [Tryd.ntmps33, List.size_toArray, List.length_cons, List.length_nil, Nat.reduceAdd, Nat.reduceSub, Array.replicate_succ, Array.replicate_zero, List.push_toArray, List.append_toArray, List.nil_append, List.cons_append]
  gi_wp2
  gi_loopw [3] (fun i wr => ∃ (k : Nat) (pre : List (Fin 90)), k ≤ m ∧ i = .int .i64 ((k : Int) - 1) ∧ valsR pre ++ (List.range k).reverse = (List.range m).reverse ∧ J pre wr) (fun i _ => (intOf i + 1).toNat)
  case atStart => exact ⟨m, [], Nat.le_refl _, rfl, rfl, h0⟩
  case round =>
    obtain ⟨k, pre, hk, rfl, hp, hJ⟩ := hrel
    rcases Nat.eq_zero_or_pos k with hz | hpos
    · subst hz
      have HP := Lib.hid hp
      clear hp
      gi_wp2
      go_end0
      exact ⟨⟨_, rfl⟩, .inl ⟨_, by simpa using HP.out, hJ⟩⟩
    · obtain ⟨j, rfl⟩ : ∃ j, k = j + 1 := ⟨k - 1, by omega⟩
      have hk9 : j < 90 := by omega
      obtain ⟨fn, tmps, assign, body, hy, hR⟩ := hY pre ⟨j, hk9⟩ wr hJ (by have := valsR_left hp; omega)
      have HP := Lib.hid (valsR_down hp hk9)
      have ej : ((j + 1 : Nat) : Int) - 1 = (j : Int) := by omega
      rw [ej]
      clear hY hp ej
      gi_wp2
      refine hR.mono ?_
      rintro e W3 (⟨rfl, hJ3, -⟩ | ⟨rfl, hJx3⟩)
      · gi_wp2
        go_roundw
        case rel => exact ⟨j, _, by omega, by go_num, HP.out, hJ3⟩
        case measure => simp [intOf]
      · gi_wp2
        refine bodyPost_ret (results_none rfl _ _ _) rfl ?_
        exact ⟨⟨_, rfl⟩, .inr ⟨_, trivial, hJx3⟩⟩

/-- A pivot's closure: its own boxes, no block below lo, hold the pivot and how many there are. -/
def MateFn (lo : Nat) (w : World) (v : Value) (N p : Nat) : Prop := ∃ a b : Nat, v = .func (.func 35) #[] #[.pointer (some ⟨a, 0, none⟩), .pointer (some ⟨b, 0, none⟩)] ∧ lo ≤ a ∧ lo ≤ b ∧ RowAt w a 3 [.int .i64 (p : Int)] ∧ RowAt w b 3 [.int .i64 (N : Int)]
set_option maxHeartbeats 1000000 in
theorem mates_any (N seed R : Nat) (w : World) (hT : Tab w) (h1 : 1 ≤ N) (h2 : N ≤ 65536) (h4 : R < 90) :
    Calls Tryd.prog 29 #[.int .i64 N, .int .u64 seed, .int .i64 R] w fun e w' => ∃ v, e = .returned v ∧ MateFn w.heap.size w' v N (foldB [seed, R] % N) ∧ Below w.heap.size w w' := by
  obtain ⟨p, hp⟩ : ∃ p, foldB [seed, R] % N = p := ⟨_, rfl⟩
  have cD : ∀ (W : World) (v : Value), Tab W → Words W W.heap.size v [seed, R] → Calls Tryd.prog 34 #[.int .i64 N, v] W fun e w' => e = .returned (.int .i64 p) ∧ Below W.heap.size W w' := fun W v hT hv => by
    have := Draw_yes N [seed, R] v W hv (by simp) hT h1 (by omega)
    rwa [hp] at this
  rw [hp]
  clear hp
  go_enter Tryd.func29, Tryd.ntmps29
  go_wp2_with fail
  with_reducible refine (cD _ _ ?_ (words2 _ _ _ _ _ (by exact World.size_alloc _ _))).mono ?_
  · exact (hT.on ((Below.refl _ _).alloc (Nat.le_refl _) _)).on ((Below.refl _ _).alloc (Nat.le_refl _) _)
  rintro e w1 ⟨rfl, b1⟩
  have r0 := (((RowAt.new w 3 #[.int .i64 (N : Int)]).alloc (.cells #[.int .u64 (seed : Int), .int .u64 (R : Int)] 22)).on b1).alloc (.cells #[.int .i64 (p : Int)] 3)
  have r1 := RowAt.new w1 3 #[.int .i64 (p : Int)]
  have B1 := bstep (((Below.refl w.heap.size w).alloc (Nat.le_refl _) (.cells #[.int .i64 (N : Int)] 3)).alloc (by simp) (.cells #[.int .u64 (seed : Int), .int .u64 (R : Int)] 22)) b1 (by simp; omega)
  clear b1 cD
  go_wp2_with fail
  go_ret
  exact ⟨_, rfl, ⟨_, _, rfl, B1.size, Nat.le_refl _, r1, r0⟩, B1.alloc B1.size _⟩

set_option maxHeartbeats 1000000 in
theorem matef_any (N p I f : Nat) (a b : Nat) (w : World) (hN : N ≤ 65536) (hp : p < N) (hI : I < N) (hf : mateS N p I = f) (h1 : RowAt w a 3 [.int .i64 (p : Int)]) (h2 : RowAt w b 3 [.int .i64 (N : Int)]) :
    Calls Tryd.prog 35 #[.int .i64 I, .pointer (some ⟨a, 0, none⟩), .pointer (some ⟨b, 0, none⟩)] w fun e w' => e = .returned (.int .i64 f) ∧ Below w.heap.size w w' := by
  have ev := mate_val N p I hI
  rw [hf] at ev
  have c1 := h1.one
  have c2 := h2.one
  clear hf h1 h2
  go_enter Tryd.func35, Tryd.ntmps35
  go_wp2_with fail
  go_ret
  exact ⟨rfl, Below.refl _ _⟩

set_option maxHeartbeats 1000000 in
theorem change_any (seed R I f : Nat) (x : Bool) (w : World) (hT : Tab w) (h4 : R < 90) (hI : I < 65536) (hf : f < 65536) (hx : bitOf [seed, R, max I f] = x) :
    Calls Tryd.prog 30 #[.int .u64 seed, .int .i64 R, .int .i64 I, .int .i64 f] w fun e w' => e = .returned (.bool x) ∧ Below w.heap.size w w' := by
  obtain ⟨t, ht⟩ : ∃ t, max I f = t := ⟨_, rfl⟩
  rw [ht] at hx
  have cB : ∀ (W : World) (v : Value), Tab W → Words W W.heap.size v [seed, R, t] → Calls Tryd.prog 36 #[v] W fun e w' => e = .returned (.bool x) ∧ Below W.heap.size W w' := fun W v hT hv => by
    have := Bit_any [seed, R, t] v W hv (by simp) hT
    rwa [hx] at this
  have hw : (I < f ∧ t = f) ∨ (f ≤ I ∧ t = I) := by omega
  clear hx
  rcases hw with ⟨hw, rfl⟩ | ⟨hw, rfl⟩
  all_goals clear ht
  all_goals
    go_enter Tryd.func30, Tryd.ntmps30
    go_wp2_with fail
    with_reducible refine (cB _ _ ?_ (words3 _ _ _ _ _ _ rfl)).mono ?_
    · exact hT.on ((Below.refl _ _).alloc (Nat.le_refl _) _)
    rintro e w1 ⟨rfl, b1⟩
    have B1 := bstep ((Below.refl w.heap.size w).alloc (Nat.le_refl _) _) b1 (by simp)
    clear b1 cB
    go_wp2_with fail
    go_ret
    exact ⟨rfl, B1⟩

set_option maxHeartbeats 1000000 in
theorem become_any (N seed R I : Nat) (w : World) (hT : Tab w) (h1 : 1 ≤ N) (h2 : N ≤ 65536) (h3 : I < N) (h4 : R < 90) :
    Calls Tryd.prog 20 #[.int .i64 N, .int .u64 seed, .int .i64 R, .int .i64 I] w fun e w' => e = .returned (.int .i64 (roundS N seed R I)) ∧ Below w.heap.size w w' := by
  have cM := fun W hT => mates_any N seed R W hT h1 h2 h4
  obtain ⟨p, hp⟩ : ∃ p, foldB [seed, R] % N = p := ⟨_, rfl⟩
  have hpl : p < N := by rw [← hp]; exact Nat.mod_lt _ (by omega)
  obtain ⟨f, hf⟩ : ∃ f, mateS N p I = f := ⟨_, rfl⟩
  have hfl : f < N := by rw [← hf]; exact mateS_lt (by omega)
  obtain ⟨x, hx⟩ : ∃ x, bitOf [seed, R, max I f] = x := ⟨_, rfl⟩
  have hR := roundS_bit hp hf hx
  rw [hp] at cM
  have cF := fun a b W k1 k2 => matef_any N p I f a b W h2 hpl h3 hf k1 k2
  have cC := fun W hT => change_any seed R I f x W hT h4 (by omega) (by omega) hx
  clear hp hf hx hpl
  rw [hR]
  clear hR
  cases x
  all_goals
    go_enter Tryd.func20, Tryd.ntmps20
    go_wp2_with fail
    with_reducible refine (cM _ hT).mono ?_
    rintro e w1 ⟨v, rfl, ⟨a, b, rfl, -, -, k1, k2⟩, b1⟩
    have T1 := hT.on b1
    clear cM hT
    go_wp2_with fail
    with_reducible refine (cF _ _ _ k1 k2).mono ?_
    rintro e w2 ⟨rfl, b2⟩
    have T2 := T1.on b2
    have B2 := bstep b1 b2 b1.size
    clear cF T1 b1 b2 k1 k2
    go_wp2_with fail
    with_reducible refine (cC _ T2).mono ?_
    rintro e w3 ⟨rfl, b3⟩
    have B3 := bstep B2 b3 B2.size
    clear cC T2 B2 b3
    go_wp2_with fail
    go_ret
    exact ⟨rfl, B3⟩

theorem Round_no (n s r i : Int) (w : World) (h : mayB n 0 i = false ∨ r < 0 ∨ 89 < r) :
    Calls Tryd.prog 10 #[.int .i64 n, .int .u64 s, .int .i64 r, .int .i64 i] w fun e w' => e = .returned (.tuple #[.int .i64 0, .int .i64 1]) ∧ Below w.heap.size w w' := by
  have c0 := fun W => fits_any n i W
  rw [mayB_eq, show fitsR 0 = true by decide, Bool.and_true] at h
  obtain ⟨b, hb⟩ : ∃ b, fitsN n i = b := ⟨_, rfl⟩
  rw [hb] at h c0
  cases b
  · go_enter Tryd.func10, Tryd.ntmps10
    go_wp2_with (first | (with_reducible refine (c0 _).mono ?_; rintro e w1 ⟨rfl, rfl⟩))
    go_ret2
    exact ⟨rfl, Below.refl _ _⟩
  · have h := h.resolve_left (by simp)
    by_cases h1 : r < 0
    · go_enter Tryd.func10, Tryd.ntmps10
      go_wp2_with (first | (with_reducible refine (c0 _).mono ?_; rintro e w1 ⟨rfl, rfl⟩))
      go_ret2
      exact ⟨rfl, Below.refl _ _⟩
    · have h2 : 90 ≤ r := by omega
      go_enter Tryd.func10, Tryd.ntmps10
      go_wp2_with (first | (with_reducible refine (c0 _).mono ?_; rintro e w1 ⟨rfl, rfl⟩))
      go_ret2
      exact ⟨rfl, Below.refl _ _⟩
set_option maxHeartbeats 1000000 in
theorem Round_yes (N seed R I : Nat) (w : World) (hT : Tab w) (h1 : 1 ≤ N) (h2 : N ≤ 65536) (h3 : I < N) (h4 : R < 90) :
    Calls Tryd.prog 10 #[.int .i64 N, .int .u64 seed, .int .i64 R, .int .i64 I] w fun e w' => e = .returned (.tuple #[.int .i64 (roundS N seed R I), .int .i64 0]) ∧ Below w.heap.size w w' := by
  have c0 := fun W => fits_any (N : Int) (I : Int) W
  rw [show fitsN N I = true by simp [fitsN]; omega] at c0
  have cR := fun W hT => become_any N seed R I W hT h1 h2 h3 h4
  generalize roundS N seed R I = X at *
  go_enter Tryd.func10, Tryd.ntmps10
  go_wp2_with (first | (with_reducible refine (c0 _).mono ?_; rintro e w1 ⟨rfl, rfl⟩) | (with_reducible refine (cR _ hT).mono ?_; rintro e w1 ⟨rfl, b1⟩))
  go_ret2
  exact ⟨rfl, b1⟩
end Go.Proofs.YtnbgmopjlpchkaaDoor
