/- The walk of the law ShuffleTells. -/
import Derived.Test.YtnbgmopjlpchkaaDoorShuG
import Derived.Deep.LoopGhost
import Derived.Lib.MinMax
namespace Go.Proofs.YtnbgmopjlpchkaaDoor
open Go.RowKit

theorem Round_both (n : Int) (s : Nat) (r i : Int) : ∃ X : Nat, ∃ e : Int,
    (∀ W, Tab W → Calls Tryd.prog 10 #[.int .i64 n, .int .u64 s, .int .i64 r, .int .i64 i] W fun e' w' => e' = .returned (.tuple #[.int .i64 X, .int .i64 e]) ∧ Below W.heap.size W w') ∧
    (∀ W, Tab W → Calls Tryd.prog 11 #[.int .i64 n, .int .u64 s, .int .i64 r, .int .i64 i] W fun e' w' => e' = .returned (.tuple #[.int .i64 X, .int .i64 e]) ∧ Below W.heap.size W w') := by
  by_cases h : mayB n 0 i = true ∧ 0 ≤ r ∧ r ≤ 89
  · obtain ⟨N, M, I, rfl, -, rfl, h1, h2, h3, h4⟩ := mayB_nat h.1
    obtain ⟨R, rfl⟩ := Int.eq_ofNat_of_zero_le h.2.1
    exact ⟨roundS N s R I, 0, fun W hA => Round_yes N s R I W hA h1 h2 h4 (by omega), fun W _ => rRound_yes N s R I W h1 h2 h4 (by omega)⟩
  · have h' : mayB n 0 i = false ∨ r < 0 ∨ 89 < r := by
      cases e : mayB n 0 i
      · exact .inl rfl
      · refine .inr ?_
        have : ¬ (0 ≤ r ∧ r ≤ 89) := fun k => h ⟨e, k⟩
        omega
    exact ⟨0, 1, fun W _ => Round_no n s r i W h', fun W _ => rRound_no n s r i W h'⟩
theorem Place_both (n m : Int) (s : Nat) (i : Int) : ∃ X : Nat, ∃ e : Int,
    (∀ W, Tab W → Calls Tryd.prog 12 #[.int .i64 n, .int .i64 m, .int .u64 s, .int .i64 i] W fun e' w' => e' = .returned (.tuple #[.int .i64 X, .int .i64 e]) ∧ Below W.heap.size W w') ∧
    (∀ W, Tab W → Calls Tryd.prog 13 #[.int .i64 n, .int .i64 m, .int .u64 s, .int .i64 i] W fun e' w' => e' = .returned (.tuple #[.int .i64 X, .int .i64 e]) ∧ Below W.heap.size W w') := by
  cases h : mayB n m i
  · exact ⟨0, 1, fun W _ => Place_no n m s i W h, fun W _ => rPlace_no n m s i W h⟩
  · obtain ⟨N, M, I, rfl, rfl, rfl, h1, h2, h3, h4⟩ := mayB_nat h
    exact ⟨placeS (roundS N s) M I, 0, fun W hA => Place_yes N M s I W hA h1 h2 h4 h3, fun W _ => rPlace_yes N M s I W h1 h2 h4 h3⟩
theorem Back_both (n m : Int) (s : Nat) (i : Int) : ∃ X : Nat, ∃ e : Int,
    (∀ W, Tab W → Calls Tryd.prog 14 #[.int .i64 n, .int .i64 m, .int .u64 s, .int .i64 i] W fun e' w' => e' = .returned (.tuple #[.int .i64 X, .int .i64 e]) ∧ Below W.heap.size W w') ∧
    (∀ W, Tab W → Calls Tryd.prog 15 #[.int .i64 n, .int .i64 m, .int .u64 s, .int .i64 i] W fun e' w' => e' = .returned (.tuple #[.int .i64 X, .int .i64 e]) ∧ Below W.heap.size W w') := by
  cases h : mayB n m i
  · exact ⟨0, 1, fun W _ => Back_no n m s i W h, fun W _ => rBack_no n m s i W h⟩
  · obtain ⟨N, M, I, rfl, rfl, rfl, h1, h2, h3, h4⟩ := mayB_nat h
    exact ⟨backS (roundS N s) M I, 0, fun W hA => Back_yes N M s I W hA h1 h2 h4 h3, fun W _ => rBack_yes N M s I W h1 h2 h4 h3⟩

theorem sowns_below {W W' : World} {base : Nat} {e : TypeId} {size k : Nat} {v : Value} {xs : List Value} (h : W.ownsRow base e size v k xs) (hb : Below W.heap.size W W') : W'.ownsRow base e size v k xs :=
  h.kept (row := none) ⟨hb.os, hb.tape, hb.output, hb.size, fun k hk _ => hb.block k hk⟩ (by
    rcases h.2 with ⟨rfl, _⟩ | ⟨g, cap, cur, rfl, _⟩
    · exact .inl rfl
    · exact .inr (by simp [Value.ownBlock]))
set_option maxHeartbeats 1000000 in
/-- The document's All. -/
theorem rAll_yes (N M seed : Nat) (w : World) (h1 : 1 ≤ N) (h2 : N ≤ 65536) (h4 : M ≤ 90) :
    Calls Tryd.prog 17 #[.int .i64 N, .int .i64 M, .int .u64 seed] w fun e w' => ∃ v, e = .returned (.tuple #[v, .int .i64 0]) ∧ Ints w' w'.heap.size v ((runL (roundS N seed) N (List.range M)).map fun n : Nat => (n : Int)) ∧ Below w.heap.size w w' := by
  obtain ⟨i0, hi, hz0, hz1, hz2⟩ := info_parts info_int
  have hm : mayB N M 0 = true := (mayB_iff _ _ _).2 (by omega)
  have c0 := fun W => rmay_any (N : Int) M 0 W
  rw [hm] at c0
  obtain ⟨F, hF⟩ : ∃ F, F = placeS (roundS N seed) M := ⟨_, rfl⟩
  have cP : ∀ (k : Nat) (W : World), k < N → Calls Tryd.prog 13 #[.int .i64 N, .int .i64 M, .int .u64 seed, .int .i64 k] W fun e w' => e = .returned (.tuple #[.int .i64 (F k), .int .i64 0]) ∧ Below W.heap.size W w' := fun k W hk => by
    rw [hF]; exact rPlace_yes N M seed k W h1 h2 hk h4
  have eL : (runL (roundS N seed) N (List.range M)) = (List.range N).map F := by rw [hF]
  rw [eL]
  clear eL hF
  go_enter Tryd.func17, Tryd.ntmps17
  go_wp2_with (first | (with_reducible refine (c0 _).mono ?_; rintro e w1 ⟨rfl, rfl⟩))
  clear c0 hm
  go_loopw [9, 10] (fun o i wr => ∃ k : Nat, k ≤ N ∧ i = .int .i64 k ∧ wr.ownsRow w.heap.size 3 1 o k (intsV ((List.range k).map F)) ∧ Below w.heap.size w wr) (fun _ i _ => N - (intOf i).toNat)
  case atStart => exact ⟨0, Nat.zero_le _, rfl, World.ownsRow_nil _ _ _ _, Below.refl _ _⟩
  case round =>
    obtain ⟨k, hk, rfl, hown, hb⟩ := hrel
    by_cases hlt : k < N
    · have cK := fun W => cP k W hlt
      have HS := Lib.hid (show intsV ((List.range (k + 1)).map F) = intsV ((List.range k).map F) ++ [.int .i64 (F k : Int)] by simp [intsV, List.range_succ])
      generalize F k = V at *
      go_wp2_with fail
      with_reducible refine (cK _).mono ?_
      rintro e w2 ⟨rfl, hb2⟩
      have hown2 : w2.ownsRow w.heap.size 3 1 u9 k (intsV ((List.range k).map F)) := sowns_below hown hb2
      have hw2 := bstep hb hb2 hb.size
      have hz := hw2.size
      clear hown hb hb2 cK
      have hown' : ∀ g, u9.ownBlock = some g → w.heap.size ≤ g := fun g hg => (hown2.lt g hg).1
      go_wp2_with (at_builtin; refine wpList_append_own _ rfl _ _ 31 rfl w.heap.size 3 i0 (.int .i64 0) 1 8 Tryd.underlying31 hi hz0 hz1 hz2 rfl (by decide) _ _ _ rfl (hown2.alloc _) ⟨w2.heap.size, 0, none⟩ 1 1 [.int .i64 (V : Int)] rfl rfl ?c1 ?c2 ?c3 ?c4 ?c5 ?_)
      case c1 =>
        intro j u hj
        match j, hj with
        | 0, hj => simp at hj; subst hj; simp [Addr.add]
      case c2 => intro u hu; simp at hu; subst hu; rfl
      case c3 => unfold maxLen; omega
      case c4 => omega
      case c5 => simp; omega
      intro v' w1 hown1 hgrow _
      have hown1 : w1.ownsRow w.heap.size 3 1 v' (k + 1) (intsV ((List.range (k + 1)).map F)) := by rw [HS.out]; simpa [intsV] using hown1
      have hbn : Below w.heap.size w w1 := (hw2.alloc hz _).grown hgrow (by simp; omega) (fun g hg => hown' g hg)
      clear hown2 hgrow hw2 hown'
      go_wp2_with fail
      go_roundw
      case rel => exact ⟨k + 1, by omega, by go_num, hown1, hbn⟩
      case measure => simp [intOf]; omega
    · obtain rfl : k = N := by omega
      have hI : Ints wr wr.heap.size u9 (((List.range k).map F).map fun n : Nat => (n : Int)) := by
        refine Elems.own (base := w.heap.size) (e := 3) ?_
        have e : (((List.range k).map F).map fun n : Nat => (n : Int)).map (Value.int .i64) = intsV ((List.range k).map F) := by simp only [intsV, List.map_map]; rfl
        rw [e, List.length_map, List.length_map, List.length_range]
        exact hown
      go_wp2_with fail
      go_ret2
      exact ⟨_, rfl, hI, hb⟩
theorem rAll_no (n m s : Int) (w : World) (h : mayB n m 0 = false) :
    Calls Tryd.prog 17 #[.int .i64 n, .int .i64 m, .int .u64 s] w fun e w' => e = .returned (.tuple #[.slice none 0 0, .int .i64 1]) ∧ Below w.heap.size w w' := by
  have c0 := fun W => rmay_any n m 0 W
  rw [h] at c0
  go_enter Tryd.func17, Tryd.ntmps17
  go_wp2_with (first | (with_reducible refine (c0 _).mono ?_; rintro e w1 ⟨rfl, rfl⟩))
  go_ret2
  exact ⟨rfl, Below.refl _ _⟩
set_option maxHeartbeats 2000000 in
set_option maxRecDepth 100000 in
theorem tells_calls (n : Int) (wn : (Lit.int .i64 n).wf = true) (m : Int) (wm : (Lit.int .i64 m).wf = true) (s : Int) (ws : (Lit.int .u64 s).wf = true) (r : Int) (wr : (Lit.int .i64 r).wf = true) (i : Int) (wi : (Lit.int .i64 i).wf = true) (w : World) (hT : Tab w) :
    Calls Tryd.prog 3 #[.int .i64 n, .int .i64 m, .int .u64 s, .int .i64 r, .int .i64 i] w fun e w' => e = .returned (.bool true) ∧ Below w.heap.size w w' := by
  refine Calls.mono (R := fun e w' => e = .returned (.bool true) ∧ At w w') ?_ fun _ _ h => ⟨h.1, h.2.2⟩
  have A0 := At.refl hT
  have bn := i64_of_wf wn
  have bm := i64_of_wf wm
  obtain ⟨s, rfl, ls⟩ := u64_of_wf ws
  have br := i64_of_wf wr
  have bi := i64_of_wf wi
  obtain ⟨P, hP⟩ : ∃ x, pickS n 60 = x := ⟨_, rfl⟩
  have lP := pickS_lt n 60 (by omega)
  rw [hP] at lP
  have cP : ∀ W, At w W → Calls Tryd.prog 9 #[.int .i64 n, .int .i64 60] W fun e w' => e = .returned (.int .i64 P) ∧ At w w' := fun W hA => an_pick n 60 P hP bn (by omega) (by omega) hA
  obtain ⟨N, hN⟩ : ∃ N : Nat, N = P + 1 := ⟨_, rfl⟩
  have eN : (1 : Int) + (P : Int) = (N : Int) := by omega
  obtain ⟨M, hM⟩ : ∃ x, pickS m 13 = x := ⟨_, rfl⟩
  have lM := pickS_lt m 13 (by omega)
  rw [hM] at lM
  have cM : ∀ W, At w W → Calls Tryd.prog 9 #[.int .i64 m, .int .i64 13] W fun e w' => e = .returned (.int .i64 M) ∧ At w w' := fun W hA => an_pick m 13 M hM bm (by omega) (by omega) hA
  obtain ⟨Q, hQ⟩ : ∃ x, pickS n 65536 = x := ⟨_, rfl⟩
  have lQ := pickS_lt n 65536 (by omega)
  rw [hQ] at lQ
  have cQ : ∀ W, At w W → Calls Tryd.prog 9 #[.int .i64 n, .int .i64 65536] W fun e w' => e = .returned (.int .i64 Q) ∧ At w w' := fun W hA => an_pick n 65536 Q hQ bn (by omega) (by omega) hA
  obtain ⟨N2, hN2⟩ : ∃ N2 : Nat, N2 = Q + 1 := ⟨_, rfl⟩
  have eN2 : (1 : Int) + (Q : Int) = (N2 : Int) := by omega
  obtain ⟨R, hR⟩ : ∃ x, pickS r 90 = x := ⟨_, rfl⟩
  have lR := pickS_lt r 90 (by omega)
  rw [hR] at lR
  have cR : ∀ W, At w W → Calls Tryd.prog 9 #[.int .i64 r, .int .i64 90] W fun e w' => e = .returned (.int .i64 R) ∧ At w w' := fun W hA => an_pick r 90 R hR br (by omega) (by omega) hA
  obtain ⟨I, hI⟩ : ∃ x, pickS i (N2 : Int) = x := ⟨_, rfl⟩
  have lI := pickS_lt i (N2 : Int) (by omega)
  rw [hI] at lI
  have cI : ∀ W, At w W → Calls Tryd.prog 9 #[.int .i64 i, .int .i64 (N2 : Int)] W fun e w' => e = .returned (.int .i64 I) ∧ At w w' := fun W hA => an_pick i (N2 : Int) I hI bi (by omega) (by omega) hA
  obtain ⟨J, hJ⟩ : ∃ x, pickS i (N : Int) = x := ⟨_, rfl⟩
  have lJ := pickS_lt i (N : Int) (by omega)
  rw [hJ] at lJ
  have cJ : ∀ W, At w W → Calls Tryd.prog 9 #[.int .i64 i, .int .i64 (N : Int)] W fun e w' => e = .returned (.int .i64 J) ∧ At w w' := fun W hA => an_pick i (N : Int) J hJ bi (by omega) (by omega) hA
  obtain ⟨H, hH⟩ : ∃ x, pickS i ((N : Int) + 1) = x := ⟨_, rfl⟩
  have lH := pickS_lt i ((N : Int) + 1) (by omega)
  rw [hH] at lH
  have cH : ∀ W, At w W → Calls Tryd.prog 9 #[.int .i64 i, .int .i64 ((N : Int) + 1)] W fun e w' => e = .returned (.int .i64 H) ∧ At w w' := fun W hA => an_pick i ((N : Int) + 1) H hH bi (by omega) (by omega) hA
  obtain ⟨Z, hZ⟩ : ∃ x, pickS m 1000 = x := ⟨_, rfl⟩
  have lZ := pickS_lt m 1000 (by omega)
  rw [hZ] at lZ
  have cZ : ∀ W, At w W → Calls Tryd.prog 9 #[.int .i64 m, .int .i64 1000] W fun e w' => e = .returned (.int .i64 Z) ∧ At w w' := fun W hA => an_pick m 1000 Z hZ bm (by omega) (by omega) hA
  have HZ := Lib.hid hZ
  clear hP hM hQ hR hI hJ hH hZ cZ hN hN2
  go_enter Tryd.func3, Tryd.ntmps3
  go_wp2_with (first
    | (with_reducible refine (an_awake (by assumption)).mono ?_; rintro e w1 ⟨rfl, A1⟩)
    | (with_reducible refine (cP _ (by assumption)).mono ?_; rintro e w1 ⟨rfl, A1⟩)
    | (with_reducible refine (cM _ (by assumption)).mono ?_; rintro e w1 ⟨rfl, A1⟩)
    | (with_reducible refine (cQ _ (by assumption)).mono ?_; rintro e w1 ⟨rfl, A1⟩)
    | (with_reducible refine (cR _ (by assumption)).mono ?_; rintro e w1 ⟨rfl, A1⟩)
    | (with_reducible refine (cI _ (by assumption)).mono ?_; rintro e w1 ⟨rfl, A1⟩)
    | (with_reducible refine (cJ _ (by assumption)).mono ?_; rintro e w1 ⟨rfl, A1⟩)
    | (with_reducible refine (cH _ (by assumption)).mono ?_; rintro e w1 ⟨rfl, A1⟩))
  have RQ := RowAt.new w1 25 #[.int .i64 n, .int .i64 m, .int .i64 r, .int .i64 i, .int .i64 N2, .int .i64 M, .int .i64 R, .int .i64 I, .int .i64 N, .int .i64 M, .int .i64 R, .int .i64 J, .int .i64 N, .int .i64 m, .int .i64 r, .int .i64 H]
  have A2 := A1.alloc (.cells #[.int .i64 n, .int .i64 m, .int .i64 r, .int .i64 i, .int .i64 N2, .int .i64 M, .int .i64 R, .int .i64 I, .int .i64 N, .int .i64 M, .int .i64 R, .int .i64 J, .int .i64 N, .int .i64 m, .int .i64 r, .int .i64 H] 25)
  clear A0 A1 cQ cR cI cJ cH lQ lR lI lJ lH eN2
  generalize w1.heap.size = q at *
  generalize w1.alloc (.cells #[.int .i64 n, .int .i64 m, .int .i64 r, .int .i64 i, .int .i64 N2, .int .i64 M, .int .i64 R, .int .i64 I, .int .i64 N, .int .i64 M, .int .i64 R, .int .i64 J, .int .i64 N, .int .i64 m, .int .i64 r, .int .i64 H] 25) = w2 at *
  have HT := Lib.hid A2
  go_loopg [77] 4 (fun gk i wr => ∃ i0 : Int, i = .int .i64 i0 ∧ i0 + (gk : Int) = 4 ∧ 0 ≤ i0 ∧ Below w2.heap.size w2 wr)
  case atStart => exact ⟨0, rfl, rfl, Int.le_refl _, Below.refl _ _⟩
  case round =>
    obtain ⟨i0, rfl, hi0, hi1, hb⟩ := hrel
    cases gk with
    | succ gko =>
      have hcs : i0 = 0 ∨ i0 = 1 ∨ i0 = 2 ∨ i0 = 3 := by omega
      have RR := RQ.on hb
      have T0 := HT.out.1.on hb
      clear A2 RQ
      rcases hcs with rfl | rfl | rfl | rfl
      · obtain ⟨X1, E1, c1, d1⟩ := Round_both n s r i
        obtain ⟨X2, E2, c2, d2⟩ := Place_both n m s i
        obtain ⟨X3, E3, c3, d3⟩ := Back_both n m s i
        have a0 := RR.cell 0
        have a1 := RR.cell 1
        have a2 := RR.cell 2
        have a3 := RR.cell 3
        simp only [List.getElem?_cons_succ, List.getElem?_cons_zero] at a0 a1 a2 a3
        have RB : RowAt (wr.alloc (.cells #[.int .i64 n, .int .i64 m, .int .i64 r, .int .i64 i] 25)) wr.heap.size 25 [.int .i64 n, .int .i64 m, .int .i64 r, .int .i64 i] := RowAt.new wr 25 #[.int .i64 n, .int .i64 m, .int .i64 r, .int .i64 i]
        have T1 := T0.on ((Below.refl wr.heap.size wr).alloc (Nat.le_refl _) (.cells #[.int .i64 n, .int .i64 m, .int .i64 r, .int .i64 i] 25))
        have hb2 := hb.alloc hb.size (.cells #[.int .i64 n, .int .i64 m, .int .i64 r, .int .i64 i] 25)
        have e1 : ((X1 : Int) != (X1 : Int)) = false := by simp
        have e2 : (E1 != E1) = false := by simp
        have e3 : ((X2 : Int) != (X2 : Int)) = false := by simp
        have e4 : (E2 != E2) = false := by simp
        have e5 : ((X3 : Int) != (X3 : Int)) = false := by simp
        have e6 : (E3 != E3) = false := by simp
        clear hb T0
        go_wp2_with fail
        with_reducible refine (c1 _ T1).mono ?_
        rintro e u1 ⟨rfl, b2⟩
        replace RB := RB.on b2
        replace T1 := T1.on b2
        replace hb2 := hb2.trans (b2.mono hb2.size)
        clear b2 c1 a0 a1 a2 a3
        clear RR
        have a0 := RB.cell 0
        have a1 := RB.cell 1
        have a2 := RB.cell 2
        have a3 := RB.cell 3
        simp only [List.getElem?_cons_succ, List.getElem?_cons_zero] at a0 a1 a2 a3
        go_wp2_with fail
        with_reducible refine (d1 _ T1).mono ?_
        rintro e u1 ⟨rfl, b2⟩
        replace RB := RB.on b2
        replace T1 := T1.on b2
        replace hb2 := hb2.trans (b2.mono hb2.size)
        clear b2 d1 a0 a1 a2 a3
        have a0 := RB.cell 0
        have a1 := RB.cell 1
        have a2 := RB.cell 2
        have a3 := RB.cell 3
        simp only [List.getElem?_cons_succ, List.getElem?_cons_zero] at a0 a1 a2 a3
        go_wp2_with fail
        with_reducible refine (c2 _ T1).mono ?_
        rintro e u1 ⟨rfl, b2⟩
        replace RB := RB.on b2
        replace T1 := T1.on b2
        replace hb2 := hb2.trans (b2.mono hb2.size)
        clear b2 c2 a0 a1 a2 a3
        have a0 := RB.cell 0
        have a1 := RB.cell 1
        have a2 := RB.cell 2
        have a3 := RB.cell 3
        simp only [List.getElem?_cons_succ, List.getElem?_cons_zero] at a0 a1 a2 a3
        go_wp2_with fail
        with_reducible refine (d2 _ T1).mono ?_
        rintro e u1 ⟨rfl, b2⟩
        replace RB := RB.on b2
        replace T1 := T1.on b2
        replace hb2 := hb2.trans (b2.mono hb2.size)
        clear b2 d2 a0 a1 a2 a3
        have a0 := RB.cell 0
        have a1 := RB.cell 1
        have a2 := RB.cell 2
        have a3 := RB.cell 3
        simp only [List.getElem?_cons_succ, List.getElem?_cons_zero] at a0 a1 a2 a3
        go_wp2_with fail
        with_reducible refine (c3 _ T1).mono ?_
        rintro e u1 ⟨rfl, b2⟩
        replace RB := RB.on b2
        replace T1 := T1.on b2
        replace hb2 := hb2.trans (b2.mono hb2.size)
        clear b2 c3 a0 a1 a2 a3
        have a0 := RB.cell 0
        have a1 := RB.cell 1
        have a2 := RB.cell 2
        have a3 := RB.cell 3
        simp only [List.getElem?_cons_succ, List.getElem?_cons_zero] at a0 a1 a2 a3
        go_wp2_with fail
        with_reducible refine (d3 _ T1).mono ?_
        rintro e u1 ⟨rfl, b2⟩
        replace RB := RB.on b2
        replace T1 := T1.on b2
        replace hb2 := hb2.trans (b2.mono hb2.size)
        clear b2 d3 a0 a1 a2 a3
        clear RB T1
        go_wp2_with fail
        go_roundg gko
        case measure => omega
        case rel => exact ⟨_, rfl, by omega, by omega, hb2⟩
      · obtain ⟨X1, E1, c1, d1⟩ := Round_both N2 s R I
        obtain ⟨X2, E2, c2, d2⟩ := Place_both N2 M s I
        obtain ⟨X3, E3, c3, d3⟩ := Back_both N2 M s I
        have a0 := RR.cell 4
        have a1 := RR.cell 5
        have a2 := RR.cell 6
        have a3 := RR.cell 7
        simp only [List.getElem?_cons_succ, List.getElem?_cons_zero] at a0 a1 a2 a3
        have RB : RowAt (wr.alloc (.cells #[.int .i64 N2, .int .i64 M, .int .i64 R, .int .i64 I] 25)) wr.heap.size 25 [.int .i64 N2, .int .i64 M, .int .i64 R, .int .i64 I] := RowAt.new wr 25 #[.int .i64 N2, .int .i64 M, .int .i64 R, .int .i64 I]
        have T1 := T0.on ((Below.refl wr.heap.size wr).alloc (Nat.le_refl _) (.cells #[.int .i64 N2, .int .i64 M, .int .i64 R, .int .i64 I] 25))
        have hb2 := hb.alloc hb.size (.cells #[.int .i64 N2, .int .i64 M, .int .i64 R, .int .i64 I] 25)
        have e1 : ((X1 : Int) != (X1 : Int)) = false := by simp
        have e2 : (E1 != E1) = false := by simp
        have e3 : ((X2 : Int) != (X2 : Int)) = false := by simp
        have e4 : (E2 != E2) = false := by simp
        have e5 : ((X3 : Int) != (X3 : Int)) = false := by simp
        have e6 : (E3 != E3) = false := by simp
        clear hb T0
        go_wp2_with fail
        with_reducible refine (c1 _ T1).mono ?_
        rintro e u1 ⟨rfl, b2⟩
        replace RB := RB.on b2
        replace T1 := T1.on b2
        replace hb2 := hb2.trans (b2.mono hb2.size)
        clear b2 c1 a0 a1 a2 a3
        clear RR
        have a0 := RB.cell 0
        have a1 := RB.cell 1
        have a2 := RB.cell 2
        have a3 := RB.cell 3
        simp only [List.getElem?_cons_succ, List.getElem?_cons_zero] at a0 a1 a2 a3
        go_wp2_with fail
        with_reducible refine (d1 _ T1).mono ?_
        rintro e u1 ⟨rfl, b2⟩
        replace RB := RB.on b2
        replace T1 := T1.on b2
        replace hb2 := hb2.trans (b2.mono hb2.size)
        clear b2 d1 a0 a1 a2 a3
        have a0 := RB.cell 0
        have a1 := RB.cell 1
        have a2 := RB.cell 2
        have a3 := RB.cell 3
        simp only [List.getElem?_cons_succ, List.getElem?_cons_zero] at a0 a1 a2 a3
        go_wp2_with fail
        with_reducible refine (c2 _ T1).mono ?_
        rintro e u1 ⟨rfl, b2⟩
        replace RB := RB.on b2
        replace T1 := T1.on b2
        replace hb2 := hb2.trans (b2.mono hb2.size)
        clear b2 c2 a0 a1 a2 a3
        have a0 := RB.cell 0
        have a1 := RB.cell 1
        have a2 := RB.cell 2
        have a3 := RB.cell 3
        simp only [List.getElem?_cons_succ, List.getElem?_cons_zero] at a0 a1 a2 a3
        go_wp2_with fail
        with_reducible refine (d2 _ T1).mono ?_
        rintro e u1 ⟨rfl, b2⟩
        replace RB := RB.on b2
        replace T1 := T1.on b2
        replace hb2 := hb2.trans (b2.mono hb2.size)
        clear b2 d2 a0 a1 a2 a3
        have a0 := RB.cell 0
        have a1 := RB.cell 1
        have a2 := RB.cell 2
        have a3 := RB.cell 3
        simp only [List.getElem?_cons_succ, List.getElem?_cons_zero] at a0 a1 a2 a3
        go_wp2_with fail
        with_reducible refine (c3 _ T1).mono ?_
        rintro e u1 ⟨rfl, b2⟩
        replace RB := RB.on b2
        replace T1 := T1.on b2
        replace hb2 := hb2.trans (b2.mono hb2.size)
        clear b2 c3 a0 a1 a2 a3
        have a0 := RB.cell 0
        have a1 := RB.cell 1
        have a2 := RB.cell 2
        have a3 := RB.cell 3
        simp only [List.getElem?_cons_succ, List.getElem?_cons_zero] at a0 a1 a2 a3
        go_wp2_with fail
        with_reducible refine (d3 _ T1).mono ?_
        rintro e u1 ⟨rfl, b2⟩
        replace RB := RB.on b2
        replace T1 := T1.on b2
        replace hb2 := hb2.trans (b2.mono hb2.size)
        clear b2 d3 a0 a1 a2 a3
        clear RB T1
        go_wp2_with fail
        go_roundg gko
        case measure => omega
        case rel => exact ⟨_, rfl, by omega, by omega, hb2⟩
      · obtain ⟨X1, E1, c1, d1⟩ := Round_both N s R J
        obtain ⟨X2, E2, c2, d2⟩ := Place_both N M s J
        obtain ⟨X3, E3, c3, d3⟩ := Back_both N M s J
        have a0 := RR.cell 8
        have a1 := RR.cell 9
        have a2 := RR.cell 10
        have a3 := RR.cell 11
        simp only [List.getElem?_cons_succ, List.getElem?_cons_zero] at a0 a1 a2 a3
        have RB : RowAt (wr.alloc (.cells #[.int .i64 N, .int .i64 M, .int .i64 R, .int .i64 J] 25)) wr.heap.size 25 [.int .i64 N, .int .i64 M, .int .i64 R, .int .i64 J] := RowAt.new wr 25 #[.int .i64 N, .int .i64 M, .int .i64 R, .int .i64 J]
        have T1 := T0.on ((Below.refl wr.heap.size wr).alloc (Nat.le_refl _) (.cells #[.int .i64 N, .int .i64 M, .int .i64 R, .int .i64 J] 25))
        have hb2 := hb.alloc hb.size (.cells #[.int .i64 N, .int .i64 M, .int .i64 R, .int .i64 J] 25)
        have e1 : ((X1 : Int) != (X1 : Int)) = false := by simp
        have e2 : (E1 != E1) = false := by simp
        have e3 : ((X2 : Int) != (X2 : Int)) = false := by simp
        have e4 : (E2 != E2) = false := by simp
        have e5 : ((X3 : Int) != (X3 : Int)) = false := by simp
        have e6 : (E3 != E3) = false := by simp
        clear hb T0
        go_wp2_with fail
        with_reducible refine (c1 _ T1).mono ?_
        rintro e u1 ⟨rfl, b2⟩
        replace RB := RB.on b2
        replace T1 := T1.on b2
        replace hb2 := hb2.trans (b2.mono hb2.size)
        clear b2 c1 a0 a1 a2 a3
        clear RR
        have a0 := RB.cell 0
        have a1 := RB.cell 1
        have a2 := RB.cell 2
        have a3 := RB.cell 3
        simp only [List.getElem?_cons_succ, List.getElem?_cons_zero] at a0 a1 a2 a3
        go_wp2_with fail
        with_reducible refine (d1 _ T1).mono ?_
        rintro e u1 ⟨rfl, b2⟩
        replace RB := RB.on b2
        replace T1 := T1.on b2
        replace hb2 := hb2.trans (b2.mono hb2.size)
        clear b2 d1 a0 a1 a2 a3
        have a0 := RB.cell 0
        have a1 := RB.cell 1
        have a2 := RB.cell 2
        have a3 := RB.cell 3
        simp only [List.getElem?_cons_succ, List.getElem?_cons_zero] at a0 a1 a2 a3
        go_wp2_with fail
        with_reducible refine (c2 _ T1).mono ?_
        rintro e u1 ⟨rfl, b2⟩
        replace RB := RB.on b2
        replace T1 := T1.on b2
        replace hb2 := hb2.trans (b2.mono hb2.size)
        clear b2 c2 a0 a1 a2 a3
        have a0 := RB.cell 0
        have a1 := RB.cell 1
        have a2 := RB.cell 2
        have a3 := RB.cell 3
        simp only [List.getElem?_cons_succ, List.getElem?_cons_zero] at a0 a1 a2 a3
        go_wp2_with fail
        with_reducible refine (d2 _ T1).mono ?_
        rintro e u1 ⟨rfl, b2⟩
        replace RB := RB.on b2
        replace T1 := T1.on b2
        replace hb2 := hb2.trans (b2.mono hb2.size)
        clear b2 d2 a0 a1 a2 a3
        have a0 := RB.cell 0
        have a1 := RB.cell 1
        have a2 := RB.cell 2
        have a3 := RB.cell 3
        simp only [List.getElem?_cons_succ, List.getElem?_cons_zero] at a0 a1 a2 a3
        go_wp2_with fail
        with_reducible refine (c3 _ T1).mono ?_
        rintro e u1 ⟨rfl, b2⟩
        replace RB := RB.on b2
        replace T1 := T1.on b2
        replace hb2 := hb2.trans (b2.mono hb2.size)
        clear b2 c3 a0 a1 a2 a3
        have a0 := RB.cell 0
        have a1 := RB.cell 1
        have a2 := RB.cell 2
        have a3 := RB.cell 3
        simp only [List.getElem?_cons_succ, List.getElem?_cons_zero] at a0 a1 a2 a3
        go_wp2_with fail
        with_reducible refine (d3 _ T1).mono ?_
        rintro e u1 ⟨rfl, b2⟩
        replace RB := RB.on b2
        replace T1 := T1.on b2
        replace hb2 := hb2.trans (b2.mono hb2.size)
        clear b2 d3 a0 a1 a2 a3
        clear RB T1
        go_wp2_with fail
        go_roundg gko
        case measure => omega
        case rel => exact ⟨_, rfl, by omega, by omega, hb2⟩
      · obtain ⟨X1, E1, c1, d1⟩ := Round_both N s r H
        obtain ⟨X2, E2, c2, d2⟩ := Place_both N m s H
        obtain ⟨X3, E3, c3, d3⟩ := Back_both N m s H
        have a0 := RR.cell 12
        have a1 := RR.cell 13
        have a2 := RR.cell 14
        have a3 := RR.cell 15
        simp only [List.getElem?_cons_succ, List.getElem?_cons_zero] at a0 a1 a2 a3
        have RB : RowAt (wr.alloc (.cells #[.int .i64 N, .int .i64 m, .int .i64 r, .int .i64 H] 25)) wr.heap.size 25 [.int .i64 N, .int .i64 m, .int .i64 r, .int .i64 H] := RowAt.new wr 25 #[.int .i64 N, .int .i64 m, .int .i64 r, .int .i64 H]
        have T1 := T0.on ((Below.refl wr.heap.size wr).alloc (Nat.le_refl _) (.cells #[.int .i64 N, .int .i64 m, .int .i64 r, .int .i64 H] 25))
        have hb2 := hb.alloc hb.size (.cells #[.int .i64 N, .int .i64 m, .int .i64 r, .int .i64 H] 25)
        have e1 : ((X1 : Int) != (X1 : Int)) = false := by simp
        have e2 : (E1 != E1) = false := by simp
        have e3 : ((X2 : Int) != (X2 : Int)) = false := by simp
        have e4 : (E2 != E2) = false := by simp
        have e5 : ((X3 : Int) != (X3 : Int)) = false := by simp
        have e6 : (E3 != E3) = false := by simp
        clear hb T0
        go_wp2_with fail
        with_reducible refine (c1 _ T1).mono ?_
        rintro e u1 ⟨rfl, b2⟩
        replace RB := RB.on b2
        replace T1 := T1.on b2
        replace hb2 := hb2.trans (b2.mono hb2.size)
        clear b2 c1 a0 a1 a2 a3
        clear RR
        have a0 := RB.cell 0
        have a1 := RB.cell 1
        have a2 := RB.cell 2
        have a3 := RB.cell 3
        simp only [List.getElem?_cons_succ, List.getElem?_cons_zero] at a0 a1 a2 a3
        go_wp2_with fail
        with_reducible refine (d1 _ T1).mono ?_
        rintro e u1 ⟨rfl, b2⟩
        replace RB := RB.on b2
        replace T1 := T1.on b2
        replace hb2 := hb2.trans (b2.mono hb2.size)
        clear b2 d1 a0 a1 a2 a3
        have a0 := RB.cell 0
        have a1 := RB.cell 1
        have a2 := RB.cell 2
        have a3 := RB.cell 3
        simp only [List.getElem?_cons_succ, List.getElem?_cons_zero] at a0 a1 a2 a3
        go_wp2_with fail
        with_reducible refine (c2 _ T1).mono ?_
        rintro e u1 ⟨rfl, b2⟩
        replace RB := RB.on b2
        replace T1 := T1.on b2
        replace hb2 := hb2.trans (b2.mono hb2.size)
        clear b2 c2 a0 a1 a2 a3
        have a0 := RB.cell 0
        have a1 := RB.cell 1
        have a2 := RB.cell 2
        have a3 := RB.cell 3
        simp only [List.getElem?_cons_succ, List.getElem?_cons_zero] at a0 a1 a2 a3
        go_wp2_with fail
        with_reducible refine (d2 _ T1).mono ?_
        rintro e u1 ⟨rfl, b2⟩
        replace RB := RB.on b2
        replace T1 := T1.on b2
        replace hb2 := hb2.trans (b2.mono hb2.size)
        clear b2 d2 a0 a1 a2 a3
        have a0 := RB.cell 0
        have a1 := RB.cell 1
        have a2 := RB.cell 2
        have a3 := RB.cell 3
        simp only [List.getElem?_cons_succ, List.getElem?_cons_zero] at a0 a1 a2 a3
        go_wp2_with fail
        with_reducible refine (c3 _ T1).mono ?_
        rintro e u1 ⟨rfl, b2⟩
        replace RB := RB.on b2
        replace T1 := T1.on b2
        replace hb2 := hb2.trans (b2.mono hb2.size)
        clear b2 c3 a0 a1 a2 a3
        have a0 := RB.cell 0
        have a1 := RB.cell 1
        have a2 := RB.cell 2
        have a3 := RB.cell 3
        simp only [List.getElem?_cons_succ, List.getElem?_cons_zero] at a0 a1 a2 a3
        go_wp2_with fail
        with_reducible refine (d3 _ T1).mono ?_
        rintro e u1 ⟨rfl, b2⟩
        replace RB := RB.on b2
        replace T1 := T1.on b2
        replace hb2 := hb2.trans (b2.mono hb2.size)
        clear b2 d3 a0 a1 a2 a3
        clear RB T1
        go_wp2_with fail
        go_roundg gko
        case measure => omega
        case rel => exact ⟨_, rfl, by omega, by omega, hb2⟩
    | zero =>
      obtain rfl : i0 = 4 := by omega
      have A3 : At w wr := HT.out.step hb
      clear hi0 hi1 RQ hb A2
      obtain ⟨nm, enm⟩ : ∃ nm, min n 0 = nm := ⟨_, rfl⟩
      have hnm : mayB nm m 0 = false := by
        cases e : mayB nm m 0
        · rfl
        · have := (mayB_iff _ _ _).1 e; omega
      have hZZ : mayB N (91 + Z) 0 = false := by
        cases e : mayB N (91 + Z) 0
        · rfl
        · have := (mayB_iff _ _ _).1 e; omega
      have oZ : IntKind.i64.wrap (91 + (Z : Int)) = 91 + (Z : Int) := IntWalk.i64_in _ (by omega)
      have g1 : ∀ W, Tab W → Calls Tryd.prog 16 #[.int .i64 N, .int .i64 M, .int .u64 s] W fun e w' => ∃ g, e = .returned (.tuple #[.slice (some ⟨g, 0, none⟩) N N, .int .i64 0]) ∧ Ints w' w'.heap.size (.slice (some ⟨g, 0, none⟩) N N) ((runL (roundS N s) N (List.range M)).map fun n : Nat => (n : Int)) ∧ Below W.heap.size W w' := fun W hT =>
        (All_yes N M s W hT (by omega) (by omega) (by omega)).mono fun e w' ⟨g, h1, _, h2, h3⟩ => ⟨g, h1, by have := ints_row h2; rwa [runL_length] at this, h3⟩
      have g2 := fun W => rAll_yes N M s W (by omega) (by omega) (by omega)
      have g3 := fun W => All_no nm m s W hnm
      have g4 := fun W => All_no N (91 + Z) s W hZZ
      have hL : ((runL (roundS N s) N (List.range M)).map fun n : Nat => (n : Int)).length ≤ 1000000 := by rw [List.length_map, runL_length]; omega
      generalize ((runL (roundS N s) N (List.range M)).map fun n : Nat => (n : Int)) = L at *
      clear hnm hZZ
      have T3 := A3.1
      have B3 := A3.2
      go_wp2_with fail
      with_reducible refine (g1 _ T3).mono ?_
      rintro e w4 ⟨g, rfl, ha, b4⟩
      have T4 := T3.on b4
      have B4 := bstep B3 b4 B3.size
      clear g1 T3 b4 B3
      go_wp2_with fail
      with_reducible refine (g2 _).mono ?_
      rintro e w5 ⟨v, rfl, hv, b5⟩
      have T5 := T4.on b5
      have B5 := bstep B4 b5 B4.size
      replace ha := ha.on b5
      clear g2 T4 b5 B4
      go_wp2_with fail
      with_reducible refine (g3 _).mono ?_
      rintro e w6 ⟨rfl, b6⟩
      have A6 : At w w6 := ⟨T5.on b6, bstep B5 b6 B5.size⟩
      replace ha := ha.on b6
      replace hv := hv.on b6
      clear g3 T5 b6 B5
      have hs6 : w6.heap.size = w6.heap.size := rfl
      have cZ' : Calls Tryd.prog 9 #[.int .i64 m, .int .i64 1000] w6 fun e w' => e = .returned (.int .i64 Z) ∧ w6 = w' := by
        have hP := HZ.out
        exact (pick9_any m 1000 w6 bm (by omega) (by omega)).mono fun e w' ⟨h1, h2⟩ => ⟨by rw [h1, hP], h2⟩
      go_wp2_with fail
      with_reducible refine cZ'.mono ?_
      rintro e w7 ⟨rfl, rfl⟩
      clear cZ' hs6
      go_wp2_with fail
      with_reducible refine (g4 _).mono ?_
      rintro e w8 ⟨rfl, b8⟩
      replace ha := ha.on b8
      replace hv := hv.on b8
      have A8 := A6.step b8
      clear g4 b8 A6
      have g5 := Ints_same _ _ L w8 ha hv hL
      go_wp2_with fail
      with_reducible refine g5.mono ?_
      rintro e w9 ⟨rfl, b9⟩
      have A9 := A8.step b9
      clear g5 b9 A8 ha hv
      go_wp2_with fail
      go_ret
      exact ⟨rfl, A9⟩
end Go.Proofs.YtnbgmopjlpchkaaDoor
