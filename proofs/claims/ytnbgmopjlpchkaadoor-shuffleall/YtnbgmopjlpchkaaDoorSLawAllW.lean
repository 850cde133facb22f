/- The walk of the law ShuffleAll. -/
import Derived.Test.YtnbgmopjlpchkaaDoorShuG
namespace Go.Proofs.YtnbgmopjlpchkaaDoor
open Go.RowKit

abbrev boolsV (l : List Bool) : List Value := l.map fun b => Value.bool b
/-- Which numbers have been met, of the first x. -/
def hadL (N : Nat) (f : Nat → Nat) (x : Nat) : List Bool := (List.range N).map fun v => (List.range x).any fun y => f y == v
theorem hadL_zero (N : Nat) (f : Nat → Nat) : boolsV (hadL N f 0) = List.replicate N (.bool false) := by
  apply List.ext_getElem
  · simp [hadL]
  · intro j h1 h2; simp [hadL]
theorem hadL_get {N : Nat} {f : Nat → Nat} {x : Nat} (hv : f x < N) (hi : ∀ y, y < x → f y ≠ f x) : (boolsV (hadL N f x))[f x]? = some (.bool false) := by
  simp [hadL, List.getElem?_range hv]
  exact hi
theorem hadL_set {N : Nat} {f : Nat → Nat} {x : Nat} : (boolsV (hadL N f x)).set (f x) (.bool true) = boolsV (hadL N f (x + 1)) := by
  apply List.ext_getElem
  · simp [hadL]
  · intro j h1 h2
    rw [List.getElem_set]
    by_cases e : f x = j
    · subst e
      simp [hadL, List.range_succ]
    · simp [hadL, List.range_succ, e]
theorem info_bool : (Tryd.prog.info? 4).map (fun i => (i.zero, i.size, i.bytes)) = some (some (.bool false), 1, 1) := by kernel_rfl

set_option maxHeartbeats 2000000 in
set_option maxRecDepth 100000 in
theorem all_calls (n : Int) (wn : (Lit.int .i64 n).wf = true) (m : Int) (wm : (Lit.int .i64 m).wf = true) (s : Int) (ws : (Lit.int .u64 s).wf = true) (i : Int) (wi : (Lit.int .i64 i).wf = true) (w : World) (hT : Tab w) :
    Calls Tryd.prog 6 #[.int .i64 n, .int .i64 m, .int .u64 s, .int .i64 i] w fun e w' => e = .returned (.bool true) ∧ Below w.heap.size w w' := by
  refine Calls.mono (R := fun e w' => e = .returned (.bool true) ∧ At w w') ?_ fun _ _ h => ⟨h.1, h.2.2⟩
  have A0 := At.refl hT
  have bn := i64_of_wf wn
  have bm := i64_of_wf wm
  obtain ⟨s, rfl, ls⟩ := u64_of_wf ws
  have bi := i64_of_wf wi
  obtain ⟨P, hP⟩ : ∃ x, pickS n 60 = x := ⟨_, rfl⟩
  have lP := pickS_lt n 60 (by omega)
  rw [hP] at lP
  have cP : ∀ W, At w W → Calls Tryd.prog 9 #[.int .i64 n, .int .i64 60] W fun e w' => e = .returned (.int .i64 P) ∧ At w w' := fun W hA => an_pick n 60 P hP bn (by omega) (by omega) hA
  obtain ⟨N, hN⟩ : ∃ N : Nat, N = P + 1 := ⟨_, rfl⟩
  have eN : (1 : Int) + (P : Int) = (N : Int) := by omega
  obtain ⟨M, hM⟩ : ∃ x, pickS m 13 = x := ⟨_, rfl⟩
  have lM := pickS_lt m 13 (by omega)
  rw [hM] at lM
  have cM : ∀ W, At w W → Calls Tryd.prog 9 #[.int .i64 m, .int .i64 13] W fun e w' => e = .returned (.int .i64 M) ∧ At w w' := fun W hA => an_pick m 13 M hM bm (by omega) (by omega) hA
  obtain ⟨I, hI⟩ : ∃ x, pickS i (N : Int) = x := ⟨_, rfl⟩
  have lI := pickS_lt i (N : Int) (by omega)
  rw [hI] at lI
  have cI : ∀ W, At w W → Calls Tryd.prog 9 #[.int .i64 i, .int .i64 (N : Int)] W fun e w' => e = .returned (.int .i64 I) ∧ At w w' := fun W hA => an_pick i (N : Int) I hI bi (by omega) (by omega) hA
  obtain ⟨F, hF⟩ : ∃ F, F = placeS (roundS N s) M := ⟨_, rfl⟩
  have hFlt : ∀ x, x < N → F x < N := fun x hx => by rw [hF]; exact runS_lt stS_lt _ hx
  have hFin : ∀ x y, x < N → y < N → F x = F y → x = y := fun x y hx hy e => by rw [hF] at e; exact (place_inj stS_lt stS_st M hx hy).1 e
  have d1 : ∀ W, At w W → Calls Tryd.prog 16 #[.int .i64 N, .int .i64 M, .int .u64 s] W fun e w' => ∃ g, e = .returned (.tuple #[.slice (some ⟨g, 0, none⟩) N N, .int .i64 0]) ∧ RowAt w' g 3 (intsV ((List.range N).map F)) ∧ At w w' := fun W hA => by
    rw [hF]
    exact (All_yes N M s W hA.1 (by omega) (by omega) (by omega)).mono fun e w' ⟨g, h1, _, h2, h3⟩ => ⟨g, h1, h2, hA.step h3⟩
  have lN : 1 ≤ N ∧ N ≤ 60 := by omega
  have lI : I < N := by omega
  have HP := Lib.hid hI
  have HX := Lib.hid (show placeS (roundS N s) M I = F I by rw [hF])
  clear hP hM hI hN hF
  obtain ⟨i0, hi, hz0, hz1, hz2⟩ := info_parts info_bool
  obtain ⟨Z, hZ⟩ : ∃ Z, Z = madeCells (Value.bool false).cells (N * i0.size) := ⟨_, rfl⟩
  have hZs : Z.toList = boolsV (hadL N F 0) := by rw [hadL_zero, hZ, hz1, Nat.mul_one]; exact toList_madeCells_one _ _
  have hmk : ∀ W : World, (Instr.makeSlice 37 (.int .i64 (N : Int)) (.int .i64 (N : Int))).run Tryd.prog W = .ok (.slice (some ⟨W.heap.size, 0, none⟩) N N) (W.alloc (.cells Z 4)) := fun W => by
    have hr := run_make (P := Tryd.prog) W 37 4 i0 (.bool false) Tryd.underlying37 hi hz0 .i64 .i64 (N : Int) (N : Int) (by omega) (by omega) (by rw [hz2]; omega) (by omega)
    rw [hZ]
    simpa using hr
  clear hZ hi hz0 hz1 hz2
  go_enter Tryd.func6, Tryd.ntmps6
  go_wp2_with (first
    | (with_reducible refine (an_awake (by assumption)).mono ?_; rintro e w1 ⟨rfl, A1⟩)
    | (with_reducible refine (cP _ (by assumption)).mono ?_; rintro e w1 ⟨rfl, A1⟩)
    | (with_reducible refine (cM _ (by assumption)).mono ?_; rintro e w1 ⟨rfl, A1⟩))
  with_reducible refine (d1 _ (by assumption)).mono ?_
  rintro e w3 ⟨g, rfl, hr, A3⟩
  clear d1 cP cM
  go_wp2_with fail
  have r1 := RowAt.new w3 4 Z
  rw [hZs] at r1
  have r0 := hr.alloc (.cells Z 4)
  have A4 := A3.alloc (.cells Z 4)
  have hgh : g < w3.heap.size := hr.lt
  have hgB : w.heap.size ≤ w3.heap.size := A3.2.size
  clear hmk hZs hr
  generalize w3.heap.size = h at *
  generalize w3.alloc (.cells Z 4) = w4 at *
  clear cI A1 A0
  go_loopw [15] (fun x wr => ∃ k : Nat, k ≤ N ∧ x = .int .i64 k ∧ RowAt wr g 3 (intsV ((List.range N).map F)) ∧ RowAt wr h 4 (boolsV (hadL N F k)) ∧ Below w.heap.size w wr) (fun x _ => N - (intOf x).toNat)
  case atStart => exact ⟨0, Nat.zero_le _, rfl, r0, r1, A4.2⟩
  case round =>
    obtain ⟨k, hk, rfl, b0, b1, hb⟩ := hrel
    clear r0 r1 A4 A3
    by_cases hlt : k < N
    · have lV := hFlt k hlt
      have q0 : wr.cell? ⟨g, k, none⟩ = some (.int .i64 (F k : Int)) := by rw [b0.cell]; exact intsV_get (by simp [List.getElem?_range hlt])
      have q1 : wr.cell? ⟨h, F k, none⟩ = some (.bool false) := by rw [b1.cell]; exact hadL_get lV (fun y hy e => by have := hFin y k (by omega) hlt e; omega)
      have z1 := b1.frozen (F k)
      have R0 := b0.far (p := ⟨h, F k, none⟩) (by simp; omega) (.bool true)
      have R1 := b1.set (F k) (.bool true)
      rw [hadL_set] at R1
      have RB := hb.setCell (p := ⟨h, F k, none⟩) hgB (.bool true)
      have f1 := eq_true (show (0 : Int) ≤ (F k : Int) by omega)
      have f2 := eq_true (show (F k : Int) < (N : Int) by omega)
      have f3 := eq_true lV
      have f4 := eq_false (show ¬ ((F k : Int) < 0) by omega)
      have f5 := eq_false (show ¬ ((N : Int) ≤ (F k : Int)) by omega)
      clear hFlt hFin b0 b1 hb lV
      generalize F k = V at *
      go_wp2_with fail
      go_roundw
      case rel => exact ⟨k + 1, by omega, by go_num, R0, R1, RB⟩
      case measure => simp [intOf]; omega
    · obtain rfl : k = N := by omega
      have A5 : At w wr := ⟨hT.below hb hT.lt, hb⟩
      have B0 : ∀ W, Below wr.heap.size wr W → W.cell? ⟨g, I, none⟩ = some (.int .i64 (F I : Int)) := fun W hb => by rw [(b0.on hb).cell]; exact intsV_get (by simp [List.getElem?_range lI])
      have cI : ∀ W, Below wr.heap.size wr W → At w W → Calls Tryd.prog 9 #[.int .i64 i, .int .i64 k] W fun e w' => e = .returned (.int .i64 I) ∧ At w w' ∧ Below wr.heap.size wr w' := fun W hB hA => by
        have hP := HP.out
        exact (pick9_any i k W bi (by omega) (by omega)).mono fun e w' ⟨h1, h2⟩ => ⟨by rw [h1, hP], h2 ▸ hA, h2 ▸ hB⟩
      have d2 : ∀ W, Below wr.heap.size wr W → At w W → Calls Tryd.prog 12 #[.int .i64 k, .int .i64 M, .int .u64 s, .int .i64 I] W fun e w' => e = .returned (.tuple #[.int .i64 (F I), .int .i64 0]) ∧ At w w' ∧ Below wr.heap.size wr w' := fun W hB hA => by
        have hX := HX.out
        exact (Place_yes k M s I W hA.1 (by omega) (by omega) lI (by omega)).mono fun e w' ⟨h1, h2⟩ => ⟨by rw [h1, hX], hA.step h2, bstep hB h2 hB.size⟩
      generalize F I = V at *
      have Bq := Below.refl wr.heap.size wr
      clear b0 b1 hFlt hFin
      go_wp2_with fail
      with_reducible refine (cI _ Bq A5).mono ?_
      rintro e w6 ⟨rfl, A6, B6⟩
      go_wp2_with fail
      with_reducible refine (d2 _ B6 A6).mono ?_
      rintro e w7 ⟨rfl, A7, B7⟩
      go_wp2_with fail
      with_reducible refine (cI _ B7 A7).mono ?_
      rintro e w8 ⟨rfl, A8, B8⟩
      have q8 := B0 _ B8
      go_wp2_with fail
      go_ret
      exact ⟨rfl, A8⟩
end Go.Proofs.YtnbgmopjlpchkaaDoor
