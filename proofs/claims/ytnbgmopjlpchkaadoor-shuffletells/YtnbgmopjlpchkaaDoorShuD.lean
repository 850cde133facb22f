/- shuffle.swap. -/
import Derived.Test.YtnbgmopjlpchkaaDoorShuC
namespace Go.Proofs.YtnbgmopjlpchkaaDoor
open Go.RowKit Go.Shelf

abbrev intsV (l : List Nat) : List Value := l.map fun n : Nat => Value.int .i64 (n : Int)
theorem intsV_get {l : List Nat} {j x : Nat} (h : l[j]? = some x) : (intsV l)[j]? = some (.int .i64 (x : Int)) := by simp [intsV, h]
theorem intsV_set (l : List Nat) (j x : Nat) : (intsV l).set j (.int .i64 (x : Int)) = intsV (l.set j x) := by simp [intsV, List.map_set]
abbrev swapS (N seed R : Nat) (l : List Nat) (k : Nat) : List Nat := swapTo N (foldB [seed, R] % N) (fun t => bitOf [seed, R, t]) l k

set_option maxRecDepth 100000 in
set_option maxHeartbeats 2000000 in
theorem swap_any (N seed R g : Nat) (l : List Nat) (w : World) (hT : Tab w) (hg : 0 < g) (h1 : 1 ≤ N) (h2 : N ≤ 65536) (h4 : R < 90) (hl : l.length = N) (hrow : RowAt w g 3 (intsV l)) :
    Calls Tryd.prog 28 #[.slice (some ⟨g, 0, none⟩) N N, .int .u64 seed, .int .i64 R] w fun e w' => e = .returned (.tuple #[]) ∧ RowAt w' g 3 (intsV (swapS N seed R l N)) ∧ But g w w' := by
  have cM := fun W hT => mates_any N seed R W hT h1 h2 h4
  obtain ⟨p, hp⟩ : ∃ p, foldB [seed, R] % N = p := ⟨_, rfl⟩
  have hpl : p < N := by rw [← hp]; exact Nat.mod_lt _ (by omega)
  rw [hp] at cM
  unfold swapS
  rw [hp]
  obtain ⟨bit, hbit⟩ : ∃ bit : Nat → Bool, bit = fun t => bitOf [seed, R, t] := ⟨_, rfl⟩
  rw [← hbit]
  have cC : ∀ (I f : Nat) (W : World), Tab W → I < 65536 → f < 65536 → Calls Tryd.prog 30 #[.int .u64 seed, .int .i64 R, .int .i64 I, .int .i64 f] W fun e w' => e = .returned (.bool (bit (max I f))) ∧ Below W.heap.size W w' := fun I f W hT hI hf => by
    rw [hbit]; exact change_any seed R I f _ W hT h4 hI hf rfl
  clear hp hbit
  go_enter Tryd.func28, Tryd.ntmps28
  go_wp2_with fail
  with_reducible refine (cM _ hT).mono ?_
  rintro e w1 ⟨v, rfl, ⟨a, b, rfl, la, lb, k1, k2⟩, b1⟩
  clear cM
  have hr1 := hrow.on b1
  have hB1 := But.of_below (g := g) b1
  go_wp2_with fail
  have hgl := hrow.lt
  go_loopw [16] (fun i wr => ∃ k : Nat, k ≤ N ∧ i = .int .i64 k ∧ RowAt wr g 3 (intsV (swapTo N p bit l k)) ∧ But g w1 wr) (fun i _ => N - (intOf i).toNat)
  case atStart => exact ⟨0, Nat.zero_le _, rfl, by rw [swapTo_zero hl]; exact hr1, But.refl _ _⟩
  case round =>
    obtain ⟨k, hk, rfl, hr, hb⟩ := hrel
    by_cases hlt : k < N
    · have m1 : RowAt wr a 3 [.int .i64 (p : Int)] := hb.rowAt k1 (by omega)
      have m2 : RowAt wr b 3 [.int .i64 (N : Int)] := hb.rowAt k2 (by omega)
      have hTr : Tab wr := by
        have hc : ∀ i, wr.cell? ⟨0, i, none⟩ = w.cell? ⟨0, i, none⟩ := fun i => (hb.cell (p := ⟨0, i, none⟩) (Nat.lt_of_lt_of_le hT.lt b1.size) (by simp; omega)).trans (b1.cell (p := ⟨0, i, none⟩) hT.lt)
        exact ⟨(hc 0).trans hT.1, (hc 1).trans hT.2.1, (hc 2).trans hT.2.2⟩
      obtain ⟨f, hf⟩ : ∃ f, mateS N p k = f := ⟨_, rfl⟩
      have hfl : f < N := by rw [← hf]; exact mateS_lt (by omega)
      have cF := fun W k1 k2 => matef_any N p k f a b W h2 hpl hlt hf k1 k2
      by_cases hkf : k < f
      · obtain ⟨x, hx⟩ : ∃ x, bit (max k f) = x := ⟨_, rfl⟩
        have cX := fun W hT => cC k f W hT (by omega) (by omega)
        rw [hx] at cX
        cases x
        · have HS := Lib.hid (swapTo_skip (l := l) (bit := bit) hpl k hlt (.inr (by rw [hf]; exact hx)))
          have hd : ((k : Int) < (f : Int)) = True := eq_true (by omega)
          clear hf cC
          go_wp2_with fail
          with_reducible refine (cF _ m1 m2).mono ?_
          rintro e w2 ⟨rfl, hb2⟩
          have hr2 := hr.on hb2
          have hT2 := hTr.on hb2
          have hw2 := hb.trans (But.of_below hb2)
          clear cF m1 m2 hb hb2 hr hTr
          go_wp2_with fail
          with_reducible refine (cX _ hT2).mono ?_
          rintro e w3 ⟨rfl, hb3⟩
          have hr3 := hr2.on hb3
          have hw3 := hw2.trans (But.of_below hb3)
          clear cX hr2 hT2 hw2 hb3
          go_wp2_with fail
          go_roundw
          case rel => exact ⟨k + 1, by omega, by go_num, by rw [HS.out]; exact hr3, hw3⟩
          case measure => simp [intOf]; omega
        · have HS := swapTo_swap (l := l) (bit := bit) hpl k hlt (by rw [hf]; exact hkf) (by rw [hf]; exact hx)
          rw [hf] at HS
          obtain ⟨g1, g2, g3⟩ := HS
          have hd : ((k : Int) < (f : Int)) = True := eq_true (by omega)
          clear hf cC
          go_wp2_with fail
          with_reducible refine (cF _ m1 m2).mono ?_
          rintro e w2 ⟨rfl, hb2⟩
          have hr2 := hr.on hb2
          have hT2 := hTr.on hb2
          have hw2 := hb.trans (But.of_below hb2)
          clear cF m1 m2 hb hb2 hr hTr
          go_wp2_with fail
          with_reducible refine (cX _ hT2).mono ?_
          rintro e w3 ⟨rfl, hb3⟩
          have hr3 := hr2.on hb3
          have hw3 := hw2.trans (But.of_below hb3)
          clear cX hr2 hT2 hw2 hb3
          have q1 : w3.cell? ⟨g, k, none⟩ = some (.int .i64 (l.getD k 0 : Nat)) := by rw [hr3.cell]; exact intsV_get g1
          have q2 : w3.cell? ⟨g, f, none⟩ = some (.int .i64 (l.getD f 0 : Nat)) := by rw [hr3.cell]; exact intsV_get g2
          have z1 := hr3.frozen k
          have z2 := hr3.frozen f
          have R1 := (hr3.set k (.int .i64 (l.getD f 0 : Nat))).set f (.int .i64 (l.getD k 0 : Nat))
          rw [intsV_set, intsV_set, ← g3] at R1
          have R2 := (hw3.setCell k (.int .i64 (l.getD f 0 : Nat))).setCell f (.int .i64 (l.getD k 0 : Nat))
          have hne : ¬ (f = k) := by omega
          have hne2 : ¬ (k = f) := by omega
          clear g1 g2 g3 hr3 hw3
          generalize l.getD k 0 = X at *
          generalize l.getD f 0 = Y at *
          go_wp2_with fail
          go_region
          all_goals go_wp2_with fail
          all_goals go_roundw
          case rel => exact ⟨k + 1, by omega, by go_num, R1, R2.drew⟩
          case measure => simp [intOf]; omega
      · have HS := Lib.hid (swapTo_skip (l := l) (bit := bit) hpl k hlt (.inl (by rw [hf]; omega)))
        have hd : ((k : Int) < (f : Int)) = False := eq_false (by omega)
        clear hf cC
        go_wp2_with fail
        with_reducible refine (cF _ m1 m2).mono ?_
        rintro e w2 ⟨rfl, hb2⟩
        have hr2 := hr.on hb2
        have hw2 := hb.trans (But.of_below hb2)
        clear cF m1 m2 hb hb2 hr
        go_wp2_with fail
        go_roundw
        case rel => exact ⟨k + 1, by omega, by go_num, by rw [HS.out]; exact hr2, hw2⟩
        case measure => simp [intOf]; omega
    · obtain rfl : k = N := by omega
      go_wp2_with fail
      go_end0
      exact ⟨rfl, hr, hB1.trans hb⟩
end Go.Proofs.YtnbgmopjlpchkaaDoor
