/- Layer 13: slices.Clone, slices.Grow and slices.Concat of marks. -/
import Derived.Test.YtcamhaeelkjigaaSenV
import Derived.Lib.AppendZerosOnto
namespace Go.Proofs.Ytcamhaeelkjigaa
open Go.RowKit Go.Lib

theorem newsM_all {w W : World} {A : Option Addr} {c : Nat} {l : List Mk} (hP : Mks w w.heap.size (.slice A l.length c) l) (hb : Below w.heap.size w W) : 0 < l.length → ∃ ad, A = some ad ∧ ∀ j u, (l.flatMap markCells)[j]? = some u → W.cell? (ad.add j) = some u := by
  have h := hP.news hb l.length (Nat.le_refl _)
  rwa [List.take_length] at h
theorem zeroCells_sizeM (cs : Array Value) (n : Nat) : (Builtin.zeroCells cs n).size = n * cs.size := by simp [Builtin.zeroCells]

theorem own_lessM {w : World} {b b' : Nat} {e : TypeId} {size n : Nat} {v : Value} {xs : List Value} (h : w.ownsRow b e size v n xs) (hb : b' ≤ b) : w.ownsRow b' e size v n xs := by
  refine ⟨h.1, ?_⟩
  rcases h.2 with k | ⟨g, cap, cur, hv, h1, h2⟩
  · exact .inl k
  · exact .inr ⟨g, cap, cur, hv, Nat.le_trans hb h1, h2⟩

set_option maxHeartbeats 2000000 in
set_option maxRecDepth 100000 in
theorem sGrow_any (n : Nat) (w : World) (hn : n ≤ 1000000) :
    Calls Try.prog 33 #[.slice none 0 0, .int .i64 (n : Int)] w fun e w' => ∃ v, e = .returned v ∧ w'.ownsRow w.heap.size 25 3 v 0 [] ∧ Below w.heap.size w w' := by
  obtain ⟨i0, hi, hz0, hz1, hz2⟩ := info_partsM info_mark
  by_cases h0 : n = 0
  · subst h0
    go_enter Try.func33, Try.ntmps33
    go_wp2_with fail
    go_ret
    exact ⟨_, rfl, World.ownsRow_nil _ _ _ _, Below.refl _ _⟩
  · have hGn : n ≤ grownCap w n 0 25 := grownCap_ge w _ _ _
    have hGm := grownCap_le_maxLen w n 0 25 (by unfold maxLen; omega)
    have eG : (Question.appendCap n 0 25).cut (w.tape w.drawn (Question.appendCap n 0 25)) = grownCap w n 0 25 := rfl
    have hby : Try.t25.bytes = 24 := by kernel_rfl
    have hfit := growslice_fits (show 0 < n by omega) (show n * 24 ≤ 140737488355328 by omega)
    have k1 : (281474976710656 < (n : Int) * (Try.t25.bytes : Int)) = False := eq_false (by rw [hby]; omega)
    have k2 : (281474976710656 < Builtin.nextslicecap n 0 * Try.t25.bytes) = False := eq_false (by rw [hby]; omega)
    have k3 : (n * 3 = 0) = False := eq_false (by omega)
    generalize grownCap w n 0 25 = G at *
    obtain ⟨M, hM⟩ : ∃ M, M = Builtin.zeroCells #[Value.int IntKind.i64 0, Value.int IntKind.i64 0, Value.int IntKind.i64 0] n ++ Builtin.zeroCells #[Value.int IntKind.i64 0, Value.int IntKind.i64 0, Value.int IntKind.i64 0] (G - n) := ⟨_, rfl⟩
    have hMs : M.size = G * 3 := by
      rw [hM, Array.size_append, zeroCells_sizeM, zeroCells_sizeM]
      show n * 3 + (G - n) * 3 = G * 3
      omega
    have hown := World.ownsRow_made (base := w.heap.size) (e := 25) (size := 3) w M G (Nat.le_refl _) hGm hMs
    have hbel := ((Below.refl w.heap.size w).alloc (Nat.le_refl _) (.cells M 25)).drew
    have hG63 : G ≤ 9223372036854775807 := by unfold maxLen at hGm; omega
    have hn1 : ¬ ((n : Int) < 0) := by omega
    have hn2 : (n : Int) - 0 = n := by omega
    have HM := Lib.hid hM
    clear hi hz0 hz1 hz2 hM hMs hGm hfit hby
    go_enter Try.func33, Try.ntmps33
    go_wp2_with fail
    all_goals first
      | exact absurd ‹281474976710656 < (n : Int) * (Try.t25.bytes : Int)› (by rw [k1]; exact id)
      | exact absurd ‹281474976710656 < Builtin.nextslicecap n 0 * Try.t25.bytes› (by rw [k2]; exact id)
      | skip
    go_ret
    rw [← HM.out]
    exact ⟨_, rfl, hown, hbel⟩

/-- The first k lists, one behind the other. -/
def catToM (xs : List (Value × List Mk)) (k : Nat) : List Mk := ((xs.take k).map (·.2)).flatten
theorem catTo_succM {xs : List (Value × List Mk)} {k : Nat} (h : k < xs.length) : catToM xs (k + 1) = catToM xs k ++ (xs[k]).2 := by
  unfold catToM
  rw [List.take_succ_eq_append_getElem h, List.map_append, List.flatten_append]; simp
theorem catTo_leM (xs : List (Value × List Mk)) : ∀ {m k : Nat}, k ≤ m → m ≤ xs.length → (catToM xs k).length ≤ (catToM xs m).length
  | 0, k, h, _ => by obtain rfl : k = 0 := by omega
                     exact Nat.le_refl _
  | m + 1, k, h, hm => by
    rcases Nat.lt_or_ge m k with h1 | h1
    · obtain rfl : k = m + 1 := by omega
      exact Nat.le_refl _
    · have := catTo_leM xs h1 (by omega)
      rw [catTo_succM (by omega), List.length_append]; omega

set_option maxHeartbeats 4000000 in
set_option maxRecDepth 100000 in
theorem sConcat_any (g c : Nat) (t : TypeId) (xs : List (Value × List Mk)) (w : World) (hr : RowAt w g t (xs.map (·.1))) (hx : ∀ x ∈ xs, Mks w w.heap.size x.1 x.2) (hn : xs.length ≤ 100) (h9 : (catToM xs xs.length).length ≤ 1000000) :
    Calls Try.prog 26 #[.slice (some ⟨g, 0, none⟩) xs.length c] w fun e w' => ∃ v, e = .returned v ∧ w'.ownsRow w.heap.size 25 3 v (catToM xs xs.length).length ((catToM xs xs.length).flatMap markCells) ∧ Below w.heap.size w w' := by
  obtain ⟨i0, hi, hz0, hz1, hz2⟩ := info_partsM info_mark
  go_enter Try.func26, Try.ntmps26
  go_wp2_with fail
  go_loopw [3, 11] (fun s i wr => ∃ k : Nat, k ≤ xs.length ∧ s = .int .i64 ((catToM xs k).length : Nat) ∧ i = .int .i64 (k : Nat) ∧ Below w.heap.size w wr) (fun _ i _ => xs.length - (intOf i).toNat)
  case atStart => exact ⟨0, Nat.zero_le _, rfl, rfl, Below.refl _ _⟩
  case round =>
    obtain ⟨k, hk, rfl, rfl, hb⟩ := hrel
    by_cases hlt : k < xs.length
    · have hc0 : wr.cell? ⟨g, k, none⟩ = some (xs[k]).1 := by rw [(hr.on hb).cell]; simp [List.getElem?_eq_getElem hlt]
      obtain ⟨A, ac, hA, hac⟩ := (hx _ (List.getElem_mem hlt)).form
      rw [hA] at hc0
      have hle := catTo_leM xs (Nat.le_refl xs.length |> fun _ => (show k + 1 ≤ xs.length by omega)) (Nat.le_refl _)
      have HS := Lib.hid (catTo_succM hlt)
      rw [HS.out, List.length_append] at hle
      have hneg : (((catToM xs k).length : Int) + ((xs[k]).2.length : Int) < 0) = False := eq_false (by omega)
      clear hA
      go_wp2_with fail
      go_roundw
      case rel => exact ⟨k + 1, by omega, by rw [HS.out, List.length_append]; go_num, by go_num, hb⟩
      case measure => simp [intOf]; omega
    · obtain rfl : k = xs.length := by omega
      have hz := hb.size
      go_wp2_with fail
      with_reducible refine (sGrow_any _ wr h9).mono ?_
      rintro e w1 ⟨v1, rfl, own1, b1⟩
      have hb1 := hb.trans (b1.mono hz)
      have own1' : w1.ownsRow w.heap.size 25 3 v1 (catToM xs 0).length ((catToM xs 0).flatMap markCells) := own_lessM own1 hz
      clear own1 b1 hb
      go_wp2_with fail
      go_loopw [6, 27] (fun o i wr => ∃ k : Nat, k ≤ xs.length ∧ i = .int .i64 (k : Nat) ∧ wr.ownsRow w.heap.size 25 3 o (catToM xs k).length ((catToM xs k).flatMap markCells) ∧ Below w.heap.size w wr) (fun _ i _ => xs.length - (intOf i).toNat)
      case atStart => exact ⟨0, Nat.zero_le _, rfl, own1', hb1⟩
      case round =>
        obtain ⟨k, hk, rfl, hown, hb⟩ := hrel
        have hz2w := hb.size
        by_cases hlt : k < xs.length
        · have hc0 : wr.cell? ⟨g, k, none⟩ = some (xs[k]).1 := by rw [(hr.on hb).cell]; simp [List.getElem?_eq_getElem hlt]
          have hP := hx _ (List.getElem_mem hlt)
          obtain ⟨A, ac, hA, hac⟩ := hP.form
          rw [hA] at hc0 hP
          have hle := catTo_leM xs (show k + 1 ≤ xs.length by omega) (Nat.le_refl _)
          have HS := Lib.hid (catTo_succM hlt)
          rw [HS.out, List.length_append] at hle
          clear hA own1' hb1
          generalize (xs[k]).2 = l at *
          go_wp2_with (at_builtin; refine wpList_append_any rfl _ _ 22 rfl w.heap.size 25 i0 (.agg #[.int .i64 0, .int .i64 0, .int .i64 0]) 3 24 Try.underlying22 hi hz0 hz1 hz2 rfl (by decide) _ _ _ rfl hown A l.length ac (l.flatMap markCells) rfl (by rw [flat_marks_length]) (newsM_all hP hb) (marks_one _) (by unfold maxLen; omega) (by omega) hz2w ?_; intro S1 cap1 w2 own1 grow1)
          have hB1 : Below w.heap.size w w2 := Below.grown hb grow1 hz2w (fun q h => (hown.lt q h).1)
          clear hb hown hP grow1 hc0
          go_wp2_with fail
          go_roundw
          case rel => exact ⟨k + 1, by omega, by go_num, by rw [HS.out, List.length_append, List.flatMap_append]; exact own1, hB1⟩
          case measure => simp [intOf]; omega
        · obtain rfl : k = xs.length := by omega
          clear own1' hb1
          go_wp2_with fail
          go_ret
          exact ⟨_, rfl, hown, hb⟩

set_option maxHeartbeats 2000000 in
set_option maxRecDepth 100000 in
theorem sClone_any (v : Value) (l : List Mk) (w : World) (hv : Mks w w.heap.size v l) (h9 : l.length ≤ 1000000) :
    Calls Try.prog 29 #[v] w fun o w' => ∃ A c, o = .returned (.slice A l.length c) ∧ Mks w' w'.heap.size (.slice A l.length c) l ∧ FromOn w.heap.size (.slice A l.length c) ∧ Below w.heap.size w w' := by
  obtain ⟨i0, hi, hz0, hz1, hz2⟩ := info_partsM info_mark
  have q22 : ∀ (w : World) (a : Option Addr) (n c n' c' : Nat), (binOp .eql 22 (.slice a n c) (.slice none n' c')).run Try.prog w = .ok (.bool a.isNone) w := fun w a n c n' c' => Lib.run_eql_slice_nil w _ _ a n c n' c' Try.underlying22
  obtain ⟨A, c, rfl, hc, hz⟩ := hv
  cases A with
  | none =>
    obtain rfl := hc.2 rfl
    have h0 : l.length = 0 := by omega
    have HL := Lib.hid h0
    rw [h0]
    clear hz hc
    go_enter Try.func29, Try.ntmps29
    go_wp2_with fail
    go_ret
    exact ⟨none, 0, rfl, by rw [List.eq_nil_of_length_eq_zero HL.out]; exact Mks.nil _ _, (fun ad n c' h => by cases h), Below.refl _ _⟩
  | some ad =>
    have hP : Mks w w.heap.size (.slice (some ad) l.length c) l := ⟨some ad, c, rfl, hc, hz⟩
    clear hz
    have hown := World.ownsRow_made (base := w.heap.size) (e := 25) (size := 3) w #[] 0 (Nat.le_refl _) (by decide) rfl
    have hb := (Below.refl w.heap.size w).alloc (Nat.le_refl _) (.cells #[] 25)
    go_enter Try.func29, Try.ntmps29
    go_wp2_with (at_builtin; refine wpList_append_any rfl _ _ 22 rfl w.heap.size 25 i0 (.agg #[.int .i64 0, .int .i64 0, .int .i64 0]) 3 24 Try.underlying22 hi hz0 hz1 hz2 rfl (by decide) _ _ _ rfl hown (some ad) l.length c (l.flatMap markCells) rfl (by rw [flat_marks_length]) (newsM_all hP hb) (marks_one _) (by unfold maxLen; omega) (by omega) hb.size ?_; intro S1 cap1 w2 own1 grow1)
    have hB1 : Below w.heap.size w w2 := Below.grown hb grow1 hb.size (fun q h => (hown.lt q h).1)
    simp only [Nat.zero_add, List.nil_append] at own1
    have hf := fromOn_own own1
    have hm := Mks.own own1
    clear hown hP grow1 hb
    go_simp
    go_wp2_with fail
    go_ret
    exact ⟨S1, cap1, by first | rfl | simp, hm, hf, hB1⟩
end Go.Proofs.Ytcamhaeelkjigaa
