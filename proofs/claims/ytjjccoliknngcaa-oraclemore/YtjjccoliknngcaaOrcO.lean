/- Layer 7: slices.Grow and slices.Concat of pairs. -/
import Derived.Test.YtjjccoliknngcaaOrcN
import Derived.Lib.AppendZerosOnto
namespace Go.Proofs.Ytjjccoliknngcaa
open Go.RowKit Go.Lib

theorem zeroCells_size (cs : Array Value) (n : Nat) : (Builtin.zeroCells cs n).size = n * cs.size := by simp [Builtin.zeroCells]

theorem own_less {w : World} {b b' : Nat} {e : TypeId} {size n : Nat} {v : Value} {xs : List Value} (h : w.ownsRow b e size v n xs) (hb : b' ≤ b) : w.ownsRow b' e size v n xs := by
  refine ⟨h.1, ?_⟩
  rcases h.2 with k | ⟨g, cap, cur, hv, h1, h2⟩
  · exact .inl k
  · exact .inr ⟨g, cap, cur, hv, Nat.le_trans hb h1, h2⟩

set_option maxHeartbeats 2000000 in
set_option maxRecDepth 100000 in
theorem oGrow_any (n : Nat) (w : World) (hn : n ≤ 1000000) :
    Calls Try.prog 45 #[.slice none 0 0, .int .i64 (n : Int)] w fun e w' => ∃ v, e = .returned v ∧ w'.ownsRow w.heap.size 27 2 v 0 [] ∧ Below w.heap.size w w' := by
  obtain ⟨i0, hi, hz0, hz1, hz2⟩ := info_parts info_pair
  by_cases h0 : n = 0
  · subst h0
    go_enter Try.func45, Try.ntmps45
    go_wp2_with fail
    go_ret
    exact ⟨_, rfl, World.ownsRow_nil _ _ _ _, Below.refl _ _⟩
  · have hGn : n ≤ grownCap w n 0 27 := grownCap_ge w _ _ _
    have hGm := grownCap_le_maxLen w n 0 27 (by unfold maxLen; omega)
    have eG : (Question.appendCap n 0 27).cut (w.tape w.drawn (Question.appendCap n 0 27)) = grownCap w n 0 27 := rfl
    have hby : Try.t27.bytes = 16 := by kernel_rfl
    have hfit := growslice_fits (show 0 < n by omega) (show n * 16 ≤ 140737488355328 by omega)
    have k1 : (281474976710656 < (n : Int) * (Try.t27.bytes : Int)) = False := eq_false (by rw [hby]; omega)
    have k2 : (281474976710656 < Builtin.nextslicecap n 0 * Try.t27.bytes) = False := eq_false (by rw [hby]; omega)
    have k3 : (n * 2 = 0) = False := eq_false (by omega)
    generalize grownCap w n 0 27 = G at *
    obtain ⟨M, hM⟩ : ∃ M, M = Builtin.zeroCells #[Value.int IntKind.u64 0, Value.int IntKind.u64 0] n ++ Builtin.zeroCells #[Value.int IntKind.u64 0, Value.int IntKind.u64 0] (G - n) := ⟨_, rfl⟩
    have hMs : M.size = G * 2 := by
      rw [hM, Array.size_append, zeroCells_size, zeroCells_size]
      show n * 2 + (G - n) * 2 = G * 2
      omega
    have hown := World.ownsRow_made (base := w.heap.size) (e := 27) (size := 2) w M G (Nat.le_refl _) hGm hMs
    have hbel := ((Below.refl w.heap.size w).alloc (Nat.le_refl _) (.cells M 27)).drew
    have hG63 : G ≤ 9223372036854775807 := by unfold maxLen at hGm; omega
    have hn1 : ¬ ((n : Int) < 0) := by omega
    have hn2 : (n : Int) - 0 = n := by omega
    have HM := Lib.hid hM
    clear hi hz0 hz1 hz2 hM hMs hGm hfit hby
    go_enter Try.func45, Try.ntmps45
    go_wp2_with fail
    all_goals first
      | exact absurd ‹281474976710656 < (n : Int) * (Try.t27.bytes : Int)› (by rw [k1]; exact id)
      | exact absurd ‹281474976710656 < Builtin.nextslicecap n 0 * Try.t27.bytes› (by rw [k2]; exact id)
      | skip
    go_ret
    rw [← HM.out]
    exact ⟨_, rfl, hown, hbel⟩

/-- The first k lists, one behind the other. -/
def catTo (xs : List (Value × List Pr)) (k : Nat) : List Pr := ((xs.take k).map (·.2)).flatten
theorem catTo_succ {xs : List (Value × List Pr)} {k : Nat} (h : k < xs.length) : catTo xs (k + 1) = catTo xs k ++ (xs[k]).2 := by
  unfold catTo
  rw [List.take_succ_eq_append_getElem h, List.map_append, List.flatten_append]; simp
theorem catTo_le (xs : List (Value × List Pr)) : ∀ {m k : Nat}, k ≤ m → m ≤ xs.length → (catTo xs k).length ≤ (catTo xs m).length
  | 0, k, h, _ => by obtain rfl : k = 0 := by omega
                     exact Nat.le_refl _
  | m + 1, k, h, hm => by
    rcases Nat.lt_or_ge m k with h1 | h1
    · obtain rfl : k = m + 1 := by omega
      exact Nat.le_refl _
    · have := catTo_le xs h1 (by omega)
      rw [catTo_succ (by omega), List.length_append]; omega

set_option maxHeartbeats 4000000 in
set_option maxRecDepth 100000 in
theorem oConcat_any (g c : Nat) (t : TypeId) (xs : List (Value × List Pr)) (w : World) (hr : RowAt w g t (xs.map (·.1))) (hx : ∀ x ∈ xs, Prs w w.heap.size x.1 x.2) (hn : xs.length ≤ 100) (h9 : (catTo xs xs.length).length ≤ 1000000) :
    Calls Try.prog 30 #[.slice (some ⟨g, 0, none⟩) xs.length c] w fun e w' => ∃ v, e = .returned v ∧ w'.ownsRow w.heap.size 27 2 v (catTo xs xs.length).length ((catTo xs xs.length).flatMap pairCells) ∧ Below w.heap.size w w' := by
  obtain ⟨i0, hi, hz0, hz1, hz2⟩ := info_parts info_pair
  go_enter Try.func30, Try.ntmps30
  go_wp2_with fail
  go_loopw [3, 11] (fun s i wr => ∃ k : Nat, k ≤ xs.length ∧ s = .int .i64 ((catTo xs k).length : Nat) ∧ i = .int .i64 (k : Nat) ∧ Below w.heap.size w wr) (fun _ i _ => xs.length - (intOf i).toNat)
  case atStart => exact ⟨0, Nat.zero_le _, rfl, rfl, Below.refl _ _⟩
  case round =>
    obtain ⟨k, hk, rfl, rfl, hb⟩ := hrel
    by_cases hlt : k < xs.length
    · have hc0 : wr.cell? ⟨g, k, none⟩ = some (xs[k]).1 := by rw [(hr.on hb).cell]; simp [List.getElem?_eq_getElem hlt]
      obtain ⟨A, ac, hA, hac⟩ := (hx _ (List.getElem_mem hlt)).form
      rw [hA] at hc0
      have hle := catTo_le xs (Nat.le_refl xs.length |> fun _ => (show k + 1 ≤ xs.length by omega)) (Nat.le_refl _)
      have HS := Lib.hid (catTo_succ hlt)
      rw [HS.out, List.length_append] at hle
      have hneg : (((catTo xs k).length : Int) + ((xs[k]).2.length : Int) < 0) = False := eq_false (by omega)
      clear hA
      go_wp2_with fail
      go_roundw
      case rel => exact ⟨k + 1, by omega, by rw [HS.out, List.length_append]; go_num, by go_num, hb⟩
      case measure => simp [intOf]; omega
    · obtain rfl : k = xs.length := by omega
      have hz := hb.size
      go_wp2_with fail
      with_reducible refine (oGrow_any _ wr h9).mono ?_
      rintro e w1 ⟨v1, rfl, own1, b1⟩
      have hb1 := hb.trans (b1.mono hz)
      have own1' : w1.ownsRow w.heap.size 27 2 v1 (catTo xs 0).length ((catTo xs 0).flatMap pairCells) := own_less own1 hz
      clear own1 b1 hb
      go_wp2_with fail
      go_loopw [6, 27] (fun o i wr => ∃ k : Nat, k ≤ xs.length ∧ i = .int .i64 (k : Nat) ∧ wr.ownsRow w.heap.size 27 2 o (catTo xs k).length ((catTo xs k).flatMap pairCells) ∧ Below w.heap.size w wr) (fun _ i _ => xs.length - (intOf i).toNat)
      case atStart => exact ⟨0, Nat.zero_le _, rfl, own1', hb1⟩
      case round =>
        obtain ⟨k, hk, rfl, hown, hb⟩ := hrel
        have hz2w := hb.size
        by_cases hlt : k < xs.length
        · have hc0 : wr.cell? ⟨g, k, none⟩ = some (xs[k]).1 := by rw [(hr.on hb).cell]; simp [List.getElem?_eq_getElem hlt]
          have hP := hx _ (List.getElem_mem hlt)
          obtain ⟨A, ac, hA, hac⟩ := hP.form
          rw [hA] at hc0 hP
          have hle := catTo_le xs (show k + 1 ≤ xs.length by omega) (Nat.le_refl _)
          have HS := Lib.hid (catTo_succ hlt)
          rw [HS.out, List.length_append] at hle
          clear hA own1' hb1
          generalize (xs[k]).2 = l at *
          go_wp2_with (at_builtin; refine wpList_append_any rfl _ _ 22 rfl w.heap.size 27 i0 (.agg #[.int .u64 0, .int .u64 0]) 2 16 Try.underlying22 hi hz0 hz1 hz2 rfl (by decide) _ _ _ rfl hown A l.length ac (l.flatMap pairCells) rfl (by rw [flat_pairs_length]) (news_all hP hb) (pairs_one _) (by unfold maxLen; omega) (by omega) hz2w ?_; intro S1 cap1 w2 own1 grow1)
          have hB1 : Below w.heap.size w w2 := Below.grown hb grow1 hz2w (fun q h => (hown.lt q h).1)
          clear hb hown hP grow1 hc0
          go_wp2_with fail
          go_roundw
          case rel => exact ⟨k + 1, by omega, by go_num, by rw [HS.out, List.length_append, List.flatMap_append]; exact own1, hB1⟩
          case measure => simp [intOf]; omega
        · obtain rfl : k = xs.length := by omega
          clear own1' hb1
          go_wp2_with fail
          go_ret
          exact ⟨_, rfl, hown, hb⟩
end Go.Proofs.Ytjjccoliknngcaa
