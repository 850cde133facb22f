/- Layer 7: slices.Grow and slices.Concat of pairs.
   Layer 7's Add.
   The helpers of layer 7's laws: pick, Keys, Table.
   The helpers of layer 7's laws: Table.
   awake: chapter 7's examples; the contracts at its literals.
   awake: chapter 7's examples.
   Plain facts for layer 7's laws: signatures merged and checked (no program). -/
import Derived.Test.YtjjccoliknngcaaOrcN
import Derived.Lib.AppendZerosOnto
namespace Go.Proofs.Ytjjccoliknngcaa
open Go.RowKit Go.Lib

theorem zeroCells_size (cs : Array Value) (n : Nat) : (Builtin.zeroCells cs n).size = n * cs.size := by simp [Builtin.zeroCells]

theorem own_less {w : World} {b b' : Nat} {e : TypeId} {size n : Nat} {v : Value} {xs : List Value} (h : w.ownsRow b e size v n xs) (hb : b' ≤ b) : w.ownsRow b' e size v n xs := by
  refine ⟨h.1, ?_⟩
  rcases h.2 with k | ⟨g, cap, cur, hv, h1, h2⟩
  · exact .inl k
  · exact .inr ⟨g, cap, cur, hv, Nat.le_trans hb h1, h2⟩

set_option maxHeartbeats 2000000 in
set_option maxRecDepth 100000 in
theorem oGrow_any (n : Nat) (w : World) (hn : n ≤ 1000000) :
    Calls Try.prog 45 #[.slice none 0 0, .int .i64 (n : Int)] w fun e w' => ∃ v, e = .returned v ∧ w'.ownsRow w.heap.size 27 2 v 0 [] ∧ Below w.heap.size w w' := by
  obtain ⟨i0, hi, hz0, hz1, hz2⟩ := info_parts info_pair
  by_cases h0 : n = 0
  · subst h0
    go_enter Try.func45, Try.ntmps45
    go_wp2_with fail
    go_ret
    exact ⟨_, rfl, World.ownsRow_nil _ _ _ _, Below.refl _ _⟩
  · have hGn : n ≤ grownCap w n 0 27 := grownCap_ge w _ _ _
    have hGm := grownCap_le_maxLen w n 0 27 (by unfold maxLen; omega)
    have eG : (Question.appendCap n 0 27).cut (w.tape w.drawn (Question.appendCap n 0 27)) = grownCap w n 0 27 := rfl
    have hby : Try.t27.bytes = 16 := by kernel_rfl
    have hfit := growslice_fits (show 0 < n by omega) (show n * 16 ≤ 140737488355328 by omega)
    have k1 : (281474976710656 < (n : Int) * (Try.t27.bytes : Int)) = False := eq_false (by rw [hby]; omega)
    have k2 : (281474976710656 < Builtin.nextslicecap n 0 * Try.t27.bytes) = False := eq_false (by rw [hby]; omega)
    have k3 : (n * 2 = 0) = False := eq_false (by omega)
    generalize grownCap w n 0 27 = G at *
    obtain ⟨M, hM⟩ : ∃ M, M = Builtin.zeroCells #[Value.int IntKind.u64 0, Value.int IntKind.u64 0] n ++ Builtin.zeroCells #[Value.int IntKind.u64 0, Value.int IntKind.u64 0] (G - n) := ⟨_, rfl⟩
    have hMs : M.size = G * 2 := by
      rw [hM, Array.size_append, zeroCells_size, zeroCells_size]
      show n * 2 + (G - n) * 2 = G * 2
      omega
    have hown := World.ownsRow_made (base := w.heap.size) (e := 27) (size := 2) w M G (Nat.le_refl _) hGm hMs
    have hbel := ((Below.refl w.heap.size w).alloc (Nat.le_refl _) (.cells M 27)).drew
    have hG63 : G ≤ 9223372036854775807 := by unfold maxLen at hGm; omega
    have hn1 : ¬ ((n : Int) < 0) := by omega
    have hn2 : (n : Int) - 0 = n := by omega
    have HM := Lib.hid hM
    clear hi hz0 hz1 hz2 hM hMs hGm hfit hby
    go_enter Try.func45, Try.ntmps45
    go_wp2_with fail
    all_goals first
      | exact absurd ‹281474976710656 < (n : Int) * (Try.t27.bytes : Int)› (by rw [k1]; exact id)
      | exact absurd ‹281474976710656 < Builtin.nextslicecap n 0 * Try.t27.bytes› (by rw [k2]; exact id)
      | skip
    go_ret
    rw [← HM.out]
    exact ⟨_, rfl, hown, hbel⟩

/-- The first k lists, one behind the other. -/
def catTo (xs : List (Value × List Pr)) (k : Nat) : List Pr := ((xs.take k).map (·.2)).flatten
theorem catTo_succ {xs : List (Value × List Pr)} {k : Nat} (h : k < xs.length) : catTo xs (k + 1) = catTo xs k ++ (xs[k]).2 := by
  unfold catTo
  rw [List.take_succ_eq_append_getElem h, List.map_append, List.flatten_append]; simp
theorem catTo_le (xs : List (Value × List Pr)) : ∀ {m k : Nat}, k ≤ m → m ≤ xs.length → (catTo xs k).length ≤ (catTo xs m).length
  | 0, k, h, _ => by obtain rfl : k = 0 := by omega
                     exact Nat.le_refl _
  | m + 1, k, h, hm => by
    rcases Nat.lt_or_ge m k with h1 | h1
    · obtain rfl : k = m + 1 := by omega
      exact Nat.le_refl _
    · have := catTo_le xs h1 (by omega)
      rw [catTo_succ (by omega), List.length_append]; omega

set_option maxHeartbeats 4000000 in
set_option maxRecDepth 100000 in
theorem oConcat_any (g c : Nat) (t : TypeId) (xs : List (Value × List Pr)) (w : World) (hr : RowAt w g t (xs.map (·.1))) (hx : ∀ x ∈ xs, Prs w w.heap.size x.1 x.2) (hn : xs.length ≤ 100) (h9 : (catTo xs xs.length).length ≤ 1000000) :
    Calls Try.prog 30 #[.slice (some ⟨g, 0, none⟩) xs.length c] w fun e w' => ∃ v, e = .returned v ∧ w'.ownsRow w.heap.size 27 2 v (catTo xs xs.length).length ((catTo xs xs.length).flatMap pairCells) ∧ Below w.heap.size w w' := by
  obtain ⟨i0, hi, hz0, hz1, hz2⟩ := info_parts info_pair
  go_enter Try.func30, Try.ntmps30
  go_wp2_with fail
  go_loopw [3, 11] (fun s i wr => ∃ k : Nat, k ≤ xs.length ∧ s = .int .i64 ((catTo xs k).length : Nat) ∧ i = .int .i64 (k : Nat) ∧ Below w.heap.size w wr) (fun _ i _ => xs.length - (intOf i).toNat)
  case atStart => exact ⟨0, Nat.zero_le _, rfl, rfl, Below.refl _ _⟩
  case round =>
    obtain ⟨k, hk, rfl, rfl, hb⟩ := hrel
    by_cases hlt : k < xs.length
    · have hc0 : wr.cell? ⟨g, k, none⟩ = some (xs[k]).1 := by rw [(hr.on hb).cell]; simp [List.getElem?_eq_getElem hlt]
      obtain ⟨A, ac, hA, hac⟩ := (hx _ (List.getElem_mem hlt)).form
      rw [hA] at hc0
      have hle := catTo_le xs (Nat.le_refl xs.length |> fun _ => (show k + 1 ≤ xs.length by omega)) (Nat.le_refl _)
      have HS := Lib.hid (catTo_succ hlt)
      rw [HS.out, List.length_append] at hle
      have hneg : (((catTo xs k).length : Int) + ((xs[k]).2.length : Int) < 0) = False := eq_false (by omega)
      clear hA
      go_wp2_with fail
      go_roundw
      case rel => exact ⟨k + 1, by omega, by rw [HS.out, List.length_append]; go_num, by go_num, hb⟩
      case measure => simp [intOf]; omega
    · obtain rfl : k = xs.length := by omega
      have hz := hb.size
      go_wp2_with fail
      with_reducible refine (oGrow_any _ wr h9).mono ?_
      rintro e w1 ⟨v1, rfl, own1, b1⟩
      have hb1 := hb.trans (b1.mono hz)
      have own1' : w1.ownsRow w.heap.size 27 2 v1 (catTo xs 0).length ((catTo xs 0).flatMap pairCells) := own_less own1 hz
      clear own1 b1 hb
      go_wp2_with fail
      go_loopw [6, 27] (fun o i wr => ∃ k : Nat, k ≤ xs.length ∧ i = .int .i64 (k : Nat) ∧ wr.ownsRow w.heap.size 27 2 o (catTo xs k).length ((catTo xs k).flatMap pairCells) ∧ Below w.heap.size w wr) (fun _ i _ => xs.length - (intOf i).toNat)
      case atStart => exact ⟨0, Nat.zero_le _, rfl, own1', hb1⟩
      case round =>
        obtain ⟨k, hk, rfl, hown, hb⟩ := hrel
        have hz2w := hb.size
        by_cases hlt : k < xs.length
        · have hc0 : wr.cell? ⟨g, k, none⟩ = some (xs[k]).1 := by rw [(hr.on hb).cell]; simp [List.getElem?_eq_getElem hlt]
          have hP := hx _ (List.getElem_mem hlt)
          obtain ⟨A, ac, hA, hac⟩ := hP.form
          rw [hA] at hc0 hP
          have hle := catTo_le xs (show k + 1 ≤ xs.length by omega) (Nat.le_refl _)
          have HS := Lib.hid (catTo_succ hlt)
          rw [HS.out, List.length_append] at hle
          clear hA own1' hb1
          generalize (xs[k]).2 = l at *
          go_wp2_with (at_builtin; refine wpList_append_any rfl _ _ 22 rfl w.heap.size 27 i0 (.agg #[.int .u64 0, .int .u64 0]) 2 16 Try.underlying22 hi hz0 hz1 hz2 rfl (by decide) _ _ _ rfl hown A l.length ac (l.flatMap pairCells) rfl (by rw [flat_pairs_length]) (news_all hP hb) (pairs_one _) (by unfold maxLen; omega) (by omega) hz2w ?_; intro S1 cap1 w2 own1 grow1)
          have hB1 : Below w.heap.size w w2 := Below.grown hb grow1 hz2w (fun q h => (hown.lt q h).1)
          clear hb hown hP grow1 hc0
          go_wp2_with fail
          go_roundw
          case rel => exact ⟨k + 1, by omega, by go_num, by rw [HS.out, List.length_append, List.flatMap_append]; exact own1, hB1⟩
          case measure => simp [intOf]; omega
        · obtain rfl : k = xs.length := by omega
          clear own1' hb1
          go_wp2_with fail
          go_ret
          exact ⟨_, rfl, hown, hb⟩
end Go.Proofs.Ytjjccoliknngcaa

namespace Go.Proofs.Ytjjccoliknngcaa
open Go.RowKit Go.Lib Go.Shelf
open Go.RowKit Go.Shelf
open Go.Sort hiding Below

theorem end_none {P : Program} {fn : Func} {R : Ending → World → Prop} {a : Act} {w : World} (hr : fn.results = #[]) (hd : a.defers = []) (hR : R (.returned (.tuple #[])) w) : bodyPost P fn R .normal a w := by
  simp [bodyPost, hd, hr, results, go_sem, hR]

set_option maxHeartbeats 2000000 in
set_option maxRecDepth 100000 in
theorem oins_nil (w : World) : Calls Try.prog 52 #[.slice none 0 0, .int .i64 0, .int .i64 0, .func (.func 32) #[] #[]] w fun e w' => e = .returned (.tuple #[]) ∧ w' = w := by
  go_enter Try.func52, Try.ntmps52
  go_wp2_with fail
  go_loopw [8] (fun i wr => i = .int .i64 1 ∧ wr = w) (fun _ _ => 0)
  case atStart => exact ⟨rfl, rfl⟩
  case round =>
    obtain ⟨rfl, rfl⟩ := hrel
    go_wp2_with fail
    exact end_none (by kernel_rfl) rfl ⟨rfl, rfl⟩
set_option maxHeartbeats 2000000 in
set_option maxRecDepth 100000 in
theorem olen64_zero (w : World) : Calls Try.prog 61 #[.int .u64 0] w fun e w' => (∃ n, e = .returned (.int .i64 n)) ∧ w' = w := by
  go_enter Try.func61, Try.ntmps61
  go_wp2_with fail
  go_ret
  exact ⟨⟨_, rfl⟩, rfl⟩
set_option maxHeartbeats 2000000 in
set_option maxRecDepth 100000 in
theorem olen_zero (w : World) : Calls Try.prog 47 #[.int .u64 0] w fun e w' => (∃ n, e = .returned (.int .i64 n)) ∧ w' = w := by
  go_enter Try.func47, Try.ntmps47
  go_wp2_with fail
  with_reducible refine (olen64_zero _).mono ?_
  rintro e w1 ⟨⟨n, rfl⟩, rfl⟩
  go_wp2_with fail
  go_ret
  exact ⟨⟨_, rfl⟩, rfl⟩
set_option maxHeartbeats 2000000 in
set_option maxRecDepth 100000 in
theorem opdq_nil (n : Int) (w : World) : Calls Try.prog 46 #[.slice none 0 0, .int .i64 0, .int .i64 0, .int .i64 n, .func (.func 32) #[] #[]] w fun e w' => e = .returned (.tuple #[]) ∧ Below w.heap.size w w' := by
  go_enter Try.func46, Try.ntmps46
  go_wp2_with fail
  go_loopw [1, 2] (fun a b wr => a = .int .i64 0 ∧ b = .int .i64 0 ∧ wr = w) (fun _ _ _ => 0)
  case atStart => exact ⟨rfl, rfl, rfl⟩
  case round =>
    obtain ⟨rfl, rfl, rfl⟩ := hrel
    go_wp2_with fail
    with_reducible refine (oins_nil _).mono ?_
    rintro e w1 ⟨rfl, rfl⟩
    go_wp2_with fail
    refine bodyPost_ret (v := .tuple #[]) (by simp [results, Try.results46, go_sem]) rfl ?_
    exact ⟨rfl, Below.refl _ _⟩
set_option maxHeartbeats 2000000 in
set_option maxRecDepth 100000 in
theorem osort_nil (w : World) : Calls Try.prog 31 #[.slice none 0 0, .func (.func 32) #[] #[]] w fun e w' => e = .returned (.tuple #[]) ∧ Below w.heap.size w w' := by
  go_enter Try.func31, Try.ntmps31
  go_wp2_with fail
  with_reducible refine (olen_zero _).mono ?_
  rintro e w1 ⟨⟨n, rfl⟩, rfl⟩
  go_wp2_with fail
  with_reducible refine (opdq_nil _ _).mono ?_
  rintro e w2 ⟨rfl, b2⟩
  go_wp2_with fail
  exact end_none (by kernel_rfl) rfl ⟨rfl, b2⟩
set_option maxHeartbeats 400000 in
theorem osortP_any (g cap base : Nat) (l : List Pr) (w : World) (h : w.ownsRow base 27 2 (.slice (some ⟨g, 0, none⟩) l.length cap) l.length (l.flatMap pairCells)) (hl : l.length ≤ 1000000) (_hlc : l.length ≤ cap) :
    Calls Try.prog 31 #[.slice (some ⟨g, 0, none⟩) l.length cap, .func (.func 32) #[] #[]] w fun e w' =>
      e = .returned (.tuple #[]) ∧ ∃ l' : List Pr, l'.Perm l ∧ srt l' = true ∧ Pcs w' g l' ∧ But g w w' := by
  obtain ⟨hH, hg⟩ := holds_own h
  have eg : ∀ args w, (callFunc 32 args).run Try.prog w = .ok (.enter 32 args) w := enters_of Try.func32 (by kernel_rfl) rfl
  have hcon := AnyQ.slices_SortFunc Try.sortP 2 Try.isAgg27 Try.sizeOf27 pairCells (fun _ => rfl) (fun x v hv => by simp [pairCells] at hv; rcases hv with rfl | rfl <;> rfl) ordI swo_ord 32 #[] g 0 cap l.toArray w eg (ocmpLays_order g 0 _ w) hH hg (by simp; omega)
  refine Calls.mono (h := hcon) ?_
  rintro e w' ⟨he, d', n, os, hp, hs, rfl⟩
  refine ⟨he, d'.toList, ?_, ?_, ?_, but_sort w g n d' os hg⟩
  · have h1 := hp.2.2
    have h2 := hp.1
    simp only [List.size_toArray] at h1 h2
    rw [Array.extract_eq_self_of_le (by omega), Array.extract_eq_self_of_le (by simp)] at h1
    exact h1
  · have h2 := hp.1
    simp only [List.size_toArray] at h2
    rw [srt_iff, List.pairwise_iff_getElem]
    intro i j hi hj hij
    have h3 := hs i j (Nat.zero_le _) hij (by simpa [h2] using hj)
    have hi' : i < d'.size := by simpa using hi
    have hj' : j < d'.size := by simpa using hj
    rw [getElem!_pos d' i hi', getElem!_pos d' j hj'] at h3
    unfold ltOf at h3
    rw [decide_eq_false_iff_not, ordI_lt] at h3
    unfold Le
    simpa using h3
  · have h2 := hp.1
    simp only [List.size_toArray] at h2
    have hK : HoldsK pairCells 2 (sortWorldK pairCells 2 w g 0 n d' os) g 0 d' :=
      holdsK_grow pairCells 2 _ os g 0 d' (by show g < (w.heap.modify g _).size; rw [Array.size_modify]; exact hg) (holdsK_putRowK pairCells 2 (Sort.ahead w n) g 0 l.toArray d' (holdsK_ahead pairCells 2 w n g 0 _ hH) (by simp [h2]))
    refine ⟨Nat.lt_of_lt_of_le hg (but_sort w g n d' os hg).size, fun j p hj => ?_⟩
    have hjl : j < d'.size := by
      rcases Nat.lt_or_ge j d'.toList.length with k | k
      · simpa using k
      · rw [List.getElem?_eq_none k] at hj; cases hj
    have hp1 : d'[j]! = p := by
      rw [getElem!_pos d' j hjl]
      have := hj
      rw [List.getElem?_eq_getElem (by simpa using hjl)] at this
      simpa using this
    have c1 := hK.cell hjl (show 0 < 2 by decide)
    have c2 := hK.cell hjl (show 1 < 2 by decide)
    rw [hp1] at c1 c2
    refine ⟨by simpa [pairCells] using c1.1, by simpa [pairCells] using c2.1, by simpa using c1.2, by simpa using c2.2⟩

set_option maxHeartbeats 2000000 in
set_option maxRecDepth 100000 in
theorem ocomp_nil (w : World) : Calls Try.prog 33 #[.slice none 0 0] w fun e w' => e = .returned (.slice none 0 0) ∧ w' = w := by
  go_enter Try.func33, Try.ntmps33
  go_wp2_with fail
  go_ret
  exact ⟨rfl, rfl⟩
theorem add_rows {t m l' : List Pr} (ht : Rise t) (hp : l'.Perm (t ++ m)) (hs : srt l' = true) : addL t m = kp l' l'.length := by
  obtain ⟨h1, h2⟩ := kp_rise hs l'.length (Nat.le_refl _)
  refine addL_eq ht h1 fun x => ?_
  rw [h2, List.take_length, hp.mem_iff, List.mem_append]
theorem cat_two (v u : Value) (t m : List Pr) : catTo [(v, t), (u, m)] 2 = t ++ m := by simp [catTo]

set_option maxHeartbeats 4000000 in
set_option maxRecDepth 100000 in
theorem oAdd_any (v u : Value) (t m : List Pr) (w : World) (hv : Prs w w.heap.size v t) (hu : Prs w w.heap.size u m) (h9 : t.length ≤ 100000) (h9m : m.length ≤ 100000) :
    Calls Try.prog 12 #[v, u] w fun e w' => ∃ A c, e = .returned (.tuple #[.slice A (addO t m).1.length c, .int .i64 (addO t m).2]) ∧ Prs w' w'.heap.size (.slice A (addO t m).1.length c) (addO t m).1 ∧ Below w.heap.size w w' := by
  obtain ⟨A, c, rfl, hc⟩ := hv.form
  obtain ⟨B, d, rfl, hd⟩ := hu.form
  have cR := oRight_any (.slice A t.length c) t w hv (by omega)
  obtain ⟨RE, hRE⟩ : ∃ RE, addO t m = RE := ⟨_, rfl⟩
  rw [hRE]
  obtain ⟨R, E⟩ := RE
  unfold addO at hRE
  cases hr : rightO t
  · rw [hr] at cR hRE
    rw [if_neg (by simp)] at hRE
    cases hRE
    go_enter Try.func12, Try.ntmps12
    go_wp2_with fail
    with_reducible refine cR.mono ?_
    rintro e w1 ⟨rfl, b1⟩
    go_wp2_with fail
    go_ret2
    exact ⟨none, 0, rfl, Prs.nil _ _, b1⟩
  · rw [hr] at cR hRE
    rw [if_pos rfl] at hRE
    have HRE := Lib.hid hRE
    clear hRE
    have hrt := ((rightO_iff t).1 hr).2
    have cC := fun (g : Nat) (W : World) (h1 : RowAt W g 22 [.slice A t.length c, .slice B m.length d]) (h2 : Prs W W.heap.size (.slice A t.length c) t) (h3 : Prs W W.heap.size (.slice B m.length d) m) =>
      oConcat_any g 2 22 [(.slice A t.length c, t), (.slice B m.length d, m)] W h1 (fun x hx => by simp at hx; rcases hx with rfl | rfl <;> assumption) (by simp) (by show (catTo _ 2).length ≤ _; rw [cat_two, List.length_append]; omega)
    simp only [List.length_cons, List.length_nil, Nat.zero_add, Nat.reduceAdd, cat_two] at cC
    go_enter Try.func12, Try.ntmps12
    go_wp2_with fail
    with_reducible refine cR.mono ?_
    rintro e w1 ⟨rfl, b1⟩
    clear cR
    have r2 := RowAt.new w1 22 #[.slice A t.length c, .slice B m.length d]
    have ba := (Below.refl w1.heap.size w1).alloc (Nat.le_refl _) (.cells #[.slice A t.length c, .slice B m.length d] 22)
    have hv2 := (hv.on b1).on ba
    have hu2 := (hu.on b1).on ba
    have b2 := b1.trans (ba.mono b1.size)
    clear hv hu
    go_upto_region 4 with (fail)
    with_reducible refine (cC _ _ r2 hv2 hu2).mono ?_
    rintro e w3 ⟨x, rfl, own3, b3⟩
    have hb3 := b2.trans (b3.mono b2.size)
    have hl9 : (t ++ m).length ≤ 1000000 := by rw [List.length_append]; omega
    have HP := Lib.hid (fun (l' : List Pr) h1 h2 => add_rows (m := m) (l' := l') hrt h1 h2)
    have hz3 : w.heap.size ≤ (w1.alloc (.cells #[.slice A t.length c, .slice B m.length d] 22)).heap.size := b2.size
    rcases own3.2 with ⟨rfl, h0⟩ | ⟨g, cap, cur, rfl, hg, hcell, hnc, hc9, hsz, hcur⟩
    · have h00 : t ++ m = [] := List.eq_nil_of_length_eq_zero h0
      have hA : addL t m = [] := by
        have := HP.out [] (by rw [h00]) rfl
        rw [this]; rfl
      have hRE := HRE.out
      rw [hA, if_neg (by simp)] at hRE
      cases hRE
      clear own3 HP HRE cC r2 hv2 hu2
      go_wp2_with fail
      with_reducible refine (osort_nil _).mono ?_
      rintro e w4 ⟨rfl, b4⟩
      have hb4 := hb3.trans (b4.mono hb3.size)
      go_wp2_with fail
      with_reducible refine (ocomp_nil _).mono ?_
      rintro e w5 ⟨rfl, rfl⟩
      go_wp2_with fail
      go_ret2
      exact ⟨none, 0, rfl, Prs.nil _ _, hb4⟩
    · have cS := osortP_any g cap _ (t ++ m) w3 own3 hl9 hnc
      clear own3 cC r2 hv2 hu2 hcell hsz hcur
      generalize t ++ m = L at *
      go_wp2_with fail
      with_reducible refine cS.mono ?_
      rintro e w4 ⟨rfl, l', hperm, hsrt, hP4, but4⟩
      have hlen := hperm.length_eq
      have hb4 : Below w.heap.size w w4 := but4.below hb3 (Nat.le_trans hz3 hg) hb3.size
      have hA := HP.out l' hperm hsrt
      have hRE := HRE.out
      rw [hA] at hRE
      have cK := oCompact_any g cap l' w4 hP4 (by omega) (by omega) hc9
      rw [hlen] at cK hRE
      have hg4 : w.heap.size ≤ g := Nat.le_trans hz3 hg
      have hkl := kp_le l' L.length
      clear HP HRE cS hP4 but4 hperm hsrt hA
      generalize kp l' L.length = K at *
      go_wp2_with fail
      with_reducible refine cK.mono ?_
      rintro e w5 ⟨rfl, hP5, but5⟩
      have hb5 : Below w.heap.size w w5 := but5.below hb4 hg4 hb4.size
      clear cK but5
      by_cases hl : 4096 < K.length
      · have hd : ((4096 : Int) < (K.length : Int)) = True := eq_true (by omega)
        rw [if_pos hl] at hRE
        cases hRE
        go_wp2_with fail
        go_ret2
        exact ⟨none, 0, rfl, Prs.nil _ _, hb5⟩
      · have hd : ((4096 : Int) < (K.length : Int)) = False := eq_false (by omega)
        rw [if_neg hl] at hRE
        cases hRE
        go_wp2_with fail
        go_ret2
        exact ⟨_, _, rfl, hP5, hb5⟩
end Go.Proofs.Ytjjccoliknngcaa

namespace Go.Proofs.Ytjjccoliknngcaa
open Go.RowKit Go.Lib

theorem pick7_any (c n : Int) (w : World) (hc : I64 c) (hn : 0 < n) (hn2 : n ≤ 1000000000) :
    Calls Try.prog 27 #[.int .i64 c, .int .i64 n] w fun e w' => e = .returned (.int .i64 (pickN c n : Int)) ∧ w = w' := by
  unfold I64 at hc
  rw [← pickN_eq c n hn]
  by_cases h : c < 0
  · have he : tPickOf c n = -((c + 1).tmod n) := by
      unfold tPickOf
      rw [if_pos h, ← Int.neg_tmod, Int.tmod_eq_emod_of_nonneg (by omega)]
    rw [he]
    clear he
    go_enter Try.func27, Try.ntmps27
    go_wp2
    go_ret
    exact ⟨rfl, rfl⟩
  · have he : tPickOf c n = c % n := by unfold tPickOf; rw [if_neg h]
    rw [he]
    clear he
    go_enter Try.func27, Try.ntmps27
    go_wp2
    go_ret
    exact ⟨rfl, rfl⟩

def had12 (ks : List Nat) : List Value := (List.range 12).map fun k => .bool (ks.contains k)
theorem had12_nil : had12 [] = [.bool false, .bool false, .bool false, .bool false, .bool false, .bool false, .bool false, .bool false, .bool false, .bool false, .bool false, .bool false] := by rfl
theorem had12_get (ks : List Nat) (k : Nat) (h : k < 12) : (had12 ks)[k]? = some (.bool (ks.contains k)) := by
  unfold had12
  rw [List.getElem?_map, List.getElem?_range h]; rfl
theorem had12_set (ks : List Nat) (k : Nat) : (had12 ks).set k (.bool true) = had12 (ks ++ [k]) := by
  apply List.ext_getElem
  · simp [had12]
  · intro i h1 h2
    simp only [had12, List.getElem_set, List.getElem_map, List.getElem_range]
    by_cases hik : k = i
    · subst hik; simp
    · rw [if_neg hik]
      simp
      intro e
      exact absurd e.symm hik

/-- The keys of raw numbers: none twice. -/
def keysTo (raw : List Int) : Nat → List Nat
  | 0 => []
  | i + 1 => if h : i < raw.length then (if pickN raw[i] 12 ∈ keysTo raw i then keysTo raw i else keysTo raw i ++ [pickN raw[i] 12]) else keysTo raw i
theorem keysTo_had {raw : List Int} {i : Nat} (h : i < raw.length) (hk : pickN raw[i] 12 ∈ keysTo raw i) : keysTo raw (i + 1) = keysTo raw i := by rw [keysTo, dif_pos h, if_pos hk]
theorem keysTo_new {raw : List Int} {i : Nat} (h : i < raw.length) (hk : pickN raw[i] 12 ∉ keysTo raw i) : keysTo raw (i + 1) = keysTo raw i ++ [pickN raw[i] 12] := by rw [keysTo, dif_pos h, if_neg hk]
theorem keysTo_facts (raw : List Int) : ∀ i, (keysTo raw i).Nodup ∧ (∀ k ∈ keysTo raw i, k < 12) ∧ (keysTo raw i).length ≤ i
  | 0 => by simp [keysTo]
  | i + 1 => by
    obtain ⟨h1, h2, h3⟩ := keysTo_facts raw i
    rw [keysTo]
    split
    · split
      · exact ⟨h1, h2, by omega⟩
      · rename_i hl hk
        have hp := pickN_lt raw[i] 12 (by decide)
        refine ⟨?_, fun k hk2 => ?_, by rw [List.length_append]; simp; omega⟩
        · rw [List.nodup_append]
          exact ⟨h1, by simp, fun a ha b hb => by simp at hb; subst hb; intro e; exact hk (e ▸ ha)⟩
        · rcases List.mem_append.1 hk2 with h | h
          · exact h2 k h
          · simp at h; subst h; omega
    · exact ⟨h1, h2, by omega⟩
def keysL (raw : List Int) : List Nat := keysTo raw (min raw.length 12)
theorem keysL_facts (raw : List Int) : (keysL raw).Nodup ∧ (∀ k ∈ keysL raw, k < 12) ∧ (keysL raw).length ≤ 12 := by
  obtain ⟨h1, h2, h3⟩ := keysTo_facts raw (min raw.length 12)
  exact ⟨h1, h2, by unfold keysL; omega⟩

set_option maxHeartbeats 4000000 in
set_option maxRecDepth 100000 in
theorem Keys7_any (v : Value) (raw : List Int) (w : World) (hv : Ints w w.heap.size v raw) (hI : ∀ r ∈ raw, I64 r) (l9 : raw.length ≤ maxLen) :
    Calls Try.prog 11 #[v] w fun e w' => ∃ A c, e = .returned (.slice A (keysL raw).length c) ∧ Wds w' w'.heap.size (.slice A (keysL raw).length c) (keysL raw) ∧ Below w.heap.size w w' := by
  obtain ⟨Av, cv, rfl, hcv⟩ := hv.form
  have l9' : raw.length ≤ 9223372036854775807 := l9
  obtain ⟨i0, hi, hz0, hz1, hz2⟩ := info_parts info_u64
  obtain ⟨w2, hw2⟩ : ∃ w2, w2 = w.alloc (.cells #[.bool false, .bool false, .bool false, .bool false, .bool false, .bool false, .bool false, .bool false, .bool false, .bool false, .bool false, .bool false] 62) := ⟨_, rfl⟩
  have hd0 : RowAt w2 w.heap.size 62 (had12 []) := by rw [had12_nil, hw2]; exact RowAt.new w 62 #[.bool false, .bool false, .bool false, .bool false, .bool false, .bool false, .bool false, .bool false, .bool false, .bool false, .bool false, .bool false]
  have hb0 : Below w.heap.size w w2 := by rw [hw2]; exact (Below.refl _ _).alloc (Nat.le_refl _) _
  have hz2w : w2.heap.size = w.heap.size + 1 := by rw [hw2, World.size_alloc]
  have HW := Lib.hid hw2
  clear hw2
  go_enter Try.func11, Try.ntmps11
  go_wp2_with fail
  rw [← HW.out]
  clear HW
  go_loopw [4, 5] (fun o iv wr => ∃ i : Nat, i ≤ raw.length ∧ i ≤ 12 ∧ iv = .int .i64 (i : Int) ∧ wr.ownsRow (w.heap.size + 1) 25 1 o (keysTo raw i).length ((keysTo raw i).map fun k : Nat => Value.int .u64 (k : Int)) ∧ RowAt wr w.heap.size 62 (had12 (keysTo raw i)) ∧ Below w.heap.size w wr ∧ w.heap.size + 1 ≤ wr.heap.size) (fun _ iv _ => 12 - (intOf iv).toNat)
  case atStart => exact ⟨0, Nat.zero_le _, Nat.zero_le _, rfl, World.ownsRow_nil _ _ _ _, hd0, hb0, by omega⟩
  case round =>
    obtain ⟨i, hir, hi12, rfl, hown, hhd, hb, hz⟩ := hrel
    clear hd0 hb0
    by_cases hin : i < raw.length ∧ i < 12
    · obtain ⟨hlt, hlt12⟩ := hin
      have hi1 : ((i : Int) < (raw.length : Int)) = True := eq_true (by omega)
      have hi1n : (i < raw.length) = True := eq_true hlt
      have hi2 : ((i : Int) < 12) = True := eq_true (by omega)
      have hi2n : (i < 12) = True := eq_true hlt12
      obtain ⟨ad, rfl, _, hcell⟩ := (hv.below hb (Nat.le_refl _)).at_ hlt
      have cP := fun W => pick7_any raw[i] 12 W (hI _ (List.getElem_mem hlt)) (by decide) (by decide)
      have hk := pickN_lt raw[i] 12 (by decide)
      have HH := Lib.hid (keysTo_had (raw := raw) hlt)
      have HN := Lib.hid (keysTo_new (raw := raw) hlt)
      have hkl := (keysTo_facts raw i).2.2
      generalize pickN raw[i] 12 = k at *
      generalize raw[i] = r at *
      generalize keysTo raw i = ks at *
      have hk' : k < 12 := by omega
      have hc0 : wr.cell? ⟨w.heap.size, k, none⟩ = some (.bool (ks.contains k)) := by rw [hhd.cell]; exact had12_get ks k hk'
      have hf0 := hhd.frozen k
      cases hck : ks.contains k
      · rw [hck] at hc0
        have hnk : k ∉ ks := by simpa using hck
        have HN2 := Lib.hid (HN.out hnk)
        have hset := hhd.set k (.bool true)
        rw [had12_set ks k] at hset
        have hownS := ownsRow_setCell_other hown (a := ⟨w.heap.size, k, none⟩) (fun e => by have h5 := (hown.lt w.heap.size e).1; omega) (.bool true)
        have hbS := hb.setCell (p := ⟨w.heap.size, k, none⟩) (Nat.le_refl _) (.bool true)
        have hwu : IntKind.u64.wrap (k : Int) = (k : Int) := IntWalk.u64_in _ (by omega)
        obtain ⟨wS, hwS⟩ : ∃ wS, wS = wr.setCell ⟨w.heap.size, k, none⟩ (.bool true) := ⟨_, rfl⟩
        have hzS : w.heap.size + 1 ≤ wS.heap.size := by rw [hwS]; simpa [World.setCell] using hz
        rw [← hwS] at hset hownS hbS
        have HWS := Lib.hid hwS
        clear hwS hown hhd hb hck HN HH
        go_wp2_with fail
        with_reducible refine (cP _).mono ?_
        rintro e w3 ⟨rfl, rfl⟩
        go_upto_region 9 with (fail)
        rw [← HWS.out]
        clear HWS hc0 hf0 hcell cP
        go_wp2_with (at_builtin; refine wpList_append_own _ rfl _ _ 24 rfl (w.heap.size + 1) 25 i0 (.int .u64 0) 1 8 Try.underlying24 hi hz0 hz1 hz2 rfl (by decide) _ _ _ rfl (hownS.alloc _) ⟨wS.heap.size, 0, none⟩ 1 1 [.int .u64 (k : Int)] rfl rfl (cell_one_new _ _ _) (by simp [Value.oneCell']) (by have : maxLen = 9223372036854775807 := rfl; omega) (by omega) (by simp; omega) ?_; intro v' w1 hown2 hgrow _)
        replace hgrow : (wS.alloc (.cells #[.int .u64 (k : Int)] 25)).grownBy w1 u4.ownBlock := hgrow
        have hown' : ∀ g, u4.ownBlock = some g → w.heap.size + 1 ≤ g := fun g hg => (hownS.lt g hg).1
        have hd5 := (hset.alloc (.cells #[.int .u64 (k : Int)] 25)).grown hgrow (fun e => by have := hown' _ e.symm; omega)
        have hb5 : Below w.heap.size w w1 := (hbS.alloc hbS.size _).grown hgrow (by simp; omega) (fun g hg => by have := hown' g hg; omega)
        have hz5 : w.heap.size + 1 ≤ w1.heap.size := by have := hgrow.size; simp at this; omega
        have own6 : w1.ownsRow (w.heap.size + 1) 25 1 v' (ks ++ [k]).length ((ks ++ [k]).map fun k : Nat => Value.int .u64 (k : Int)) := by rw [List.map_append, List.length_append]; exact hown2
        clear hown2 hgrow hset hownS hbS
        go_wp2_with fail
        go_roundw
        case rel => exact ⟨i + 1, by omega, by omega, by go_num, by rw [HN2.out]; exact own6, by rw [HN2.out]; exact hd5, hb5, hz5⟩
        case measure => simp [intOf]; omega
      · rw [hck] at hc0
        have HH2 := Lib.hid (HH.out (by simpa using hck))
        clear hck HN HH
        go_wp2_with fail
        with_reducible refine (cP _).mono ?_
        rintro e w3 ⟨rfl, rfl⟩
        go_wp2_with fail
        go_roundw
        case rel => exact ⟨i + 1, by omega, by omega, by go_num, by rw [HH2.out]; exact hown, by rw [HH2.out]; exact hhd, hb, hz⟩
        case measure => simp [intOf]; omega
    · have hK : keysTo raw i = keysL raw := by unfold keysL; congr 1; omega
      rw [hK] at hown
      have hW := Elems.own (enc := fun n : Nat => Value.int .u64 (n : Int)) hown
      obtain ⟨Au, cu, rfl, _⟩ := hW.form
      clear hK hown hhd
      by_cases hlt : i < raw.length
      · have hi1 : ((i : Int) < (raw.length : Int)) = True := eq_true (by omega)
        have hi1n : (i < raw.length) = True := eq_true hlt
        have hi2 : ((i : Int) < 12) = False := eq_false (by omega)
        have hi2n : (i < 12) = False := eq_false (by omega)
        go_wp2_with fail
        go_ret
        exact ⟨_, _, rfl, hW, hb⟩
      · have hi1 : ((i : Int) < (raw.length : Int)) = False := eq_false (by omega)
        have hi1n : (i < raw.length) = False := eq_false hlt
        go_wp2_with fail
        go_ret
        exact ⟨_, _, rfl, hW, hb⟩
end Go.Proofs.Ytjjccoliknngcaa

namespace Go.Proofs.Ytjjccoliknngcaa
open Go.RowKit Go.Lib

/-- The table of raw numbers. -/
def pairOf (r : Int) : Pr := (pickN r 12, pickN (r.tdiv 16) 3)
def tableTo (raw : List Int) (i : Nat) : List Pr := addL [] ((raw.take i).map pairOf)
theorem tableTo_rise (raw : List Int) (i : Nat) : Rise (tableTo raw i) := addL_rise List.Pairwise.nil
theorem tableTo_length (raw : List Int) (i : Nat) : (tableTo raw i).length ≤ i := by
  have := (addL_length [] ((raw.take i).map pairOf)).2
  unfold tableTo
  rw [List.length_map, List.length_take] at this
  simp at this ⊢
  omega
theorem tableTo_succ {raw : List Int} {i : Nat} (h : i < raw.length) : tableTo raw (i + 1) = addL (tableTo raw i) [pairOf raw[i]] := by
  unfold tableTo
  rw [List.take_succ_eq_append_getElem h, List.map_append]
  simp [addL]
theorem table_add {raw : List Int} {i : Nat} (h : i < raw.length) (h9 : i ≤ 4000) : addO (tableTo raw i) [pairOf raw[i]] = (tableTo raw (i + 1), 0) := by
  have h1 := tableTo_length raw i
  have h2 := tableTo_length raw (i + 1)
  unfold addO
  rw [if_pos ((rightO_iff _).2 ⟨by omega, tableTo_rise raw i⟩), ← tableTo_succ h, if_neg (by omega)]
def tableL (raw : List Int) : List Pr := tableTo raw (min raw.length 60)
theorem tableL_facts (raw : List Int) : Rise (tableL raw) ∧ (tableL raw).length ≤ 60 := ⟨tableTo_rise _ _, by have := tableTo_length raw (min raw.length 60); unfold tableL; omega⟩
theorem tableL_right (raw : List Int) : rightO (tableL raw) = true := (rightO_iff _).2 ⟨by have := (tableL_facts raw).2; omega, (tableL_facts raw).1⟩

theorem tdiv_i64 {r : Int} (h : I64 r) : I64 (r.tdiv 16) := by
  unfold I64 at h ⊢
  rcases Int.le_total 0 r with k | k
  · rw [Int.tdiv_eq_ediv_of_nonneg k]; omega
  · have e : r.tdiv 16 = -((-r) / 16) := by rw [← Int.tdiv_eq_ediv_of_nonneg (show 0 ≤ -r by omega), Int.neg_tdiv, Int.neg_neg]
    rw [e]; omega

set_option maxHeartbeats 4000000 in
set_option maxRecDepth 100000 in
theorem Table7_any (v : Value) (raw : List Int) (w : World) (hv : Ints w w.heap.size v raw) (hI : ∀ r ∈ raw, I64 r) (l9 : raw.length ≤ maxLen) :
    Calls Try.prog 10 #[v] w fun e w' => ∃ A c, e = .returned (.slice A (tableL raw).length c) ∧ Prs w' w'.heap.size (.slice A (tableL raw).length c) (tableL raw) ∧ Below w.heap.size w w' := by
  obtain ⟨Av, cv, rfl, hcv⟩ := hv.form
  have l9' : raw.length ≤ 9223372036854775807 := l9
  go_enter Try.func10, Try.ntmps10
  go_wp2_with fail
  go_loopw [3, 4] (fun o iv wr => ∃ i : Nat, i ≤ raw.length ∧ i ≤ 60 ∧ iv = .int .i64 (i : Int) ∧ (∃ A c, o = .slice A (tableTo raw i).length c ∧ Prs wr wr.heap.size (.slice A (tableTo raw i).length c) (tableTo raw i)) ∧ Below w.heap.size w wr) (fun _ iv _ => 60 - (intOf iv).toNat)
  case atStart => exact ⟨0, Nat.zero_le _, Nat.zero_le _, rfl, ⟨none, 0, rfl, Prs.nil _ _⟩, Below.refl _ _⟩
  case round =>
    obtain ⟨i, hir, hi60, rfl, ⟨A, c, rfl, hP⟩, hb⟩ := hrel
    by_cases hin : i < raw.length ∧ i < 60
    · obtain ⟨hlt, hlt60⟩ := hin
      have hi1 : ((i : Int) < (raw.length : Int)) = True := eq_true (by omega)
      have hi1n : (i < raw.length) = True := eq_true hlt
      have hi2 : ((i : Int) < 60) = True := eq_true (by omega)
      have hi2n : (i < 60) = True := eq_true hlt60
      obtain ⟨ad, rfl, hadb, hcell⟩ := (hv.below hb (Nat.le_refl _)).at_ hlt
      have hr := hI _ (List.getElem_mem hlt)
      have cP := fun W => pick7_any raw[i] 12 W hr (by decide) (by decide)
      have hq : I64 ((raw[i]).tdiv 16) := tdiv_i64 hr
      have cQ := fun W => pick7_any ((raw[i]).tdiv 16) 3 W hq (by decide) (by decide)
      have hk := pickN_lt raw[i] 12 (by decide)
      have hj := pickN_lt ((raw[i]).tdiv 16) 3 (by decide)
      have HS := Lib.hid (table_add hlt (by omega))
      have hlen := tableTo_length raw i
      have hwq : IntKind.i64.wrap ((raw[i]).tdiv 16) = (raw[i]).tdiv 16 := IntWalk.i64_in _ hq
      have cA := fun (B : Option Addr) (d : Nat) (W : World) (h1 : Prs W W.heap.size (.slice A (tableTo raw i).length c) (tableTo raw i)) (h2 : Prs W W.heap.size (.slice B 1 d) [pairOf raw[i]]) => orAdd_any (.slice A (tableTo raw i).length c) (.slice B 1 d) (tableTo raw i) [pairOf raw[i]] W h1 h2 (by omega) (by simp)
      rw [HS.out] at cA
      unfold pairOf at cA
      obtain ⟨t2, ht2⟩ : ∃ t2, tableTo raw (i + 1) = t2 := ⟨_, rfl⟩
      rw [ht2] at cA
      have HT2 := Lib.hid ht2
      clear ht2
      generalize tableTo raw i = t1 at *
      generalize pickN ((raw[i]).tdiv 16) 3 = j at *
      generalize pickN raw[i] 12 = k at *
      generalize raw[i] = r at *
      have hwu : IntKind.u64.wrap (k : Int) = (k : Int) := IntWalk.u64_in _ (by omega)
      have hwj : IntKind.u64.wrap (j : Int) = (j : Int) := IntWalk.u64_in _ (by omega)
      have hPA := hP.alloc (.cells #[.int .u64 (k : Int), .int .u64 (j : Int)] 27)
      have hBA : Prs (wr.alloc (.cells #[.int .u64 (k : Int), .int .u64 (j : Int)] 27)) (wr.alloc (.cells #[.int .u64 (k : Int), .int .u64 (j : Int)] 27)).heap.size (.slice (some ⟨wr.heap.size, 0, none⟩) 1 1) [(k, j)] := Prs.row (l := [(k, j)]) (RowAt.new wr 27 #[.int .u64 (k : Int), .int .u64 (j : Int)])
      have cA1 := cA (some ⟨wr.heap.size, 0, none⟩) 1 (wr.alloc (.cells #[.int .u64 (k : Int), .int .u64 (j : Int)] 27)).drew hPA hBA
      have hbA : Below wr.heap.size wr (wr.alloc (.cells #[.int .u64 (k : Int), .int .u64 (j : Int)] 27)).drew := ((Below.refl _ wr).alloc (Nat.le_refl _) _).drew
      have hC4 := fun w4 (b : Below (wr.alloc (.cells #[.int .u64 (k : Int), .int .u64 (j : Int)] 27)).drew.heap.size (wr.alloc (.cells #[.int .u64 (k : Int), .int .u64 (j : Int)] 27)).drew w4) =>
        ((b.cell (p := ad.add i) (by rw [add_block]; exact Nat.lt_of_lt_of_le (Nat.lt_of_lt_of_le hadb hb.size) hbA.size)).trans (hbA.cell (p := ad.add i) (by rw [add_block]; exact Nat.lt_of_lt_of_le hadb hb.size))).trans hcell
      clear cA hPA hBA HS
      go_upto_region 5 with (fail)
      go_cut [5, 6] from 17 to 36 (fun o _ wx => ∃ A c, o = .slice A t2.length c ∧ Prs wx wx.heap.size (.slice A t2.length c) t2 ∧ Below wr.heap.size wr wx)
      case first =>
        go_region_held3 (fun w' => w'.cell? (ad.add i) = some (.int .i64 r)) (first | with_reducible assumption | go_keep) (first | ((with_reducible refine (cP _).mono ?_); rintro e w1 ⟨rfl, rfl⟩) | ((with_reducible refine (cQ _).mono ?_); rintro e w1 ⟨rfl, rfl⟩) | ((with_reducible refine cA1.mono ?_); rintro e w4 ⟨A2, c2, rfl, hP2, hF2, b2⟩; have c4 := hC4 _ b2))
        all_goals
          go_wp2_with fail
          go_meet
          exact ⟨A2, c2, rfl, hP2, hbA.trans (b2.mono hbA.size)⟩
      case rest =>
        obtain ⟨wx, hwx⟩ : ∃ wx, wx = wc := ⟨_, rfl⟩
        subst hwx
        obtain ⟨A2, c2, rfl, hP2, hb2⟩ := hcut
        have hb3 := hb.trans (hb2.mono hb.size)
        clear hcell cP cQ cA1 hbA hP hC4
        go_wp2_with fail
        go_roundw
        case rel => exact ⟨i + 1, by omega, by omega, by go_num, by rw [HT2.out]; exact ⟨A2, c2, rfl, hP2⟩, hb3⟩
        case measure => simp [intOf]; omega
    · have hK : tableTo raw i = tableL raw := by unfold tableL; congr 1; omega
      rw [hK] at hP ⊢
      by_cases hlt : i < raw.length
      · have hi1 : ((i : Int) < (raw.length : Int)) = True := eq_true (by omega)
        have hi1n : (i < raw.length) = True := eq_true hlt
        have hi2 : ((i : Int) < 60) = False := eq_false (by omega)
        have hi2n : (i < 60) = False := eq_false (by omega)
        go_wp2_with fail
        go_ret
        exact ⟨_, _, rfl, hP, hb⟩
      · have hi1 : ((i : Int) < (raw.length : Int)) = False := eq_false (by omega)
        have hi1n : (i < raw.length) = False := eq_false hlt
        go_wp2_with fail
        go_ret
        exact ⟨_, _, rfl, hP, hb⟩
end Go.Proofs.Ytjjccoliknngcaa

namespace Go.Proofs.Ytjjccoliknngcaa
open Go.RowKit Go.Lib

/-- The example's table, and signature. -/
abbrev awT : List Pr := [(1, 7), (2, 7)]
theorem aw_S : signL 7 [2, 1] = awT := srt_unique (signL_srt _ _) (by decide) ((signL_perm 7 [2, 1]).trans (by decide))
theorem aw_S8 : signL 8 [2, 1] = [(1, 8), (2, 8)] := srt_unique (signL_srt _ _) (by decide) ((signL_perm 8 [2, 1]).trans (by decide))
theorem aw_S1 : signL 7 [1] = [(1, 7)] := srt_unique (signL_srt _ _) (by decide) ((signL_perm 7 [1]).trans (by decide))
theorem aw_L : addL [] [(2, 7), (1, 7), (2, 7)] = awT := addL_eq List.Pairwise.nil ((stc_iff _).1 (by decide)) fun x => by
  constructor
  · intro h
    simp at h ⊢
    rcases h with h | h <;> simp [h]
  · intro h
    simp at h ⊢
    rcases h with h | h | h <;> simp [h]
theorem aw_addO : addO [] [(2, 7), (1, 7), (2, 7)] = (awT, 0) := by unfold addO; rw [if_pos (by decide), aw_L, if_neg (by decide)]
theorem aw_addW : addO [(2, 0), (1, 0)] [] = ([], 1) := by unfold addO; rw [if_neg (by decide)]
theorem aw_signO : signO 7 [2, 1] = (awT, 0) := by unfold signO; rw [if_neg (by decide), aw_S]
theorem aw_checkY : checkO awT [2, 1] 7 false awT = true := by unfold checkO; rw [aw_S]; decide
theorem aw_checkN : checkO awT [2, 1] 8 false awT = false := by unfold checkO; rw [aw_S8]; decide
theorem aw_checkL : checkO awT [1] 7 false awT = false := by unfold checkO; rw [aw_S1]; decide
theorem aw_right : rightO awT = true := by decide
theorem aw_add (v : Value) (w : World) (h : Prs w w.heap.size v [(2, 7), (1, 7), (2, 7)]) :
    Calls Try.prog 12 #[.slice none 0 0, v] w fun e w' => ∃ A c, e = .returned (.tuple #[.slice A 2 c, .int .i64 0]) ∧ Prs w' w'.heap.size (.slice A 2 c) awT ∧ Below w.heap.size w w' := by
  have := oAdd_any (.slice none 0 0) v [] _ w (Prs.nil _ _) h (by decide) (by decide)
  rw [aw_addO] at this
  exact this
theorem aw_addw (v : Value) (w : World) (h : Prs w w.heap.size v [(2, 0), (1, 0)]) :
    Calls Try.prog 12 #[v, .slice none 0 0] w fun e w' => ∃ A c, e = .returned (.tuple #[.slice A 0 c, .int .i64 1]) ∧ Below w.heap.size w w' := by
  have := oAdd_any v (.slice none 0 0) _ [] w h (Prs.nil _ _) (by decide) (by decide)
  rw [aw_addW] at this
  exact this.mono fun e w' ⟨A, c, he, _, hb⟩ => ⟨A, c, he, hb⟩
theorem aw_sign (v : Value) (w : World) (h : Wds w w.heap.size v [2, 1]) :
    Calls Try.prog 25 #[.int .u64 7, v] w fun e w' => ∃ A c, e = .returned (.tuple #[.agg #[.bool false, .slice A 2 c], .int .i64 0]) ∧ Prs w' w'.heap.size (.slice A 2 c) awT ∧ Below w.heap.size w w' := by
  have := oSign_any 7 v _ w h (by decide)
  rw [aw_signO] at this
  exact this
theorem aw_check (A P : Option Addr) (c pc : Nat) (K : Option Addr) (kc n : Nat) (r : Int) (ks : List Nat) (root : Nat) (b : Bool) (hb : checkO awT ks root false awT = b) (hn : ks.length = n) (hr : (root : Int) = r) (hk : ∀ x ∈ ks, x < 18446744073709551616) (h9 : ks.length ≤ 100000) (w : World)
    (hT : Prs w w.heap.size (.slice A 2 c) awT) (hK : Wds w w.heap.size (.slice K n kc) ks) (hP : Prs w w.heap.size (.slice P 2 pc) awT) :
    Calls Try.prog 21 #[.slice A 2 c, .agg #[.slice K n kc, .int .u64 r, .bool false, .slice P 2 pc]] w fun e w' => e = .returned (.bool b) ∧ Below w.heap.size w w' := by
  subst hn hr
  have := oCheck_any (.slice A 2 c) awT K P kc pc ks root false awT w hT hK hP hk (by decide) h9 (by decide)
  rw [hb] at this
  exact this
theorem aw_all (A : Option Addr) (c : Nat) (v : Value) (is : List Itm) (b : Bool) (hb : is.all (Itm.ok awT) = b) (hs : Short is) (hk : ∀ i ∈ is, ∀ x ∈ i.ks, x < 18446744073709551616) (w : World)
    (hT : Prs w w.heap.size (.slice A 2 c) awT) (hv : ItRow w v is) :
    Calls Try.prog 23 #[.slice A 2 c, v] w fun e w' => e = .returned (.bool b) ∧ Below w.heap.size w w' := by
  have := oAll_any (.slice A 2 c) v awT is w hT hv (by decide) hs hk
  rw [hb] at this
  exact this
theorem aw_rightC (A : Option Addr) (c : Nat) (w : World) (hT : Prs w w.heap.size (.slice A 2 c) awT) :
    Calls Try.prog 14 #[.slice A 2 c] w fun e w' => e = .returned (.bool true) ∧ Below w.heap.size w w' := by
  have := oRight_any (.slice A 2 c) awT w hT (by decide)
  rw [aw_right] at this
  exact this
theorem aw_validY (A : Option Addr) (c : Nat) (w : World) (hT : Prs w w.heap.size (.slice A 2 c) awT) :
    Calls Try.prog 16 #[.slice A 2 c, .agg #[.int .u64 1, .int .u64 7]] w fun e w' => e = .returned (.bool true) ∧ Below w.heap.size w w' := by
  have := oValid_any (.slice A 2 c) awT (1, 7) w hT (by decide)
  rw [show (rightO awT && decide ((1, 7) ∈ awT)) = true by decide] at this
  exact this
theorem aw_validN (A : Option Addr) (c : Nat) (w : World) (hT : Prs w w.heap.size (.slice A 2 c) awT) :
    Calls Try.prog 16 #[.slice A 2 c, .agg #[.int .u64 1, .int .u64 6]] w fun e w' => e = .returned (.bool false) ∧ Below w.heap.size w w' := by
  have := oValid_any (.slice A 2 c) awT (1, 6) w hT (by decide)
  rw [show (rightO awT && decide ((1, 6) ∈ awT)) = false by decide] at this
  exact this
theorem aw_pairs (A : Option Addr) (c : Nat) (v : Value) (w : World) (hT : Prs w w.heap.size (.slice A 2 c) awT) (hv : Prs w w.heap.size v awT) :
    Calls Try.prog 18 #[.slice A 2 c, v] w fun e w' => e = .returned (.bool true) ∧ Below w.heap.size w w' := by
  have := orPairs_any (.slice A 2 c) v awT awT w hT hv (by decide) (by decide)
  simpa using this
/-- Two items, one behind the other, as a row. -/
theorem two_items {w : World} {g : Nat} {t : TypeId} {K1 P1 K2 P2 : Option Addr} {k1 p1 k2 p2 : Nat} {i1 i2 : Itm}
    (h : RowAt w g t [.slice K1 i1.ks.length k1, .int .u64 (i1.root : Int), .bool i1.f, .slice P1 i1.l.length p1, .slice K2 i2.ks.length k2, .int .u64 (i2.root : Int), .bool i2.f, .slice P2 i2.l.length p2])
    (a1 : Wds w w.heap.size (.slice K1 i1.ks.length k1) i1.ks) (b1 : Prs w w.heap.size (.slice P1 i1.l.length p1) i1.l) (a2 : Wds w w.heap.size (.slice K2 i2.ks.length k2) i2.ks) (b2 : Prs w w.heap.size (.slice P2 i2.l.length p2) i2.l) :
    ItRow w (.slice (some ⟨g, 0, none⟩) 2 2) [i1, i2] := by
  refine ⟨some ⟨g, 0, none⟩, 2, rfl, Nat.le_refl _, fun _ => ⟨⟨g, 0, none⟩, rfl, h.lt, fun j i hj => ?_⟩⟩
  match j, hj with
  | 0, hj =>
    simp at hj
    subst hj
    exact ⟨K1, P1, k1, p1, h.cell 0, h.cell 1, h.cell 2, h.cell 3, a1, b1⟩
  | 1, hj =>
    simp at hj
    subst hj
    exact ⟨K2, P2, k2, p2, h.cell 4, h.cell 5, h.cell 6, h.cell 7, a2, b2⟩
end Go.Proofs.Ytjjccoliknngcaa

namespace Go.Proofs.Ytjjccoliknngcaa
open Go.RowKit Go.Lib

theorem aw_short0 : Short [] := by unfold Short; simp
theorem aw_shortY : Short [⟨[2, 1], 7, false, awT⟩, ⟨[2, 1], 7, false, awT⟩] := by unfold Short; simp [awT]
theorem aw_shortN : Short [⟨[2, 1], 7, false, awT⟩, ⟨[1], 7, false, awT⟩] := by unfold Short; simp [awT]
theorem aw_allY : ([⟨[2, 1], 7, false, awT⟩, ⟨[2, 1], 7, false, awT⟩] : List Itm).all (Itm.ok awT) = true := by simp [Itm.ok, aw_checkY]
theorem aw_allN : ([⟨[2, 1], 7, false, awT⟩, ⟨[1], 7, false, awT⟩] : List Itm).all (Itm.ok awT) = false := by simp [Itm.ok, aw_checkL]

set_option maxHeartbeats 4000000 in
set_option maxRecDepth 100000 in
theorem awake7_any (w : World) : Calls Try.prog 9 #[] w fun e w' => e = .returned (.bool true) ∧ Below w.heap.size w w' := by
  go_enter Try.func9, Try.ntmps9
  have hA := Prs.row (l := [(2, 7), (1, 7), (2, 7)]) (RowAt.new w 27 #[.int .u64 2, .int .u64 7, .int .u64 1, .int .u64 7, .int .u64 2, .int .u64 7])
  have bA := (Below.refl w.heap.size w).alloc (Nat.le_refl _) (.cells #[.int .u64 2, .int .u64 7, .int .u64 1, .int .u64 7, .int .u64 2, .int .u64 7] 27)
  go_wp2_with fail
  with_reducible refine (aw_add (.slice (some ⟨w.heap.size, 0, none⟩) 3 3) _ hA).mono ?_
  rintro e w1 ⟨A, c, rfl, hT, b1⟩
  have B1 := bA.trans (b1.mono bA.size)
  clear hA bA b1
  have hK := Elems.row (enc := fun n : Nat => Value.int .u64 (n : Int)) (xs := [2, 1]) (RowAt.new w1 25 #[.int .u64 2, .int .u64 1])
  have bK := (Below.refl w1.heap.size w1).alloc (Nat.le_refl _) (.cells #[.int .u64 2, .int .u64 1] 25)
  go_wp2_with fail
  with_reducible refine (aw_sign (.slice (some ⟨w1.heap.size, 0, none⟩) 2 2) _ hK).mono ?_
  rintro e w2 ⟨S, sc, rfl, hS, b2⟩
  have b12 := bK.trans (b2.mono bK.size)
  replace hT := hT.on b12
  have B2 := B1.trans (b12.mono B1.size)
  clear hK bK b2 b12 B1
  go_upto_region 3 with (fail)
  have qS := RowAt.new w2 40 #[.bool false, .slice S 2 sc]
  have b3 := (Below.refl w2.heap.size w2).alloc (Nat.le_refl _) (.cells #[.bool false, .slice S 2 sc] 40)
  replace hT := hT.on b3
  replace hS := hS.on b3
  have B3 := B2.trans (b3.mono B2.size)
  clear b3 B2
  have zS := qS.lt
  generalize w2.alloc (.cells #[.bool false, .slice S 2 sc] 40) = w3 at *
  generalize w2.heap.size = gS at *
  have hA := Prs.row (l := [(2, 0), (1, 0)]) (RowAt.new w3 27 #[.int .u64 2, .int .u64 0, .int .u64 1, .int .u64 0])
  have bA := (Below.refl w3.heap.size w3).alloc (Nat.le_refl _) (.cells #[.int .u64 2, .int .u64 0, .int .u64 1, .int .u64 0] 27)
  go_wp2_with fail
  with_reducible refine (aw_addw (.slice (some ⟨w3.heap.size, 0, none⟩) 2 2) _ hA).mono ?_
  rintro e w4 ⟨N, nc, rfl, b4⟩
  have b34 := bA.trans (b4.mono bA.size)
  replace hT := hT.on b34
  replace hS := hS.on b34
  replace qS := qS.on b34
  have B4 := B3.trans (b34.mono B3.size)
  clear hA bA b4 b34 B3 zS
  -- region 4: the keys, the item
  have bK := (Below.refl w4.heap.size w4).alloc (Nat.le_refl _) (.cells #[.int .u64 2, .int .u64 1] 25)
  have k4 := RowAt.new w4 25 #[.int .u64 2, .int .u64 1]
  have qK := qS.on bK
  obtain ⟨s0, s1⟩ := qK.two
  go_upto_region 5 with (fail)
  clear s0 s1 qK
  have i4 := RowAt.new (w4.alloc (.cells #[.int .u64 2, .int .u64 1] 25)) 44 #[.slice (some ⟨w4.heap.size, 0, none⟩) 2 2, .int .u64 7, .bool false, .slice S 2 sc]
  rw [World.size_alloc] at i4
  have bI := (Below.refl _ (w4.alloc (.cells #[.int .u64 2, .int .u64 1] 25))).alloc (Nat.le_refl _) (.cells #[.slice (some ⟨w4.heap.size, 0, none⟩) 2 2, .int .u64 7, .bool false, .slice S 2 sc] 44)
  replace k4 := k4.on bI
  have bb := bK.trans (bI.mono bK.size)
  replace hT := hT.on bb
  replace hS := hS.on bb
  replace qS := qS.on bb
  have B5 := B4.trans (bb.mono B4.size)
  clear bK bI bb B4
  generalize (w4.alloc (.cells #[.int .u64 2, .int .u64 1] 25)).alloc (.cells #[.slice (some ⟨w4.heap.size, 0, none⟩) 2 2, .int .u64 7, .bool false, .slice S 2 sc] 44) = w5 at *
  generalize w4.heap.size + 1 = gI4 at *
  generalize w4.heap.size = gK4 at *
  -- region 5: the keys, the item
  have bK := (Below.refl w5.heap.size w5).alloc (Nat.le_refl _) (.cells #[.int .u64 2, .int .u64 1] 25)
  have k5 := RowAt.new w5 25 #[.int .u64 2, .int .u64 1]
  have qK := qS.on bK
  obtain ⟨s0, s1⟩ := qK.two
  go_upto_region 6 with (fail)
  clear s0 s1 qK
  have i5 := RowAt.new (w5.alloc (.cells #[.int .u64 2, .int .u64 1] 25)) 44 #[.slice (some ⟨w5.heap.size, 0, none⟩) 2 2, .int .u64 8, .bool false, .slice S 2 sc]
  rw [World.size_alloc] at i5
  have bI := (Below.refl _ (w5.alloc (.cells #[.int .u64 2, .int .u64 1] 25))).alloc (Nat.le_refl _) (.cells #[.slice (some ⟨w5.heap.size, 0, none⟩) 2 2, .int .u64 8, .bool false, .slice S 2 sc] 44)
  replace k5 := k5.on bI
  have bb := bK.trans (bI.mono bK.size)
  replace hT := hT.on bb
  replace hS := hS.on bb
  replace qS := qS.on bb
  replace k4 := k4.on bb
  replace i4 := i4.on bb
  have B6 := B5.trans (bb.mono B5.size)
  clear bK bI bb B5
  generalize (w5.alloc (.cells #[.int .u64 2, .int .u64 1] 25)).alloc (.cells #[.slice (some ⟨w5.heap.size, 0, none⟩) 2 2, .int .u64 8, .bool false, .slice S 2 sc] 44) = w6 at *
  generalize w5.heap.size + 1 = gI5 at *
  generalize w5.heap.size = gK5 at *
  -- region 6: the keys, the item
  have bK := (Below.refl w6.heap.size w6).alloc (Nat.le_refl _) (.cells #[.int .u64 1] 25)
  have k6 := RowAt.new w6 25 #[.int .u64 1]
  have qK := qS.on bK
  obtain ⟨s0, s1⟩ := qK.two
  go_upto_region 7 with (fail)
  clear s0 s1 qK
  have i6 := RowAt.new (w6.alloc (.cells #[.int .u64 1] 25)) 44 #[.slice (some ⟨w6.heap.size, 0, none⟩) 1 1, .int .u64 7, .bool false, .slice S 2 sc]
  rw [World.size_alloc] at i6
  have bI := (Below.refl _ (w6.alloc (.cells #[.int .u64 1] 25))).alloc (Nat.le_refl _) (.cells #[.slice (some ⟨w6.heap.size, 0, none⟩) 1 1, .int .u64 7, .bool false, .slice S 2 sc] 44)
  replace k6 := k6.on bI
  have bb := bK.trans (bI.mono bK.size)
  replace hT := hT.on bb
  replace hS := hS.on bb
  replace qS := qS.on bb
  replace k4 := k4.on bb
  replace i4 := i4.on bb
  replace k5 := k5.on bb
  replace i5 := i5.on bb
  have B7 := B6.trans (bb.mono B6.size)
  clear bK bI bb B6
  generalize (w6.alloc (.cells #[.int .u64 1] 25)).alloc (.cells #[.slice (some ⟨w6.heap.size, 0, none⟩) 1 1, .int .u64 7, .bool false, .slice S 2 sc] 44) = w7 at *
  generalize w6.heap.size + 1 = gI6 at *
  generalize w6.heap.size = gK6 at *
  have K4 : Wds w7 w7.heap.size (.slice (some ⟨gK4, 0, none⟩) 2 2) [2, 1] := Elems.row (enc := fun n : Nat => Value.int .u64 (n : Int)) (xs := [2, 1]) k4
  have K5 : Wds w7 w7.heap.size (.slice (some ⟨gK5, 0, none⟩) 2 2) [2, 1] := Elems.row (enc := fun n : Nat => Value.int .u64 (n : Int)) (xs := [2, 1]) k5
  have K6 : Wds w7 w7.heap.size (.slice (some ⟨gK6, 0, none⟩) 1 1) [1] := Elems.row (enc := fun n : Nat => Value.int .u64 (n : Int)) (xs := [1]) k6
  clear k4 k5 k6
  have bA := (Below.refl w7.heap.size w7).alloc (Nat.le_refl _) (.cells #[.int .u64 1, .int .u64 7, .int .u64 2, .int .u64 7] 27)
  have bB := bA
  go_wp2_with fail
  with_reducible refine (aw_pairs A c (.slice (some ⟨w7.heap.size, 0, none⟩) 2 2) _ (hT.on bB) (Prs.row (l := awT) (RowAt.new w7 27 #[.int .u64 1, .int .u64 7, .int .u64 2, .int .u64 7]))).mono ?_
  rintro e v8 ⟨rfl, bN⟩
  have bX := bB.trans (bN.mono bB.size)
  clear bN bA bB
  have bW := bX
  clear bX
  obtain ⟨s0, s1⟩ := (qS.on bW).two
  obtain ⟨x0, x1, x2, x3⟩ := (i4.on bW).four
  go_wp2_with fail
  with_reducible refine (aw_check A S c sc (some ⟨gK4, 0, none⟩) 2 2 7 [2, 1] 7 true aw_checkY rfl rfl (by decide) (by decide) _ (hT.on bW) (K4.on bW) (hS.on bW)).mono ?_
  rintro e v9 ⟨rfl, bN⟩
  have bX := bW.trans (bN.mono bW.size)
  clear bN bW
  have bW := bX
  clear bX
  clear x0 x1 x2 x3
  clear s0 s1
  obtain ⟨x0, x1, x2, x3⟩ := (i5.on bW).four
  go_wp2_with fail
  with_reducible refine (aw_check A S c sc (some ⟨gK5, 0, none⟩) 2 2 8 [2, 1] 8 false aw_checkN rfl rfl (by decide) (by decide) _ (hT.on bW) (K5.on bW) (hS.on bW)).mono ?_
  rintro e v10 ⟨rfl, bN⟩
  have bX := bW.trans (bN.mono bW.size)
  clear bN bW
  have bW := bX
  clear bX
  clear x0 x1 x2 x3
  obtain ⟨x0, x1, x2, x3⟩ := (i6.on bW).four
  go_wp2_with fail
  with_reducible refine (aw_check A S c sc (some ⟨gK6, 0, none⟩) 1 1 7 [1] 7 false aw_checkL rfl rfl (by decide) (by decide) _ (hT.on bW) (K6.on bW) (hS.on bW)).mono ?_
  rintro e v11 ⟨rfl, bN⟩
  have bX := bW.trans (bN.mono bW.size)
  clear bN bW
  have bW := bX
  clear bX
  clear x0 x1 x2 x3
  go_wp2_with fail
  with_reducible refine (aw_all A c (.slice none 0 0) [] true rfl aw_short0 (by simp) _ (hT.on bW) (ItRow.nil _)).mono ?_
  rintro e v12 ⟨rfl, bN⟩
  have bX := bW.trans (bN.mono bW.size)
  clear bN bW
  have bW := bX
  clear bX
  obtain ⟨x0, x1, x2, x3⟩ := (i4.on bW).four
  have bA := (Below.refl v12.heap.size v12).alloc (Nat.le_refl _) (.cells #[.slice (some ⟨gK4, 0, none⟩) 2 2, .int .u64 7, .bool false, .slice S 2 sc, .slice (some ⟨gK4, 0, none⟩) 2 2, .int .u64 7, .bool false, .slice S 2 sc] 44)
  have bB := bW.trans (bA.mono bW.size)
  go_wp2_with fail
  with_reducible refine (aw_all A c (.slice (some ⟨v12.heap.size, 0, none⟩) 2 2) [⟨[2, 1], 7, false, awT⟩, ⟨[2, 1], 7, false, awT⟩] true aw_allY aw_shortY (by simp) _ (hT.on bB) (two_items (i1 := ⟨[2, 1], 7, false, awT⟩) (i2 := ⟨[2, 1], 7, false, awT⟩) (RowAt.new v12 44 #[.slice (some ⟨gK4, 0, none⟩) 2 2, .int .u64 7, .bool false, .slice S 2 sc, .slice (some ⟨gK4, 0, none⟩) 2 2, .int .u64 7, .bool false, .slice S 2 sc]) (K4.on bB) (hS.on bB) (K4.on bB) (hS.on bB))).mono ?_
  rintro e v13 ⟨rfl, bN⟩
  have bX := bB.trans (bN.mono bB.size)
  clear bN bA bB bW
  have bW := bX
  clear bX
  clear x0 x1 x2 x3
  obtain ⟨x0, x1, x2, x3⟩ := (i4.on bW).four
  obtain ⟨y0, y1, y2, y3⟩ := (i6.on bW).four
  have bA := (Below.refl v13.heap.size v13).alloc (Nat.le_refl _) (.cells #[.slice (some ⟨gK4, 0, none⟩) 2 2, .int .u64 7, .bool false, .slice S 2 sc, .slice (some ⟨gK6, 0, none⟩) 1 1, .int .u64 7, .bool false, .slice S 2 sc] 44)
  have bB := bW.trans (bA.mono bW.size)
  go_wp2_with fail
  with_reducible refine (aw_all A c (.slice (some ⟨v13.heap.size, 0, none⟩) 2 2) [⟨[2, 1], 7, false, awT⟩, ⟨[1], 7, false, awT⟩] false aw_allN aw_shortN (by simp) _ (hT.on bB) (two_items (i1 := ⟨[2, 1], 7, false, awT⟩) (i2 := ⟨[1], 7, false, awT⟩) (RowAt.new v13 44 #[.slice (some ⟨gK4, 0, none⟩) 2 2, .int .u64 7, .bool false, .slice S 2 sc, .slice (some ⟨gK6, 0, none⟩) 1 1, .int .u64 7, .bool false, .slice S 2 sc]) (K4.on bB) (hS.on bB) (K6.on bB) (hS.on bB))).mono ?_
  rintro e v14 ⟨rfl, bN⟩
  have bX := bB.trans (bN.mono bB.size)
  clear bN bA bB bW
  have bW := bX
  clear bX
  clear x0 x1 x2 x3
  clear y0 y1 y2 y3
  go_wp2_with fail
  with_reducible refine (aw_rightC A c _ (hT.on bW)).mono ?_
  rintro e v15 ⟨rfl, bN⟩
  have bX := bW.trans (bN.mono bW.size)
  clear bN bW
  have bW := bX
  clear bX
  go_wp2_with fail
  with_reducible refine (aw_validY A c _ (hT.on bW)).mono ?_
  rintro e v16 ⟨rfl, bN⟩
  have bX := bW.trans (bN.mono bW.size)
  clear bN bW
  have bW := bX
  clear bX
  go_wp2_with fail
  with_reducible refine (aw_validN A c _ (hT.on bW)).mono ?_
  rintro e v17 ⟨rfl, bN⟩
  have bX := bW.trans (bN.mono bW.size)
  clear bN bW
  have bW := bX
  clear bX
  have BW := B7.trans (bW.mono B7.size)
  go_wp2_with fail
  go_ret
  exact ⟨rfl, BW⟩
end Go.Proofs.Ytjjccoliknngcaa

namespace Go.Proofs.Ytjjccoliknngcaa
open Go.RowKit

theorem sign_all (r : Nat) (ks : List Nat) (t : List Pr) : ((signL r ks).all fun p => decide (p ∈ t)) = ks.all fun k => decide ((k, r) ∈ t) := by
  rw [(signL_perm r ks).all_eq, List.all_map]; rfl
/-- Whether what Sign tells of keys is right for them. -/
theorem check_own (t : List Pr) (ks : List Nat) (r : Nat) : checkO t ks r false (signL r ks) = (rightO t && !ks.isEmpty && decide ks.Nodup && decide (ks.length ≤ 2048) && ks.all fun k => decide ((k, r) ∈ t)) := by
  unfold checkO
  rw [sign_all]
  simp
theorem sign_right {r : Nat} {ks : List Nat} (h : ks.length ≤ 2048) : rightT (signL r ks) = true := by
  unfold rightT
  rw [signL_srt, decide_eq_true (by rw [signL_length]; exact h)]; rfl
theorem merge_two {r : Nat} {a b : List Nat} (h : a.length + b.length ≤ 2048) : mergeT [(false, signL r a), (false, signL r b)] = (0, false, signL r (a ++ b)) := by
  have h1 : allRight [(false, signL r a), (false, signL r b)] = true := by simp [allRight, sign_right (r := r) (ks := a) (by omega), sign_right (r := r) (ks := b) (by omega)]
  have h2 : tSumLen [(false, signL r a), (false, signL r b)] = a.length + b.length := by simp [tSumLen, signL_length]
  have h3 : mrgAll [signL r a, signL r b] = signL r (a ++ b) := mrgAll_eq (by intro l hl; simp at hl; rcases hl with rfl | rfl <;> exact signL_srt _ _) (signL_srt _ _) (by
    have e := (signL_perm r (a ++ b)).symm
    rw [List.map_append] at e
    have e2 : ([signL r a, signL r b] : List (List Pr)).flatten.Perm (a.map (fun k => (k, r)) ++ b.map fun k => (k, r)) := by
      simp
      exact (signL_perm r a).append (signL_perm r b)
    first | exact e2.trans e | exact (e2.trans e).symm)
  unfold mergeT
  rw [h1, if_neg (by simp), h2, if_neg (by omega)]
  simp [h3]
theorem merge_parts {r : Nat} {ks : List Nat} (n : Nat) (h : ks.length ≤ 2048) : mergeT [(false, signL r (ks.take n)), (false, signL r (ks.drop n))] = (0, false, signL r ks) := by
  rw [merge_two (by rw [List.length_take, List.length_drop]; omega), List.take_append_drop]
/-- With a key more than once it is right for none. -/
theorem check_more (t : List Pr) (ks : List Nat) (r k : Nat) : checkO t ks r false (signL r (ks ++ [k])) = false := by
  refine checkO_unlike ?_
  have : signL r ks ≠ signL r (ks ++ [k]) := fun e => by
    have := congrArg List.length e
    rw [signL_length, signL_length, List.length_append] at this
    simp at this
  simp [sameT, this]
theorem check_apart {t : List Pr} {ks : List Nat} {r : Nat} (hn : ks.Nodup) (h9 : ks.length ≤ 2048) (n : Nat) :
    (checkO t (ks.take n) r false (signL r (ks.take n)) = true → checkO t (ks.drop n) r false (signL r (ks.drop n)) = true → checkO t ks r false (signL r ks) = true) ∧
    (checkO t ks r false (signL r ks) = true → 0 < n → checkO t (ks.take n) r false (signL r (ks.take n)) = true) ∧
    (checkO t ks r false (signL r ks) = true → n < ks.length → checkO t (ks.drop n) r false (signL r (ks.drop n)) = true) := by
  have e := List.take_append_drop n ks
  have n1 : (ks.take n).Nodup := hn.sublist (List.take_sublist _ _)
  have n2 : (ks.drop n).Nodup := hn.sublist (List.drop_sublist _ _)
  have l1 : (ks.take n).length ≤ 2048 := by rw [List.length_take]; omega
  have l2 : (ks.drop n).length ≤ 2048 := by rw [List.length_drop]; omega
  have ha : (ks.all fun k => decide ((k, r) ∈ t)) = ((ks.take n).all (fun k => decide ((k, r) ∈ t)) && (ks.drop n).all fun k => decide ((k, r) ∈ t)) := by rw [← List.all_append, e]
  rw [check_own, check_own, check_own, ha, decide_eq_true hn, decide_eq_true n1, decide_eq_true n2, decide_eq_true h9, decide_eq_true l1, decide_eq_true l2]
  simp only [Bool.and_eq_true, Bool.not_eq_true', Bool.and_true, List.isEmpty_eq_false_iff]
  refine ⟨fun h k => ⟨⟨h.1.1, fun e0 => h.1.2 (by rw [e0]; simp)⟩, h.2, k.2⟩, fun h h0 => ⟨⟨h.1.1, fun e0 => ?_⟩, h.2.1⟩, fun h h0 => ⟨⟨h.1.1, fun e0 => ?_⟩, h.2.2⟩⟩
  · have := congrArg List.length e0
    rw [List.length_take] at this
    simp at this
    rcases this with h1 | h1
    · omega
    · exact h.1.2 h1
  · have := congrArg List.length e0
    rw [List.length_drop] at this
    simp at this
    omega
end Go.Proofs.Ytjjccoliknngcaa
