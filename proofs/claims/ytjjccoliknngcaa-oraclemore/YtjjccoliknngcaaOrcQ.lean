/- Layer 7's Add. -/
import Derived.Test.YtjjccoliknngcaaOrcO
namespace Go.Proofs.Ytjjccoliknngcaa
open Go.RowKit Go.Lib Go.Shelf
open Go.RowKit Go.Shelf
open Go.Sort hiding Below

theorem end_none {P : Program} {fn : Func} {R : Ending → World → Prop} {a : Act} {w : World} (hr : fn.results = #[]) (hd : a.defers = []) (hR : R (.returned (.tuple #[])) w) : bodyPost P fn R .normal a w := by
  simp [bodyPost, hd, hr, results, go_sem, hR]

set_option maxHeartbeats 2000000 in
set_option maxRecDepth 100000 in
theorem oins_nil (w : World) : Calls Try.prog 52 #[.slice none 0 0, .int .i64 0, .int .i64 0, .func (.func 32) #[] #[]] w fun e w' => e = .returned (.tuple #[]) ∧ w' = w := by
  go_enter Try.func52, Try.ntmps52
  go_wp2_with fail
  go_loopw [8] (fun i wr => i = .int .i64 1 ∧ wr = w) (fun _ _ => 0)
  case atStart => exact ⟨rfl, rfl⟩
  case round =>
    obtain ⟨rfl, rfl⟩ := hrel
    go_wp2_with fail
    exact end_none (by kernel_rfl) rfl ⟨rfl, rfl⟩
set_option maxHeartbeats 2000000 in
set_option maxRecDepth 100000 in
theorem olen64_zero (w : World) : Calls Try.prog 61 #[.int .u64 0] w fun e w' => (∃ n, e = .returned (.int .i64 n)) ∧ w' = w := by
  go_enter Try.func61, Try.ntmps61
  go_wp2_with fail
  go_ret
  exact ⟨⟨_, rfl⟩, rfl⟩
set_option maxHeartbeats 2000000 in
set_option maxRecDepth 100000 in
theorem olen_zero (w : World) : Calls Try.prog 47 #[.int .u64 0] w fun e w' => (∃ n, e = .returned (.int .i64 n)) ∧ w' = w := by
  go_enter Try.func47, Try.ntmps47
  go_wp2_with fail
  with_reducible refine (olen64_zero _).mono ?_
  rintro e w1 ⟨⟨n, rfl⟩, rfl⟩
  go_wp2_with fail
  go_ret
  exact ⟨⟨_, rfl⟩, rfl⟩
set_option maxHeartbeats 2000000 in
set_option maxRecDepth 100000 in
theorem opdq_nil (n : Int) (w : World) : Calls Try.prog 46 #[.slice none 0 0, .int .i64 0, .int .i64 0, .int .i64 n, .func (.func 32) #[] #[]] w fun e w' => e = .returned (.tuple #[]) ∧ Below w.heap.size w w' := by
  go_enter Try.func46, Try.ntmps46
  go_wp2_with fail
  go_loopw [1, 2] (fun a b wr => a = .int .i64 0 ∧ b = .int .i64 0 ∧ wr = w) (fun _ _ _ => 0)
  case atStart => exact ⟨rfl, rfl, rfl⟩
  case round =>
    obtain ⟨rfl, rfl, rfl⟩ := hrel
    go_wp2_with fail
    with_reducible refine (oins_nil _).mono ?_
    rintro e w1 ⟨rfl, rfl⟩
    go_wp2_with fail
    refine bodyPost_ret (v := .tuple #[]) (by simp [results, Try.results46, go_sem]) rfl ?_
    exact ⟨rfl, Below.refl _ _⟩
set_option maxHeartbeats 2000000 in
set_option maxRecDepth 100000 in
theorem osort_nil (w : World) : Calls Try.prog 31 #[.slice none 0 0, .func (.func 32) #[] #[]] w fun e w' => e = .returned (.tuple #[]) ∧ Below w.heap.size w w' := by
  go_enter Try.func31, Try.ntmps31
  go_wp2_with fail
  with_reducible refine (olen_zero _).mono ?_
  rintro e w1 ⟨⟨n, rfl⟩, rfl⟩
  go_wp2_with fail
  with_reducible refine (opdq_nil _ _).mono ?_
  rintro e w2 ⟨rfl, b2⟩
  go_wp2_with fail
  exact end_none (by kernel_rfl) rfl ⟨rfl, b2⟩
set_option maxHeartbeats 400000 in
theorem osortP_any (g cap base : Nat) (l : List Pr) (w : World) (h : w.ownsRow base 27 2 (.slice (some ⟨g, 0, none⟩) l.length cap) l.length (l.flatMap pairCells)) (hl : l.length ≤ 1000000) (_hlc : l.length ≤ cap) :
    Calls Try.prog 31 #[.slice (some ⟨g, 0, none⟩) l.length cap, .func (.func 32) #[] #[]] w fun e w' =>
      e = .returned (.tuple #[]) ∧ ∃ l' : List Pr, l'.Perm l ∧ srt l' = true ∧ Pcs w' g l' ∧ But g w w' := by
  obtain ⟨hH, hg⟩ := holds_own h
  have eg : ∀ args w, (callFunc 32 args).run Try.prog w = .ok (.enter 32 args) w := enters_of Try.func32 (by kernel_rfl) rfl
  have hcon := AnyQ.slices_SortFunc Try.sortP 2 Try.isAgg27 Try.sizeOf27 pairCells (fun _ => rfl) (fun x v hv => by simp [pairCells] at hv; rcases hv with rfl | rfl <;> rfl) ordI swo_ord 32 #[] g 0 cap l.toArray w eg (ocmpLays_order g 0 _ w) hH hg (by simp; omega)
  refine Calls.mono (h := hcon) ?_
  rintro e w' ⟨he, d', n, os, hp, hs, rfl⟩
  refine ⟨he, d'.toList, ?_, ?_, ?_, but_sort w g n d' os hg⟩
  · have h1 := hp.2.2
    have h2 := hp.1
    simp only [List.size_toArray] at h1 h2
    rw [Array.extract_eq_self_of_le (by omega), Array.extract_eq_self_of_le (by simp)] at h1
    exact h1
  · have h2 := hp.1
    simp only [List.size_toArray] at h2
    rw [srt_iff, List.pairwise_iff_getElem]
    intro i j hi hj hij
    have h3 := hs i j (Nat.zero_le _) hij (by simpa [h2] using hj)
    have hi' : i < d'.size := by simpa using hi
    have hj' : j < d'.size := by simpa using hj
    rw [getElem!_pos d' i hi', getElem!_pos d' j hj'] at h3
    unfold ltOf at h3
    rw [decide_eq_false_iff_not, ordI_lt] at h3
    unfold Le
    simpa using h3
  · have h2 := hp.1
    simp only [List.size_toArray] at h2
    have hK : HoldsK pairCells 2 (sortWorldK pairCells 2 w g 0 n d' os) g 0 d' :=
      holdsK_grow pairCells 2 _ os g 0 d' (by show g < (w.heap.modify g _).size; rw [Array.size_modify]; exact hg) (holdsK_putRowK pairCells 2 (Sort.ahead w n) g 0 l.toArray d' (holdsK_ahead pairCells 2 w n g 0 _ hH) (by simp [h2]))
    refine ⟨Nat.lt_of_lt_of_le hg (but_sort w g n d' os hg).size, fun j p hj => ?_⟩
    have hjl : j < d'.size := by
      rcases Nat.lt_or_ge j d'.toList.length with k | k
      · simpa using k
      · rw [List.getElem?_eq_none k] at hj; cases hj
    have hp1 : d'[j]! = p := by
      rw [getElem!_pos d' j hjl]
      have := hj
      rw [List.getElem?_eq_getElem (by simpa using hjl)] at this
      simpa using this
    have c1 := hK.cell hjl (show 0 < 2 by decide)
    have c2 := hK.cell hjl (show 1 < 2 by decide)
    rw [hp1] at c1 c2
    refine ⟨by simpa [pairCells] using c1.1, by simpa [pairCells] using c2.1, by simpa using c1.2, by simpa using c2.2⟩

set_option maxHeartbeats 2000000 in
set_option maxRecDepth 100000 in
theorem ocomp_nil (w : World) : Calls Try.prog 33 #[.slice none 0 0] w fun e w' => e = .returned (.slice none 0 0) ∧ w' = w := by
  go_enter Try.func33, Try.ntmps33
  go_wp2_with fail
  go_ret
  exact ⟨rfl, rfl⟩
theorem add_rows {t m l' : List Pr} (ht : Rise t) (hp : l'.Perm (t ++ m)) (hs : srt l' = true) : addL t m = kp l' l'.length := by
  obtain ⟨h1, h2⟩ := kp_rise hs l'.length (Nat.le_refl _)
  refine addL_eq ht h1 fun x => ?_
  rw [h2, List.take_length, hp.mem_iff, List.mem_append]
theorem cat_two (v u : Value) (t m : List Pr) : catTo [(v, t), (u, m)] 2 = t ++ m := by simp [catTo]

set_option maxHeartbeats 4000000 in
set_option maxRecDepth 100000 in
theorem oAdd_any (v u : Value) (t m : List Pr) (w : World) (hv : Prs w w.heap.size v t) (hu : Prs w w.heap.size u m) (h9 : t.length ≤ 100000) (h9m : m.length ≤ 100000) :
    Calls Try.prog 12 #[v, u] w fun e w' => ∃ A c, e = .returned (.tuple #[.slice A (addO t m).1.length c, .int .i64 (addO t m).2]) ∧ Prs w' w'.heap.size (.slice A (addO t m).1.length c) (addO t m).1 ∧ Below w.heap.size w w' := by
  obtain ⟨A, c, rfl, hc⟩ := hv.form
  obtain ⟨B, d, rfl, hd⟩ := hu.form
  have cR := oRight_any (.slice A t.length c) t w hv (by omega)
  obtain ⟨RE, hRE⟩ : ∃ RE, addO t m = RE := ⟨_, rfl⟩
  rw [hRE]
  obtain ⟨R, E⟩ := RE
  unfold addO at hRE
  cases hr : rightO t
  · rw [hr] at cR hRE
    rw [if_neg (by simp)] at hRE
    cases hRE
    go_enter Try.func12, Try.ntmps12
    go_wp2_with fail
    with_reducible refine cR.mono ?_
    rintro e w1 ⟨rfl, b1⟩
    go_wp2_with fail
    go_ret2
    exact ⟨none, 0, rfl, Prs.nil _ _, b1⟩
  · rw [hr] at cR hRE
    rw [if_pos rfl] at hRE
    have HRE := Lib.hid hRE
    clear hRE
    have hrt := ((rightO_iff t).1 hr).2
    have cC := fun (g : Nat) (W : World) (h1 : RowAt W g 22 [.slice A t.length c, .slice B m.length d]) (h2 : Prs W W.heap.size (.slice A t.length c) t) (h3 : Prs W W.heap.size (.slice B m.length d) m) =>
      oConcat_any g 2 22 [(.slice A t.length c, t), (.slice B m.length d, m)] W h1 (fun x hx => by simp at hx; rcases hx with rfl | rfl <;> assumption) (by simp) (by show (catTo _ 2).length ≤ _; rw [cat_two, List.length_append]; omega)
    simp only [List.length_cons, List.length_nil, Nat.zero_add, Nat.reduceAdd, cat_two] at cC
    go_enter Try.func12, Try.ntmps12
    go_wp2_with fail
    with_reducible refine cR.mono ?_
    rintro e w1 ⟨rfl, b1⟩
    clear cR
    have r2 := RowAt.new w1 22 #[.slice A t.length c, .slice B m.length d]
    have ba := (Below.refl w1.heap.size w1).alloc (Nat.le_refl _) (.cells #[.slice A t.length c, .slice B m.length d] 22)
    have hv2 := (hv.on b1).on ba
    have hu2 := (hu.on b1).on ba
    have b2 := b1.trans (ba.mono b1.size)
    clear hv hu
    go_upto_region 4 with (fail)
    with_reducible refine (cC _ _ r2 hv2 hu2).mono ?_
    rintro e w3 ⟨x, rfl, own3, b3⟩
    have hb3 := b2.trans (b3.mono b2.size)
    have hl9 : (t ++ m).length ≤ 1000000 := by rw [List.length_append]; omega
    have HP := Lib.hid (fun (l' : List Pr) h1 h2 => add_rows (m := m) (l' := l') hrt h1 h2)
    have hz3 : w.heap.size ≤ (w1.alloc (.cells #[.slice A t.length c, .slice B m.length d] 22)).heap.size := b2.size
    rcases own3.2 with ⟨rfl, h0⟩ | ⟨g, cap, cur, rfl, hg, hcell, hnc, hc9, hsz, hcur⟩
    · have h00 : t ++ m = [] := List.eq_nil_of_length_eq_zero h0
      have hA : addL t m = [] := by
        have := HP.out [] (by rw [h00]) rfl
        rw [this]; rfl
      have hRE := HRE.out
      rw [hA, if_neg (by simp)] at hRE
      cases hRE
      clear own3 HP HRE cC r2 hv2 hu2
      go_wp2_with fail
      with_reducible refine (osort_nil _).mono ?_
      rintro e w4 ⟨rfl, b4⟩
      have hb4 := hb3.trans (b4.mono hb3.size)
      go_wp2_with fail
      with_reducible refine (ocomp_nil _).mono ?_
      rintro e w5 ⟨rfl, rfl⟩
      go_wp2_with fail
      go_ret2
      exact ⟨none, 0, rfl, Prs.nil _ _, hb4⟩
    · have cS := osortP_any g cap _ (t ++ m) w3 own3 hl9 hnc
      clear own3 cC r2 hv2 hu2 hcell hsz hcur
      generalize t ++ m = L at *
      go_wp2_with fail
      with_reducible refine cS.mono ?_
      rintro e w4 ⟨rfl, l', hperm, hsrt, hP4, but4⟩
      have hlen := hperm.length_eq
      have hb4 : Below w.heap.size w w4 := but4.below hb3 (Nat.le_trans hz3 hg) hb3.size
      have hA := HP.out l' hperm hsrt
      have hRE := HRE.out
      rw [hA] at hRE
      have cK := oCompact_any g cap l' w4 hP4 (by omega) (by omega) hc9
      rw [hlen] at cK hRE
      have hg4 : w.heap.size ≤ g := Nat.le_trans hz3 hg
      have hkl := kp_le l' L.length
      clear HP HRE cS hP4 but4 hperm hsrt hA
      generalize kp l' L.length = K at *
      go_wp2_with fail
      with_reducible refine cK.mono ?_
      rintro e w5 ⟨rfl, hP5, but5⟩
      have hb5 : Below w.heap.size w w5 := but5.below hb4 hg4 hb4.size
      clear cK but5
      by_cases hl : 4096 < K.length
      · have hd : ((4096 : Int) < (K.length : Int)) = True := eq_true (by omega)
        rw [if_pos hl] at hRE
        cases hRE
        go_wp2_with fail
        go_ret2
        exact ⟨none, 0, rfl, Prs.nil _ _, hb5⟩
      · have hd : ((4096 : Int) < (K.length : Int)) = False := eq_false (by omega)
        rw [if_neg hl] at hRE
        cases hRE
        go_wp2_with fail
        go_ret2
        exact ⟨_, _, rfl, hP5, hb5⟩
end Go.Proofs.Ytjjccoliknngcaa
