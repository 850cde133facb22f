/- oracle's own ahead and order; slices.SortFunc over pairs, by oracle.order. -/
import Derived.Test.YtjjccoliknngcaaTokH
import Derived.Test.YtjjccoliknngcaaOrcF
namespace Go.Proofs.Ytjjccoliknngcaa
open Go.RowKit Go.Shelf
open Go.Sort hiding Below

set_option maxHeartbeats 400000 in
theorem oahead_any (a1 a2 b1 b2 : Nat) (w : World) :
    Calls Try.prog 36 #[.agg #[.int .u64 a1, .int .u64 a2], .agg #[.int .u64 b1, .int .u64 b2]] w fun e w' => e = .returned (.bool (aheadB (a1, a2) (b1, b2))) ∧ w' = (w.alloc (pcell a1 a2)).alloc (pcell b1 b2) := by
  unfold aheadB
  by_cases h1 : a1 < b1
  · have h1a : ((a1 : Int) < (b1 : Int)) = True := eq_true (by omega)
    have h1b : (a1 < b1) = True := eq_true h1
    go_enter Try.func36, Try.ntmps36
    go_wp2
    go_ret
    exact ⟨by simp [h1], rfl⟩
  · have h1a : ((a1 : Int) < (b1 : Int)) = False := eq_false (by omega)
    have h1b : (a1 < b1) = False := eq_false h1
    by_cases h2 : a1 = b1
    · subst h2
      clear h1 h1a h1b
      go_enter Try.func36, Try.ntmps36
      go_wp2
      go_ret
      exact ⟨by simp, rfl⟩
    · have h2a : ((a1 : Int) == (b1 : Int)) = false := by simp; omega
      clear h1
      go_enter Try.func36, Try.ntmps36
      go_wp2
      go_ret
      exact ⟨by simp [h1b, h2], rfl⟩
set_option maxHeartbeats 1000000 in
theorem oorder_any (a b : Pr) (w : World) :
    Calls Try.prog 32 #[.agg #[.int .u64 (a.1 : Int), .int .u64 (a.2 : Int)], .agg #[.int .u64 (b.1 : Int), .int .u64 (b.2 : Int)]] w fun e w' => e = .returned (.int .i64 (ordI a b)) ∧ ∃ q os, w' = grow (w.drewN q) os := by
  obtain ⟨a1, a2⟩ := a
  obtain ⟨b1, b2⟩ := b
  have cA := fun W => oahead_any a1 a2 b1 b2 W
  unfold ordI
  simp only
  by_cases h1 : a1 = b1
  · subst h1
    by_cases h2 : a2 = b2
    · subst h2
      rw [if_pos rfl]
      go_enter Try.func32, Try.ntmps32
      go_wp2_with fail
      go_ret
      exact ⟨rfl, 0, _, grown2 _ _ _⟩
    · have h2a : ((a2 : Int) = (b2 : Int)) = False := eq_false (by omega)
      rw [if_neg (by simp [h2])]
      clear h2
      cases hh : aheadB (a1, a2) (a1, b2) <;> rw [hh] at cA <;> clear hh
      all_goals
        go_enter Try.func32, Try.ntmps32
        go_wp2_with (go_at_call 36; refine (cA _).mono ?_; rintro e w1 ⟨rfl, rfl⟩)
        go_ret
        exact ⟨rfl, 0, _, by rw [grown2, grown2, grow_grow]; rfl⟩
  · have h1a : ((a1 : Int) = (b1 : Int)) = False := eq_false (by omega)
    rw [if_neg (by simp [h1])]
    clear h1
    cases hh : aheadB (a1, a2) (b1, b2) <;> rw [hh] at cA <;> clear hh
    all_goals
      go_enter Try.func32, Try.ntmps32
      go_wp2_with (go_at_call 36; refine (cA _).mono ?_; rintro e w1 ⟨rfl, rfl⟩)
      go_ret
      exact ⟨rfl, 0, _, by rw [grown2, grown2, grow_grow]; rfl⟩
theorem ocmpLays_order (blk off size : Nat) (w : World) : CmpLays Try.prog 32 #[] pairCells 2 ordI blk off size w :=
  fun _ _ _ _ x y => oorder_any x y _
set_option maxHeartbeats 400000 in
theorem osort_any (g cap base : Nat) (l : List Pr) (w : World) (h : w.ownsRow base 27 2 (.slice (some ⟨g, 0, none⟩) l.length cap) l.length (l.flatMap pairCells)) (hl : l.length ≤ 1000000) (hlc : l.length ≤ cap) :
    Calls Try.prog 31 #[.slice (some ⟨g, 0, none⟩) l.length cap, .func (.func 32) #[] #[]] w fun e w' =>
      e = .returned (.tuple #[]) ∧ ∃ l' : List Pr, l'.Perm l ∧ srt l' = true ∧ Prs w' w'.heap.size (.slice (some ⟨g, 0, none⟩) l.length cap) l' ∧ But g w w' := by
  obtain ⟨hH, hg⟩ := holds_own h
  have eg : ∀ args w, (callFunc 32 args).run Try.prog w = .ok (.enter 32 args) w := enters_of Try.func32 (by kernel_rfl) rfl
  have hcon := AnyQ.slices_SortFunc Try.sortP 2 Try.isAgg27 Try.sizeOf27 pairCells (fun _ => rfl) (fun x v hv => by simp [pairCells] at hv; rcases hv with rfl | rfl <;> rfl) ordI swo_ord 32 #[] g 0 cap l.toArray w eg (ocmpLays_order g 0 _ w) hH hg (by simp; omega)
  refine Calls.mono (h := hcon) ?_
  rintro e w' ⟨he, d', n, os, hp, hs, rfl⟩
  refine ⟨he, d'.toList, ?_, ?_, ?_, but_sort w g n d' os hg⟩
  · have h1 := hp.2.2
    have h2 := hp.1
    simp only [List.size_toArray] at h1 h2
    rw [Array.extract_eq_self_of_le (by omega), Array.extract_eq_self_of_le (by simp)] at h1
    exact h1
  · have h2 := hp.1
    simp only [List.size_toArray] at h2
    rw [srt_iff, List.pairwise_iff_getElem]
    intro i j hi hj hij
    have h3 := hs i j (Nat.zero_le _) hij (by simpa [h2] using hj)
    have hi' : i < d'.size := by simpa using hi
    have hj' : j < d'.size := by simpa using hj
    rw [getElem!_pos d' i hi', getElem!_pos d' j hj'] at h3
    unfold ltOf at h3
    rw [decide_eq_false_iff_not, ordI_lt] at h3
    unfold Le
    simpa using h3
  · have h2 := hp.1
    simp only [List.size_toArray] at h2
    have hK : HoldsK pairCells 2 (sortWorldK pairCells 2 w g 0 n d' os) g 0 d' :=
      holdsK_grow pairCells 2 _ os g 0 d' (by show g < (w.heap.modify g _).size; rw [Array.size_modify]; exact hg) (holdsK_putRowK pairCells 2 (Sort.ahead w n) g 0 l.toArray d' (holdsK_ahead pairCells 2 w n g 0 _ hH) (by simp [h2]))
    refine ⟨some ⟨g, 0, none⟩, cap, by simp [h2], ⟨by simp [h2]; exact hlc, fun h => by cases h⟩, fun _ => ⟨⟨g, 0, none⟩, rfl, ?_, fun j p hj => ?_⟩⟩
    · exact Nat.lt_of_lt_of_le hg (but_sort w g n d' os hg).size
    · have hjl : j < d'.size := by
        rcases Nat.lt_or_ge j d'.toList.length with k | k
        · simpa using k
        · rw [List.getElem?_eq_none k] at hj; cases hj
      have hp1 : d'[j]! = p := by
        rw [getElem!_pos d' j hjl]
        have := hj
        rw [List.getElem?_eq_getElem (by simpa using hjl)] at this
        simpa using this
      have c1 := (hK.cell hjl (show 0 < 2 by decide)).1
      have c2 := (hK.cell hjl (show 1 < 2 by decide)).1
      rw [hp1] at c1 c2
      rw [addr0, addr0]
      refine ⟨?_, ?_⟩
      · simpa [pairCells] using c1
      · simpa [pairCells] using c2
end Go.Proofs.Ytjjccoliknngcaa
