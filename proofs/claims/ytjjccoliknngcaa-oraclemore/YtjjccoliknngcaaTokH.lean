/- slices.SortFunc over pairs, by token.order: the pairs in their order. -/
import Derived.Test.YtjjccoliknngcaaTokG
import Derived.Test.YtjjccoliknngcaaShelfB
namespace Go.Proofs.Ytjjccoliknngcaa
open Go.RowKit Go.Shelf
open Go.Sort hiding Below

theorem swo_ord : SWO (ltOf ordI) where
  irrefl x := by
    unfold ltOf
    have := ordI_lt x x
    have h2 := ahead_iff x x
    rw [decide_eq_false_iff_not, this, h2]; omega
  trans x y z h1 h2 := by
    unfold ltOf at *
    rw [decide_eq_true_iff, ordI_lt, ahead_iff] at *
    omega
  ntrans x y z h1 h2 := by
    unfold ltOf at *
    rw [decide_eq_false_iff_not, ordI_lt, ahead_iff] at *
    omega

theorem flatK_pairs (l : List Pr) (j : Nat) (hj : j < l.length * 2) : (l.flatMap pairCells)[j]? = some ((flatK pairCells 2 l.toArray)[j]!) := by
  rw [get_flatK _ _ _ _ (by simpa using hj)]
  have hq : j / 2 < l.length := by omega
  obtain ⟨g1, g2⟩ := flat_pairs_get l (j / 2) _ (List.getElem?_eq_getElem hq)
  have e : l.toArray[j / 2]! = l[j / 2] := by
    rw [getElem!_pos l.toArray (j / 2) (by simpa using hq)]; rfl
  rw [e]
  rcases (by omega : j = j / 2 * 2 ∨ j = j / 2 * 2 + 1) with h | h
  · rw [← h] at g1
    rw [g1, show j % 2 = 0 by omega]; rfl
  · rw [← h] at g2
    rw [g2, show j % 2 = 1 by omega]; rfl

theorem holds_own {w : World} {base g cap : Nat} {l : List Pr} (h : w.ownsRow base 27 2 (.slice (some ⟨g, 0, none⟩) l.length cap) l.length (l.flatMap pairCells)) :
    HoldsK pairCells 2 w g 0 l.toArray ∧ g < w.heap.size := by
  obtain ⟨_, h⟩ := h
  rcases h with ⟨e, _⟩ | ⟨g', cap', cur, e, _, hh, hnc, _, hcs, ht⟩
  · cases e
  · injection e with e1 e2 e3
    injection e1 with e1
    injection e1 with e1
    subst e1
    refine ⟨fun j hj => ?_, ?_⟩
    · simp only [size_flatK, List.size_toArray] at hj
      have hf := flatK_pairs l j hj
      rw [← ht, List.getElem?_take_of_lt (by omega)] at hf
      rw [Nat.zero_add]
      refine ⟨?_, ?_⟩
      · rw [cell_of_row w g _ cur 27 (0, 0) hh]
        simpa using hf
      · simp [World.frozen?, hh]
    · rcases Nat.lt_or_ge g w.heap.size with k | k
      · exact k
      · rw [Array.getElem?_eq_none k] at hh; cases hh

theorem cmpLays_order (blk off size : Nat) (w : World) : CmpLays Try.prog 44 #[] pairCells 2 ordI blk off size w :=
  fun _ _ _ _ x y => order_any x y _

theorem but_sort (w : World) (g n : Nat) (d : Array Pr) (os : Array Obj) (_hg : g < w.heap.size) : But g w (sortWorldK pairCells 2 w g 0 n d os) := by
  have hsz : (putRowK pairCells 2 (Sort.ahead w n) g 0 d).heap.size = w.heap.size := by
    show (w.heap.modify g _).size = _
    rw [Array.size_modify]
  refine ⟨rfl, rfl, rfl, ?_, fun k hk hkg => ?_⟩
  · show w.heap.size ≤ (grow _ os).heap.size
    rw [size_grow, hsz]; omega
  · show (grow _ os).heap[k]? = _
    rw [heap_grow_old _ _ (by rw [hsz]; exact hk)]
    show (w.heap.modify g _)[k]? = _
    rw [Array.getElem?_modify, if_neg (by omega)]

set_option maxHeartbeats 400000 in
theorem sort_any (g cap base : Nat) (l : List Pr) (w : World) (h : w.ownsRow base 27 2 (.slice (some ⟨g, 0, none⟩) l.length cap) l.length (l.flatMap pairCells)) (hl : l.length ≤ 1000000) (hlc : l.length ≤ cap) :
    Calls Try.prog 31 #[.slice (some ⟨g, 0, none⟩) l.length cap, .func (.func 44) #[] #[]] w fun e w' =>
      e = .returned (.tuple #[]) ∧ ∃ l' : List Pr, l'.Perm l ∧ srt l' = true ∧ Prs w' w'.heap.size (.slice (some ⟨g, 0, none⟩) l.length cap) l' ∧ But g w w' := by
  obtain ⟨hH, hg⟩ := holds_own h
  have eg : ∀ args w, (callFunc 44 args).run Try.prog w = .ok (.enter 44 args) w := enters_of Try.func44 (by kernel_rfl) rfl
  have hcon := AnyQ.slices_SortFunc Try.sortP 2 Try.isAgg27 Try.sizeOf27 pairCells (fun _ => rfl) (fun x v hv => by simp [pairCells] at hv; rcases hv with rfl | rfl <;> rfl) ordI swo_ord 44 #[] g 0 cap l.toArray w eg (cmpLays_order g 0 _ w) hH hg (by simp; omega)
  refine Calls.mono (h := hcon) ?_
  rintro e w' ⟨he, d', n, os, hp, hs, rfl⟩
  refine ⟨he, d'.toList, ?_, ?_, ?_, but_sort w g n d' os hg⟩
  · have h1 := hp.2.2
    have h2 := hp.1
    simp only [List.size_toArray] at h1 h2
    rw [Array.extract_eq_self_of_le (by omega), Array.extract_eq_self_of_le (by simp)] at h1
    exact h1
  · have h2 := hp.1
    simp only [List.size_toArray] at h2
    rw [srt_iff, List.pairwise_iff_getElem]
    intro i j hi hj hij
    have h3 := hs i j (Nat.zero_le _) hij (by simpa [h2] using hj)
    have hi' : i < d'.size := by simpa using hi
    have hj' : j < d'.size := by simpa using hj
    rw [getElem!_pos d' i hi', getElem!_pos d' j hj'] at h3
    unfold ltOf at h3
    rw [decide_eq_false_iff_not, ordI_lt] at h3
    unfold Le
    simpa using h3
  · have h2 := hp.1
    simp only [List.size_toArray] at h2
    have hK : HoldsK pairCells 2 (sortWorldK pairCells 2 w g 0 n d' os) g 0 d' :=
      holdsK_grow pairCells 2 _ os g 0 d' (by show g < (w.heap.modify g _).size; rw [Array.size_modify]; exact hg) (holdsK_putRowK pairCells 2 (Sort.ahead w n) g 0 l.toArray d' (holdsK_ahead pairCells 2 w n g 0 _ hH) (by simp [h2]))
    refine ⟨some ⟨g, 0, none⟩, cap, by simp [h2], ⟨by simp [h2]; exact hlc, fun h => by cases h⟩, fun _ => ⟨⟨g, 0, none⟩, rfl, ?_, fun j p hj => ?_⟩⟩
    · exact Nat.lt_of_lt_of_le hg (but_sort w g n d' os hg).size
    · have hjl : j < d'.size := by
        rcases Nat.lt_or_ge j d'.toList.length with k | k
        · simpa using k
        · rw [List.getElem?_eq_none k] at hj; cases hj
      have hp1 : d'[j]! = p := by
        rw [getElem!_pos d' j hjl]
        have := hj
        rw [List.getElem?_eq_getElem (by simpa using hjl)] at this
        simpa using this
      have c1 := (hK.cell hjl (show 0 < 2 by decide)).1
      have c2 := (hK.cell hjl (show 1 < 2 by decide)).1
      rw [hp1] at c1 c2
      rw [addr0, addr0]
      refine ⟨?_, ?_⟩
      · simpa [pairCells] using c1
      · simpa [pairCells] using c2
end Go.Proofs.Ytjjccoliknngcaa
