/- slices.SortFunc over pairs, by token.order: the pairs in their order.
   The program's Merge. -/
import Derived.Test.YtjjccoliknngcaaTokG
import Derived.Test.YtjjccoliknngcaaShelfB
namespace Go.Proofs.Ytjjccoliknngcaa
open Go.RowKit Go.Shelf
open Go.Sort hiding Below

theorem swo_ord : SWO (ltOf ordI) where
  irrefl x := by
    unfold ltOf
    have := ordI_lt x x
    have h2 := ahead_iff x x
    rw [decide_eq_false_iff_not, this, h2]; omega
  trans x y z h1 h2 := by
    unfold ltOf at *
    rw [decide_eq_true_iff, ordI_lt, ahead_iff] at *
    omega
  ntrans x y z h1 h2 := by
    unfold ltOf at *
    rw [decide_eq_false_iff_not, ordI_lt, ahead_iff] at *
    omega

theorem flatK_pairs (l : List Pr) (j : Nat) (hj : j < l.length * 2) : (l.flatMap pairCells)[j]? = some ((flatK pairCells 2 l.toArray)[j]!) := by
  rw [get_flatK _ _ _ _ (by simpa using hj)]
  have hq : j / 2 < l.length := by omega
  obtain ⟨g1, g2⟩ := flat_pairs_get l (j / 2) _ (List.getElem?_eq_getElem hq)
  have e : l.toArray[j / 2]! = l[j / 2] := by
    rw [getElem!_pos l.toArray (j / 2) (by simpa using hq)]; rfl
  rw [e]
  rcases (by omega : j = j / 2 * 2 ∨ j = j / 2 * 2 + 1) with h | h
  · rw [← h] at g1
    rw [g1, show j % 2 = 0 by omega]; rfl
  · rw [← h] at g2
    rw [g2, show j % 2 = 1 by omega]; rfl

theorem holds_own {w : World} {base g cap : Nat} {l : List Pr} (h : w.ownsRow base 27 2 (.slice (some ⟨g, 0, none⟩) l.length cap) l.length (l.flatMap pairCells)) :
    HoldsK pairCells 2 w g 0 l.toArray ∧ g < w.heap.size := by
  obtain ⟨_, h⟩ := h
  rcases h with ⟨e, _⟩ | ⟨g', cap', cur, e, _, hh, hnc, _, hcs, ht⟩
  · cases e
  · injection e with e1 e2 e3
    injection e1 with e1
    injection e1 with e1
    subst e1
    refine ⟨fun j hj => ?_, ?_⟩
    · simp only [size_flatK, List.size_toArray] at hj
      have hf := flatK_pairs l j hj
      rw [← ht, List.getElem?_take_of_lt (by omega)] at hf
      rw [Nat.zero_add]
      refine ⟨?_, ?_⟩
      · rw [cell_of_row w g _ cur 27 (0, 0) hh]
        simpa using hf
      · simp [World.frozen?, hh]
    · rcases Nat.lt_or_ge g w.heap.size with k | k
      · exact k
      · rw [Array.getElem?_eq_none k] at hh; cases hh

theorem cmpLays_order (blk off size : Nat) (w : World) : CmpLays Try.prog 44 #[] pairCells 2 ordI blk off size w :=
  fun _ _ _ _ x y => order_any x y _

theorem but_sort (w : World) (g n : Nat) (d : Array Pr) (os : Array Obj) (_hg : g < w.heap.size) : But g w (sortWorldK pairCells 2 w g 0 n d os) := by
  have hsz : (putRowK pairCells 2 (Sort.ahead w n) g 0 d).heap.size = w.heap.size := by
    show (w.heap.modify g _).size = _
    rw [Array.size_modify]
  refine ⟨rfl, rfl, rfl, ?_, fun k hk hkg => ?_⟩
  · show w.heap.size ≤ (grow _ os).heap.size
    rw [size_grow, hsz]; omega
  · show (grow _ os).heap[k]? = _
    rw [heap_grow_old _ _ (by rw [hsz]; exact hk)]
    show (w.heap.modify g _)[k]? = _
    rw [Array.getElem?_modify, if_neg (by omega)]

set_option maxHeartbeats 400000 in
theorem sort_any (g cap base : Nat) (l : List Pr) (w : World) (h : w.ownsRow base 27 2 (.slice (some ⟨g, 0, none⟩) l.length cap) l.length (l.flatMap pairCells)) (hl : l.length ≤ 1000000) (hlc : l.length ≤ cap) :
    Calls Try.prog 31 #[.slice (some ⟨g, 0, none⟩) l.length cap, .func (.func 44) #[] #[]] w fun e w' =>
      e = .returned (.tuple #[]) ∧ ∃ l' : List Pr, l'.Perm l ∧ srt l' = true ∧ Prs w' w'.heap.size (.slice (some ⟨g, 0, none⟩) l.length cap) l' ∧ But g w w' := by
  obtain ⟨hH, hg⟩ := holds_own h
  have eg : ∀ args w, (callFunc 44 args).run Try.prog w = .ok (.enter 44 args) w := enters_of Try.func44 (by kernel_rfl) rfl
  have hcon := AnyQ.slices_SortFunc Try.sortP 2 Try.isAgg27 Try.sizeOf27 pairCells (fun _ => rfl) (fun x v hv => by simp [pairCells] at hv; rcases hv with rfl | rfl <;> rfl) ordI swo_ord 44 #[] g 0 cap l.toArray w eg (cmpLays_order g 0 _ w) hH hg (by simp; omega)
  refine Calls.mono (h := hcon) ?_
  rintro e w' ⟨he, d', n, os, hp, hs, rfl⟩
  refine ⟨he, d'.toList, ?_, ?_, ?_, but_sort w g n d' os hg⟩
  · have h1 := hp.2.2
    have h2 := hp.1
    simp only [List.size_toArray] at h1 h2
    rw [Array.extract_eq_self_of_le (by omega), Array.extract_eq_self_of_le (by simp)] at h1
    exact h1
  · have h2 := hp.1
    simp only [List.size_toArray] at h2
    rw [srt_iff, List.pairwise_iff_getElem]
    intro i j hi hj hij
    have h3 := hs i j (Nat.zero_le _) hij (by simpa [h2] using hj)
    have hi' : i < d'.size := by simpa using hi
    have hj' : j < d'.size := by simpa using hj
    rw [getElem!_pos d' i hi', getElem!_pos d' j hj'] at h3
    unfold ltOf at h3
    rw [decide_eq_false_iff_not, ordI_lt] at h3
    unfold Le
    simpa using h3
  · have h2 := hp.1
    simp only [List.size_toArray] at h2
    have hK : HoldsK pairCells 2 (sortWorldK pairCells 2 w g 0 n d' os) g 0 d' :=
      holdsK_grow pairCells 2 _ os g 0 d' (by show g < (w.heap.modify g _).size; rw [Array.size_modify]; exact hg) (holdsK_putRowK pairCells 2 (Sort.ahead w n) g 0 l.toArray d' (holdsK_ahead pairCells 2 w n g 0 _ hH) (by simp [h2]))
    refine ⟨some ⟨g, 0, none⟩, cap, by simp [h2], ⟨by simp [h2]; exact hlc, fun h => by cases h⟩, fun _ => ⟨⟨g, 0, none⟩, rfl, ?_, fun j p hj => ?_⟩⟩
    · exact Nat.lt_of_lt_of_le hg (but_sort w g n d' os hg).size
    · have hjl : j < d'.size := by
        rcases Nat.lt_or_ge j d'.toList.length with k | k
        · simpa using k
        · rw [List.getElem?_eq_none k] at hj; cases hj
      have hp1 : d'[j]! = p := by
        rw [getElem!_pos d' j hjl]
        have := hj
        rw [List.getElem?_eq_getElem (by simpa using hjl)] at this
        simpa using this
      have c1 := (hK.cell hjl (show 0 < 2 by decide)).1
      have c2 := (hK.cell hjl (show 1 < 2 by decide)).1
      rw [hp1] at c1 c2
      rw [addr0, addr0]
      refine ⟨?_, ?_⟩
      · simpa [pairCells] using c1
      · simpa [pairCells] using c2
end Go.Proofs.Ytjjccoliknngcaa

namespace Go.Proofs.Ytjjccoliknngcaa
open Go.RowKit

theorem sumLen_le_mul (ts : List Tok) (h : ∀ j (h : j < ts.length), (ts[j]).2.length ≤ 2048) : tSumLen ts ≤ 2048 * ts.length := by
  induction ts with
  | nil => simp [tSumLen]
  | cons a l ih =>
    have h1 := h 0 (by simp)
    have h2 := ih fun j hj => h (j + 1) (by simp; omega)
    unfold tSumLen at *
    simp only [List.map_cons, List.sum_cons, List.length_cons]
    simp at h1
    omega

theorem flat_snoc2 (ts : List Tok) (k : Nat) (hk : k < ts.length) : ((ts.take (k + 1)).map (·.2)).flatten = ((ts.take k).map (·.2)).flatten ++ (ts[k]).2 := by
  rw [List.take_succ_eq_append_getElem hk, List.map_append, List.flatten_append]; simp
theorem pairs_cells {w : World} {B : Nat} {ad : Addr} {m c : Nat} {l : List Pr} (h : Prs w B (.slice (some ad) m c) l) : ∀ j u, (l.flatMap pairCells)[j]? = some u → w.cell? (ad.add j) = some u := by
  intro j u hj
  have := pairs_from h 0 j u (by simpa using hj)
  rwa [add_add, Nat.zero_mul, Nat.zero_add] at this
theorem sumLen_flat (ts : List Tok) : ((ts.map (·.2)).flatten).length = tSumLen ts := by
  rw [List.length_flatten, List.map_map]; rfl

set_option maxHeartbeats 2000000 in
theorem Merge_any (v : Value) (ts : List Tok) (w : World) (hv : TkRow w v ts) (h9 : ts.length ≤ 1000000) (h9t : ∀ t ∈ ts, t.2.length ≤ maxLen) :
    Calls Try.prog 28 #[v] w fun e w' => ∃ x, e = .returned (.tuple #[x, .int .i64 (mergeT ts).1]) ∧ Tk w' x (mergeT ts).2.1 (mergeT ts).2.2 ∧ Below w.heap.size w w' := by
  obtain ⟨A, c, rfl, hc⟩ := hv.form
  obtain ⟨i0, hi, hz0, hz1, hz2⟩ := info_parts info_pair
  obtain ⟨w0, hw0⟩ : ∃ w0, w0 = w.alloc (.cells #[.bool false, .slice none 0 0] 40) := ⟨_, rfl⟩
  have b0 : Below w.heap.size w w0 := by rw [hw0]; exact boxed _ _ _
  have r0 : RowAt w0 w.heap.size 40 [.bool false, .slice none 0 0] := by rw [hw0]; exact RowAt.new w 40 #[.bool false, .slice none 0 0]
  have hv0 := hv.on b0
  have HW := Lib.hid hw0
  clear hw0 hv
  go_enter Try.func28, Try.ntmps28
  go_wp2_with fail
  rw [← HW.out]
  go_loopw [4, 12] (fun m i wr => ∃ k : Nat, k ≤ ts.length ∧ i = .int .i64 k ∧ m = .int .i64 (tSumLen (ts.take k) : Int) ∧ (∀ j (h : j < ts.length), j < k → rightT (ts[j]).2 = true) ∧ Below w0.heap.size w0 wr) (fun _ i _ => ts.length - (intOf i).toNat)
  case atStart => exact ⟨0, Nat.zero_le _, rfl, rfl, fun j _ h => by omega, Below.refl _ _⟩
  case round =>
    obtain ⟨k, hk, rfl, rfl, hall, hb⟩ := hrel
    have hbw := bstep b0 hb b0.size
    by_cases hlt : k < ts.length
    · obtain ⟨ad, u, rfl, _, t1, t2, t3⟩ := (hv0.on hb).at_ hlt
      obtain ⟨U, uc, rfl, huc⟩ := t3.form
      obtain ⟨wc, hwc⟩ : ∃ wc, wc = wr.alloc (.cells #[.bool (ts[k]).1, .slice U (ts[k]).2.length uc] 40) := ⟨_, rfl⟩
      have cR := tRight_any (.agg #[.bool (ts[k]).1, .slice U (ts[k]).2.length uc]) (ts[k]).1 (ts[k]).2 wc ⟨_, rfl, by rw [hwc]; exact t3.alloc _⟩ (h9t _ (List.getElem_mem hlt))
      have hbc : Below wr.heap.size wr wc := by rw [hwc]; exact boxed _ _ _
      have rc : RowAt wc wr.heap.size 40 [.bool (ts[k]).1, .slice U (ts[k]).2.length uc] := by rw [hwc]; exact RowAt.new wr 40 #[.bool (ts[k]).1, .slice U (ts[k]).2.length uc]
      have HC := Lib.hid hwc
      have hsn := sumLen_snoc ts k hlt
      have HSN := Lib.hid hsn
      have hln := right_len (l := (ts[k]).2)
      have HLN := Lib.hid hln
      have hst := sumLen_le_mul (ts.take k) fun j hj => by
        rw [List.length_take] at hj
        rw [List.getElem_take]
        exact right_len (hall j (by omega) (by omega))
      rw [List.length_take] at hst
      clear hwc hsn hln
      go_wp2_with fail
      rw [← HC.out]
      with_reducible refine cR.mono ?_
      rintro e w1 ⟨rfl, hb1⟩
      have hbc1 := bstep hbc hb1 hbc.size
      have hb2 := bstep hb hbc1 hb.size
      have hbw2 := bstep hbw hbc1 hbw.size
      obtain ⟨y0, y1⟩ := (rc.on hb1).two
      clear cR t1 t2 t3 hb1
      cases hr : rightT (ts[k]).2
      · have r1 := r0.on hb2
        obtain ⟨c0, c1⟩ := r1.two
        have f0 := r1.frozen 0
        have f1 := r1.frozen 1
        have hm : mergeT ts = (1, false, []) := by unfold mergeT; rw [if_pos (allRight_not hlt hr)]
        have HM := Lib.hid hm
        obtain ⟨r2, hb3⟩ := set_two hbw2 (Nat.le_refl _) r1 (.bool false) (.slice none 0 0)
        obtain ⟨d0, d1⟩ := r2.two
        clear hr hm r1 hst
        go_wp2_with fail
        refine bodyPost_ret (v := .tuple #[.agg #[.bool false, .slice none 0 0], .int .i64 1]) (by simp [results, Try.results28, go_sem, d0, d1]) rfl ?_
        rw [HM.out]
        exact ⟨_, rfl, Tk.empty _, hb3⟩
      · have hln := HLN.out hr
        have HR := Lib.hid hr
        have hmin : min k ts.length = k := by omega
        rw [hmin] at hst
        clear hr hmin
        generalize tSumLen (ts.take k) = sk at *
        generalize (ts[k]).2.length = nk at *
        go_wp2_with fail
        go_roundw
        case rel => exact ⟨k + 1, by omega, by go_num, by rw [HSN.out]; go_num, fun j h hj => by
          rcases Nat.lt_or_ge j k with h1 | h1
          · exact hall j h h1
          · obtain rfl : j = k := by omega
            exact HR.out, hb2⟩
        case measure => simp [intOf]; omega
    · obtain rfl : k = ts.length := by omega
      rw [List.take_length]
      have hallr : allRight ts = true := List.all_eq_true.2 fun x hx => by
        obtain ⟨j, hj, rfl⟩ := List.mem_iff_getElem.1 hx
        exact hall j hj hj
      have h20 : ∀ j (h : j < ts.length), (ts[j]).2.length ≤ 2048 := fun j h => right_len (hall j h h)
      have hsrt : ∀ l ∈ ts.map (·.2), srt l = true := fun l hl => by
        obtain ⟨t, ht, rfl⟩ := List.mem_map.1 hl
        have := List.all_eq_true.1 hallr t ht
        unfold rightT at this
        simp at this
        exact this.1
      have hsum := sumLen_le_mul ts h20
      clear hall hk
      obtain ⟨wa, hwa⟩ : ∃ wa, wa = wr := ⟨_, rfl⟩
      subst hwa
      have ra := r0.on hb
      have hv1 := hv0.on hb
      by_cases hbig : 2048 < tSumLen ts
      · have hbig1 : (2048 < (tSumLen ts : Int)) = True := eq_true (by omega)
        have hbig2 : (2048 < tSumLen ts) = True := eq_true hbig
        obtain ⟨l0, l1⟩ := ra.two
        have f0 := ra.frozen 0
        have f1 := ra.frozen 1
        have HME := Lib.hid (show mergeT ts = (4, false, []) by
          unfold mergeT
          rw [if_neg (by rw [hallr]; simp), if_pos hbig])
        obtain ⟨r2, hb5⟩ := set_two hbw (Nat.le_refl _) ra (.bool false) (.slice none 0 0)
        obtain ⟨d0, d1⟩ := r2.two
        clear hbig
        generalize tSumLen ts = sl at *
        go_wp2_with fail
        refine bodyPost_ret (v := .tuple #[.agg #[.bool false, .slice none 0 0], .int .i64 4]) (by simp [results, Try.results28, go_sem, d0, d1]) rfl ?_
        rw [HME.out]
        exact ⟨_, rfl, Tk.empty _, hb5⟩
      · have hbig1 : (2048 < (tSumLen ts : Int)) = False := eq_false (by omega)
        have hbig2 : (2048 < tSumLen ts) = False := eq_false hbig
        have HME := Lib.hid (show mergeT ts = (0, ts.any (·.1), mrgAll (ts.map (·.2))) by
          unfold mergeT
          rw [if_neg (by rw [hallr]; simp), if_neg hbig])
        have hsl : tSumLen ts ≤ 2048 := by omega
        have HTL := fun k => Lib.hid (sumLen_take_le ts k)
        have HSL := Lib.hid (show tSumLen (ts.take 0) = 0 from rfl)
        have HSE := Lib.hid (show tSumLen (ts.take ts.length) = tSumLen ts by rw [List.take_length])
        clear hbig hsum
        generalize hS : tSumLen ts = sl at *
        clear hS
        go_wp2_with (refine wpList_make_own _ rfl _ _ 22 rfl wa.heap.size 27 i0 (.agg #[.int .u64 0, .int .u64 0]) 2 Try.underlying22 hi hz0 hz1 .i64 .i64 _ sl rfl rfl rfl (by rw [hz2]; omega) (by unfold maxLen; omega) (Nat.le_refl _) ?_)
        intro w1 hown1 hgrow1
        have hb1 : Below wa.heap.size wa w1 := (Below.refl _ _).grown hgrow1 (Nat.le_refl _) (fun k h => by cases h)
        have hg1 : wa.heap.size < w1.heap.size := (holds_own (l := []) hown1).2
        obtain ⟨wb, hwb⟩ : ∃ wb, wb = w1.alloc (.cells #[.bool false, .slice (some ⟨wa.heap.size, 0, none⟩) 0 sl] 40) := ⟨_, rfl⟩
        have hb2 : Below wa.heap.size wa wb := by rw [hwb]; exact hb1.alloc (by omega) _
        have q0 : RowAt wb w1.heap.size 40 [.bool false, .slice (some ⟨wa.heap.size, 0, none⟩) 0 sl] := by rw [hwb]; exact RowAt.new w1 40 #[.bool false, .slice (some ⟨wa.heap.size, 0, none⟩) 0 sl]
        have hown2 : wb.ownsRow wa.heap.size 27 2 (.slice (some ⟨wa.heap.size, 0, none⟩) 0 sl) 0 [] := by rw [hwb]; exact hown1.alloc _
        have HWB := Lib.hid hwb
        clear hwb hown1 hgrow1
        go_wp2_with fail
        rw [← HWB.out]
        go_loopw [34] (fun i wr => ∃ k : Nat, k ≤ ts.length ∧ i = .int .i64 k ∧ RowAt wr w1.heap.size 40 [.bool ((ts.take k).any (·.1)), .slice (some ⟨wa.heap.size, 0, none⟩) (tSumLen (ts.take k)) sl] ∧ wr.ownsRow wa.heap.size 27 2 (.slice (some ⟨wa.heap.size, 0, none⟩) (tSumLen (ts.take k)) sl) (tSumLen (ts.take k)) (((ts.take k).map (·.2)).flatten.flatMap pairCells) ∧ Below wa.heap.size wa wr) (fun i _ => ts.length - (intOf i).toNat)
        case atStart => exact ⟨0, Nat.zero_le _, rfl, q0, hown2, hb2⟩
        case round =>
          obtain ⟨k, hk, rfl, q1, hown, hbr⟩ := hrel
          have hbwr := bstep hbw hbr hbw.size
          by_cases hlt2 : k < ts.length
          · obtain ⟨ad, ut, rfl, had, t1, t2, t3⟩ := hv1.at_ hlt2
            replace t1 := (hbr.cell (p := ad.add (k * 2)) (by rw [add_block]; exact had)).trans t1
            replace t2 := (hbr.cell (p := ⟨(ad.add (k * 2)).block, (ad.add (k * 2)).off + 1, none⟩) (by show (ad.add (k * 2)).block < _; rw [add_block]; exact had)).trans t2
            have HA := Lib.hid (any_snoc ts k hlt2)
            have HS := Lib.hid (sumLen_snoc ts k hlt2)
            have HF := Lib.hid (flat_snoc2 ts k hlt2)
            have HT := Lib.hid ((HTL (k + 1)).out)
            have hln := h20 k hlt2
            generalize (ts[k]).1 = tf at *
            generalize (ts[k]).2 = tl at *
            obtain ⟨U, uc, rfl, huc⟩ := t3.form
            generalize ((ts.take k).map (·.2)).flatten = L at *
            generalize tSumLen (ts.take k) = sk at *
            generalize (ts.take k).any (·.1) = fk at *
            obtain ⟨wc, hwc⟩ : ∃ wc, wc = wr.alloc (.cells #[.bool tf, .slice U tl.length uc] 40) := ⟨_, rfl⟩
            have hbc : Below wr.heap.size wr wc := by rw [hwc]; exact boxed _ _ _
            have tc : RowAt wc wr.heap.size 40 [.bool tf, .slice U tl.length uc] := by rw [hwc]; exact RowAt.new wr 40 #[.bool tf, .slice U tl.length uc]
            have q1c := q1.on hbc
            have hownc := tOwns_below hown hbc
            have hbrc := bstep hbr hbc hbr.size
            have hgr : w1.heap.size < wr.heap.size := q1.lt
            have HC := Lib.hid hwc
            clear hwc hown q1
            go_upto_region 15 with (fail)
            rw [← HC.out]
            clear t1 t2
            cases fk
            case false =>
              obtain ⟨W1, hW1⟩ : ∃ W1, W1 = wc.setCell ⟨w1.heap.size, 0, none⟩ (.bool tf) := ⟨_, rfl⟩
              have hownW : W1.ownsRow wa.heap.size 27 2 (.slice (some ⟨wa.heap.size, 0, none⟩) sk sl) sk (L.flatMap pairCells) := by rw [hW1]; exact ownsRow_setCell_other hownc (by show some wa.heap.size ≠ some w1.heap.size; intro e; injection e with e; omega) _
              have tcW : RowAt W1 wr.heap.size 40 [.bool tf, .slice U tl.length uc] := by rw [hW1]; exact tc.far (by show wr.heap.size ≠ w1.heap.size; omega) _
              have q2W : RowAt W1 w1.heap.size 40 [.bool tf, .slice (some ⟨wa.heap.size, 0, none⟩) sk sl] := by rw [hW1]; exact q1c.set 0 (.bool tf)
              have hbW : Below wa.heap.size wa W1 := by rw [hW1]; exact hbrc.setCell (p := ⟨w1.heap.size, 0, none⟩) (by show wa.heap.size ≤ w1.heap.size; omega) _
              have HW1 := Lib.hid hW1
              clear hW1
              obtain ⟨x0, x1⟩ := q1c.two
              obtain ⟨y0, y1⟩ := tc.two
              have g0 := q1c.frozen 0
              go_upto_region 16 with (fail)
              try rw [← HW1.out]
              clear x0 x1 y0 y1 g0
              obtain ⟨x0, x1⟩ := q2W.two
              obtain ⟨y0, y1⟩ := tcW.two
              have g1 := q2W.frozen 1
              clear q1c tc hownc
              have hP := t3.below hbW (Nat.le_refl _)
              have hfit : sk + tl.length ≤ sl := by have := HT.out; rw [HS.out] at this; exact this
              by_cases h0 : 0 < tl.length
              · obtain ⟨ud, rfl, _, _, _⟩ := hP.at_ h0
                have HPC := Lib.hid (pairs_cells hP)
                go_wp2_with (at_builtin; refine wpList_append_fits _ rfl _ _ 22 rfl wa.heap.size 27 i0 2 Try.underlying22 hi hz1 wa.heap.size sk sl (L.flatMap pairCells) rfl hownW ud tl.length uc (tl.flatMap pairCells) rfl ?cl ?c1 ?c2 hfit ?_)
                case cl => exact flat_pairs_length _
                case c1 => exact HPC.out
                case c2 => exact pairs_one _
                intro w3 R hgrow
                have q3a := q2W.grown hgrow (by intro e; injection e with e; omega)
                have hb3 : Below wa.heap.size wa w3 := hbW.grown hgrow hbW.size (fun k h => by injection h with h; omega)
                rw [← List.flatMap_append] at R
                · clear hownW q2W hgrow
                  have q3 := q3a.set 1 (.slice (some ⟨wa.heap.size, 0, none⟩) (sk + tl.length) sl)
                  have hown4 := ownsRow_setCell_other R (a := ⟨w1.heap.size, 1, none⟩) (by show some wa.heap.size ≠ some w1.heap.size; intro e; injection e with e; omega) (.slice (some ⟨wa.heap.size, 0, none⟩) (sk + tl.length) sl)
                  have hb4 := hb3.setCell (p := ⟨w1.heap.size, 1, none⟩) (by show wa.heap.size ≤ w1.heap.size; omega) (.slice (some ⟨wa.heap.size, 0, none⟩) (sk + tl.length) sl)
                  obtain ⟨z0, z1⟩ := q3a.two
                  have g3 := q3a.frozen 1
                  clear R
                  go_wp2_with fail
                  go_roundw
                  case rel => exact ⟨k + 1, by omega, by go_num, by rw [HA.out, HS.out]; exact q3, by rw [HF.out, HS.out]; exact hown4, hb4⟩
                  case measure => simp [intOf]; omega
              · have h00 : tl = [] := List.eq_nil_of_length_eq_zero (by omega)
                subst h00
                simp only [List.length_nil, Nat.add_zero, List.append_nil] at *
                go_wp2_with (at_builtin; refine wpList_append_empty rfl _ _ 22 rfl 27 i0 Try.underlying22 hi (some ⟨wa.heap.size, 0, none⟩) U sk sl uc (by omega) rfl ?cx ?_)
                case cx => rfl
                go_roundw
                case rel => exact ⟨k + 1, by omega, by go_num, by rw [HA.out, HS.out]; exact q2W.set 1 (.slice (some ⟨wa.heap.size, 0, none⟩) sk sl), by rw [HF.out, HS.out]; exact ownsRow_setCell_other hownW (a := ⟨w1.heap.size, 1, none⟩) (by show some wa.heap.size ≠ some w1.heap.size; intro e; injection e with e; omega) _, hbW.setCell (p := ⟨w1.heap.size, 1, none⟩) (by show wa.heap.size ≤ w1.heap.size; omega) _⟩
                case measure => simp [intOf]; omega

            case true =>
              obtain ⟨W1, hW1⟩ : ∃ W1, W1 = wc.setCell ⟨w1.heap.size, 0, none⟩ (.bool true) := ⟨_, rfl⟩
              have hownW : W1.ownsRow wa.heap.size 27 2 (.slice (some ⟨wa.heap.size, 0, none⟩) sk sl) sk (L.flatMap pairCells) := by rw [hW1]; exact ownsRow_setCell_other hownc (by show some wa.heap.size ≠ some w1.heap.size; intro e; injection e with e; omega) _
              have tcW : RowAt W1 wr.heap.size 40 [.bool tf, .slice U tl.length uc] := by rw [hW1]; exact tc.far (by show wr.heap.size ≠ w1.heap.size; omega) _
              have q2W : RowAt W1 w1.heap.size 40 [.bool true, .slice (some ⟨wa.heap.size, 0, none⟩) sk sl] := by rw [hW1]; exact q1c.set 0 (.bool true)
              have hbW : Below wa.heap.size wa W1 := by rw [hW1]; exact hbrc.setCell (p := ⟨w1.heap.size, 0, none⟩) (by show wa.heap.size ≤ w1.heap.size; omega) _
              have HW1 := Lib.hid hW1
              clear hW1
              obtain ⟨x0, x1⟩ := q1c.two
              obtain ⟨y0, y1⟩ := tc.two
              have g0 := q1c.frozen 0
              go_upto_region 16 with (fail)
              try rw [← HW1.out]
              clear x0 x1 y0 y1 g0
              obtain ⟨x0, x1⟩ := q2W.two
              obtain ⟨y0, y1⟩ := tcW.two
              have g1 := q2W.frozen 1
              clear q1c tc hownc
              have hP := t3.below hbW (Nat.le_refl _)
              have hfit : sk + tl.length ≤ sl := by have := HT.out; rw [HS.out] at this; exact this
              by_cases h0 : 0 < tl.length
              · obtain ⟨ud, rfl, _, _, _⟩ := hP.at_ h0
                have HPC := Lib.hid (pairs_cells hP)
                go_wp2_with (at_builtin; refine wpList_append_fits _ rfl _ _ 22 rfl wa.heap.size 27 i0 2 Try.underlying22 hi hz1 wa.heap.size sk sl (L.flatMap pairCells) rfl hownW ud tl.length uc (tl.flatMap pairCells) rfl ?cl ?c1 ?c2 hfit ?_)
                case cl => exact flat_pairs_length _
                case c1 => exact HPC.out
                case c2 => exact pairs_one _
                intro w3 R hgrow
                have q3a := q2W.grown hgrow (by intro e; injection e with e; omega)
                have hb3 : Below wa.heap.size wa w3 := hbW.grown hgrow hbW.size (fun k h => by injection h with h; omega)
                rw [← List.flatMap_append] at R
                · clear hownW q2W hgrow
                  have q3 := q3a.set 1 (.slice (some ⟨wa.heap.size, 0, none⟩) (sk + tl.length) sl)
                  have hown4 := ownsRow_setCell_other R (a := ⟨w1.heap.size, 1, none⟩) (by show some wa.heap.size ≠ some w1.heap.size; intro e; injection e with e; omega) (.slice (some ⟨wa.heap.size, 0, none⟩) (sk + tl.length) sl)
                  have hb4 := hb3.setCell (p := ⟨w1.heap.size, 1, none⟩) (by show wa.heap.size ≤ w1.heap.size; omega) (.slice (some ⟨wa.heap.size, 0, none⟩) (sk + tl.length) sl)
                  obtain ⟨z0, z1⟩ := q3a.two
                  have g3 := q3a.frozen 1
                  clear R
                  go_wp2_with fail
                  go_roundw
                  case rel => exact ⟨k + 1, by omega, by go_num, by rw [HA.out, HS.out]; exact q3, by rw [HF.out, HS.out]; exact hown4, hb4⟩
                  case measure => simp [intOf]; omega
              · have h00 : tl = [] := List.eq_nil_of_length_eq_zero (by omega)
                subst h00
                simp only [List.length_nil, Nat.add_zero, List.append_nil] at *
                go_wp2_with (at_builtin; refine wpList_append_empty rfl _ _ 22 rfl 27 i0 Try.underlying22 hi (some ⟨wa.heap.size, 0, none⟩) U sk sl uc (by omega) rfl ?cx ?_)
                case cx => rfl
                go_roundw
                case rel => exact ⟨k + 1, by omega, by go_num, by rw [HA.out, HS.out]; exact q2W.set 1 (.slice (some ⟨wa.heap.size, 0, none⟩) sk sl), by rw [HF.out, HS.out]; exact ownsRow_setCell_other hownW (a := ⟨w1.heap.size, 1, none⟩) (by show some wa.heap.size ≠ some w1.heap.size; intro e; injection e with e; omega) _, hbW.setCell (p := ⟨w1.heap.size, 1, none⟩) (by show wa.heap.size ≤ w1.heap.size; omega) _⟩
                case measure => simp [intOf]; omega

          · obtain rfl : k = ts.length := by omega
            rw [List.take_length] at q1 hown
            have hse := HSE.out
            rw [List.take_length] at hse
            have hlf := sumLen_flat ts
            rw [hse] at q1 hown hlf
            generalize hL : (ts.map (·.2)).flatten = L at *
            have HL := Lib.hid hL
            have HSRT := Lib.hid hsrt
            have HLF := Lib.hid hlf
            have hownL : wr.ownsRow wa.heap.size 27 2 (.slice (some ⟨wa.heap.size, 0, none⟩) L.length sl) L.length (L.flatMap pairCells) := by rw [hlf]; exact hown
            have cS := sort_any wa.heap.size sl wa.heap.size L wr hownL (by omega) (by omega)
            rw [hlf] at cS
            clear hL hsrt hse hlf hown hownL
            generalize ts.any (·.1) = fk at *
            obtain ⟨x0, x1⟩ := q1.two
            go_wp2_with fail
            with_reducible refine cS.mono ?_
            rintro e w4 ⟨rfl, l', hperm, hsl', hPl, hbut⟩
            have q4 := hbut.rowAt q1 (by omega)
            have hb4 : Below wa.heap.size wa w4 := hbut.below hbr (Nat.le_refl _) hbr.size
            have r4 := ra.on hb4
            have hbw4 := bstep hbw hb4 hbw.size
            obtain ⟨y0, y1⟩ := q4.two
            obtain ⟨z0, z1⟩ := r4.two
            have f0 := r4.frozen 0
            have f1 := r4.frozen 1
            have hgw : w.heap.size < wa.heap.size := ra.lt
            obtain ⟨r5, hb5⟩ := set_two hbw4 (Nat.le_refl _) r4 (.bool fk) (.slice (some ⟨wa.heap.size, 0, none⟩) sl sl)
            obtain ⟨d0, d1⟩ := r5.two
            have hfr : FromOn (w.heap.size + 1) (.slice (some ⟨wa.heap.size, 0, none⟩) sl sl) := fun ad n c e => by
              injection e with e1; injection e1 with e1; subst e1; exact hgw
            have hP5 := ((hPl.setCell hfr (p := ⟨w.heap.size, 0, none⟩) (by show w.heap.size < _; omega) (.bool fk)).setCell hfr (p := ⟨w.heap.size, 1, none⟩) (by show w.heap.size < _; omega) (.slice (some ⟨wa.heap.size, 0, none⟩) sl sl))
            have hmrg : mrgAll (ts.map (·.2)) = l' := mrgAll_eq HSRT.out hsl' (by rw [HL.out]; exact hperm)
            have HMG := Lib.hid hmrg
            clear hmrg cS x0 x1 q1 hbut hPl hperm hsl'
            go_wp2_with fail
            refine bodyPost_ret (v := .tuple #[.agg #[.bool fk, .slice (some ⟨wa.heap.size, 0, none⟩) sl sl], .int .i64 0]) (by simp [results, Try.results28, go_sem, d0, d1]) rfl ?_
            rw [HME.out]
            refine ⟨_, rfl, ⟨_, rfl, ?_⟩, hb5⟩
            rw [HMG.out]
            simpa [World.setCell] using hP5
end Go.Proofs.Ytjjccoliknngcaa
