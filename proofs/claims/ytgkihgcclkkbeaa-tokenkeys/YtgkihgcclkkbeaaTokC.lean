/- The document's own answers for layer 5: Merge. -/
import Derived.Test.YtgkihgcclkkbeaaTokB
import Derived.Deep.RegionHeld3
namespace Go.Proofs.Ytgkihgcclkkbeaa
open Go.RowKit

abbrev Tok := Bool × List Pr
def allRight (ts : List Tok) : Bool := ts.all fun t => rightT t.2
def sumLen (ts : List Tok) : Nat := (ts.map fun t => t.2.length).sum
/-- What Merge tells: the error, Forged, the pairs. -/
def mergeT (ts : List Tok) : Int × Bool × List Pr :=
  if allRight ts = false then (1, false, []) else if 2048 < sumLen ts then (4, false, []) else (0, ts.any (·.1), mrgAll (ts.map (·.2)))
theorem sumLen_take_le (ts : List Tok) (k : Nat) : sumLen (ts.take k) ≤ sumLen ts := by
  conv => rhs; rw [← List.take_append_drop k ts]
  unfold sumLen
  rw [List.map_append, List.sum_append]; omega
theorem sumLen_snoc (ts : List Tok) (k : Nat) (hk : k < ts.length) : sumLen (ts.take (k + 1)) = sumLen (ts.take k) + (ts[k]).2.length := by
  unfold sumLen
  rw [List.take_succ_eq_append_getElem hk, List.map_append, List.sum_append]; simp
theorem any_snoc (ts : List Tok) (k : Nat) (hk : k < ts.length) : (ts.take (k + 1)).any (·.1) = ((ts.take k).any (·.1) || (ts[k]).1) := by
  rw [List.take_succ_eq_append_getElem hk, List.any_append]; simp
theorem mrgAll_snoc (ts : List Tok) (k : Nat) (hk : k < ts.length) : mrgAll ((ts.take (k + 1)).map (·.2)) = mrg (mrgAll ((ts.take k).map (·.2))) (ts[k]).2 := by
  unfold mrgAll
  rw [List.take_succ_eq_append_getElem hk, List.map_append, List.foldl_append]; rfl
theorem mrgAll_len (ts : List Tok) : (mrgAll (ts.map (·.2))).length = sumLen ts := by
  rw [mrgAll_length, List.map_map]; rfl
theorem allRight_not {ts : List Tok} {k : Nat} (hk : k < ts.length) (h : rightT (ts[k]).2 = false) : allRight ts = false := by
  cases e : allRight ts
  · rfl
  · have := List.all_eq_true.1 e _ (List.getElem_mem hk)
    rw [h] at this; cases this
theorem right_len {l : List Pr} (h : rightT l = true) : l.length ≤ 2048 := by
  unfold rightT at h
  simp at h
  exact h.2

/- a token's two cells set -/
theorem set_two {w W : World} {g : Nat} {t : TypeId} {x y : Value} (hb : Below w.heap.size w W) (hg : w.heap.size ≤ g) (r : RowAt W g t [x, y]) (x' y' : Value) :
    RowAt ((W.setCell ⟨g, 0, none⟩ x').setCell ⟨g, 1, none⟩ y') g t [x', y'] ∧ Below w.heap.size w ((W.setCell ⟨g, 0, none⟩ x').setCell ⟨g, 1, none⟩ y') :=
  ⟨(r.set 0 x').set 1 y', (hb.setCell (p := ⟨g, 0, none⟩) hg _).setCell (p := ⟨g, 1, none⟩) hg _⟩
theorem Prs.sz {w : World} {p : Addr} {u v : Value} {l : List Pr} (h : Prs (w.setCell p u) w.heap.size v l) : Prs (w.setCell p u) (w.setCell p u).heap.size v l := by simpa [World.setCell] using h
theorem rtwo_form (v u : Value) (a b : List Pr) (w : World) (hv : Prs w w.heap.size v a) (hu : Prs w w.heap.size u b) (h9 : a.length + b.length ≤ 1000000) :
    Calls Try.prog 39 #[v, u] w fun e w' => ∃ X c, e = .returned (.slice X (a.length + b.length) c) ∧ Prs w' w'.heap.size (.slice X (a.length + b.length) c) (mrg a b) ∧ FromOn w.heap.size (.slice X (a.length + b.length) c) ∧ Below w.heap.size w w' :=
  (rtwo_any v u a b w hv hu h9).mono fun e w' ⟨x, he, hP, hF, hb⟩ => by
    obtain ⟨X, c, rfl, _⟩ := hP.form
    rw [mrg_length] at he hP hF
    exact ⟨X, c, he, hP, hF, hb⟩
theorem Tk.empty (W : World) : Tk W (.agg #[.bool false, .slice none 0 0]) false [] := ⟨_, rfl, Prs.nil _ _⟩

set_option maxHeartbeats 2000000 in
theorem rMerge_any (v : Value) (ts : List Tok) (w : World) (hv : TkRow w v ts) (h9 : ts.length ≤ maxLen) (h9t : ∀ t ∈ ts, t.2.length ≤ maxLen) :
    Calls Try.prog 19 #[v] w fun e w' => ∃ x, e = .returned (.tuple #[x, .int .i64 (mergeT ts).1]) ∧ Tk w' x (mergeT ts).2.1 (mergeT ts).2.2 ∧ Below w.heap.size w w' := by
  obtain ⟨A, c, rfl, hc⟩ := hv.form
  have h9' : ts.length ≤ 9223372036854775807 := h9
  obtain ⟨w0, hw0⟩ : ∃ w0, w0 = w.alloc (.cells #[.bool false, .slice none 0 0] 24) := ⟨_, rfl⟩
  have b0 : Below w.heap.size w w0 := by rw [hw0]; exact boxed _ _ _
  have r0 : RowAt w0 w.heap.size 24 [.bool false, .slice none 0 0] := by rw [hw0]; exact RowAt.new w 24 #[.bool false, .slice none 0 0]
  have hv0 := hv.on b0
  have HW := Lib.hid hw0
  clear hw0 hv
  go_enter Try.func19, Try.ntmps19
  go_wp2_with fail
  rw [← HW.out]
  go_loopw [4] (fun i wr => ∃ k : Nat, k ≤ ts.length ∧ i = .int .i64 k ∧ (∀ j (h : j < ts.length), j < k → rightT (ts[j]).2 = true) ∧ Below w0.heap.size w0 wr) (fun i _ => ts.length - (intOf i).toNat)
  case atStart => exact ⟨0, Nat.zero_le _, rfl, fun j _ h => by omega, Below.refl _ _⟩
  case round =>
    obtain ⟨k, hk, rfl, hall, hb⟩ := hrel
    have hbw := bstep b0 hb b0.size
    by_cases hlt : k < ts.length
    · obtain ⟨ad, u, rfl, _, t1, t2, t3⟩ := (hv0.on hb).at_ hlt
      have cR := rRight_any (.agg #[.bool (ts[k]).1, u]) (ts[k]).1 (ts[k]).2 wr ⟨_, rfl, t3⟩ (h9t _ (List.getElem_mem hlt))
      go_wp2_with fail
      with_reducible refine cR.mono ?_
      rintro e w1 ⟨rfl, hb1⟩
      have hb2 := bstep hb hb1 hb.size
      have hbw2 := bstep hbw hb1 hbw.size
      clear cR t1 t2 t3 hb1
      cases hr : rightT (ts[k]).2
      · have r1 := r0.on hb2
        obtain ⟨c0, c1⟩ := r1.two
        have f0 := r1.frozen 0
        have f1 := r1.frozen 1
        have hm : mergeT ts = (1, false, []) := by unfold mergeT; rw [if_pos (allRight_not hlt hr)]
        have HM := Lib.hid hm
        obtain ⟨r2, hb3⟩ := set_two hbw2 (Nat.le_refl _) r1 (.bool false) (.slice none 0 0)
        obtain ⟨d0, d1⟩ := r2.two
        clear hr hm r1
        go_wp2_with fail
        refine bodyPost_ret (v := .tuple #[.agg #[.bool false, .slice none 0 0], .int .i64 1]) (by simp [results, Try.results19, go_sem, d0, d1]) rfl ?_
        rw [HM.out]
        exact ⟨_, rfl, Tk.empty _, hb3⟩
      · go_wp2_with fail
        go_roundw
        case rel => exact ⟨k + 1, by omega, by go_num, fun j h hj => by
          rcases Nat.lt_or_ge j k with h1 | h1
          · exact hall j h h1
          · obtain rfl : j = k := by omega
            exact hr, hb2⟩
        case measure => simp [intOf]; omega
    · have hallr : allRight ts = true := List.all_eq_true.2 fun x hx => by
        obtain ⟨j, hj, rfl⟩ := List.mem_iff_getElem.1 hx
        exact hall j hj (by omega)
      have h20 : ∀ j (h : j < ts.length), (ts[j]).2.length ≤ 2048 := fun j h => right_len (hall j h (by omega))
      clear hall
      obtain ⟨wa, hwa⟩ : ∃ wa, wa = wr := ⟨_, rfl⟩
      subst hwa
      obtain ⟨wb, hwb⟩ : ∃ wb, wb = wa.alloc (.cells #[.bool false, .slice none 0 0] 24) := ⟨_, rfl⟩
      have hbb : Below wa.heap.size wa wb := by rw [hwb]; exact boxed _ _ _
      have q0 : RowAt wb wa.heap.size 24 [.bool false, .slice none 0 0] := by rw [hwb]; exact RowAt.new wa 24 #[.bool false, .slice none 0 0]
      have hvb := (hv0.on hb).on hbb
      have rb := (r0.on hb).on hbb
      have hgz : w.heap.size ≤ wa.heap.size := hbw.size
      have hg0 : w.heap.size < wa.heap.size := (r0.on hb).lt
      have HWB := Lib.hid hwb
      have hv1 := hv0.on hb
      have ra := r0.on hb
      clear hwb hvb rb
      go_wp2_with fail
      try rw [← HWB.out]
      go_loopw [7] (fun i wr => ∃ (k : Nat) (u : Value), k ≤ ts.length ∧ i = .int .i64 k ∧ RowAt wr wa.heap.size 24 [.bool ((ts.take k).any (·.1)), u] ∧ Prs wr wr.heap.size u (mrgAll ((ts.take k).map (·.2))) ∧ FromOn (wa.heap.size + 1) u ∧ sumLen (ts.take k) ≤ 2048 ∧ Below wa.heap.size wa wr) (fun i _ => ts.length - (intOf i).toNat)
      case atStart => exact ⟨0, .slice none 0 0, Nat.zero_le _, rfl, q0, Prs.nil _ _, (fun _ _ _ h => by cases h), Nat.zero_le _, hbb⟩
      case round =>
        obtain ⟨k, u, hk, rfl, q1, hP, hF, hsum, hbr⟩ := hrel
        have hbwr := bstep hbw hbr hbw.size
        by_cases hlt2 : k < ts.length
        · obtain ⟨ad, ut, rfl, had, t1, t2, t3⟩ := (hv1.on hbr).at_ hlt2
          obtain ⟨S, sl, sc, rfl⟩ : ∃ S sl sc, u = .slice S sl sc := by obtain ⟨S, sc, h, _⟩ := hP.form; exact ⟨S, _, sc, h⟩
          clear t2 t3 ut had
          obtain ⟨x0, x1⟩ := q1.two
          have f0 := q1.frozen 0
          have HA := Lib.hid (any_snoc ts k hlt2)
          have HM := Lib.hid (mrgAll_snoc ts k hlt2)
          have HS := Lib.hid (sumLen_snoc ts k hlt2)
          have hln := h20 k hlt2
          have hml := mrgAll_len (ts.take k)
          have HT := Lib.hid (sumLen_take_le ts (k + 1))
          cases hfb : (ts.take k).any (·.1)

          · rw [hfb] at q1 x0 HA
            clear hfb
            obtain ⟨tf, htf⟩ : ∃ tf, (ts[k]).1 = tf := ⟨_, rfl⟩
            rw [htf] at t1 HA
            have hbr1 := hbr.setCell (p := ⟨wa.heap.size, 0, none⟩) (Nat.le_refl _) (.bool tf)
            have q2 := q1.set 0 (.bool tf)
            have hP1 := (hP.setCell hF (p := ⟨wa.heap.size, 0, none⟩) (by show wa.heap.size < _; omega) (.bool tf)).sz
            obtain ⟨_, ut, e, _, _, t2, t3⟩ := (hv1.on hbr1).at_ hlt2
            cases e
            obtain ⟨U, ul, uc, rfl⟩ : ∃ U ul uc, ut = .slice U ul uc := by obtain ⟨S, sc, h, _⟩ := t3.form; exact ⟨S, _, sc, h⟩
            obtain ⟨y0, y1⟩ := q2.two
            have g1 := q2.frozen 1
            generalize mrgAll ((ts.take k).map (·.2)) = ml at *
            generalize (ts[k]).2 = tl at *
            have cT := rtwo_form _ _ _ _ (wr.setCell ⟨wa.heap.size, 0, none⟩ (.bool tf)).drew (hP1.on (Below.refl _ _).drew) (t3.on (Below.refl _ _).drew) (by rw [hml]; omega)
            have hz1 : wa.heap.size < (wr.setCell ⟨wa.heap.size, 0, none⟩ (.bool tf)).drew.heap.size := q2.lt
            have HML := Lib.hid hml
            clear hml
            generalize hW1 : wr.setCell ⟨wa.heap.size, 0, none⟩ (.bool tf) = W1 at *
            clear hP t3 q1
            go_wp2_with fail
            try rw [hW1]
            clear hW1 x0 x1 f0 t1 HWB
            have HRt : ∀ w3, Below W1.drew.heap.size W1.drew w3 → w3.cell? ⟨wa.heap.size, 1, none⟩ = some (.slice S sl sc) ∧ w3.cell? ⟨(ad.add (k * 2)).block, (ad.add (k * 2)).off + 1, none⟩ = some (.slice U ul uc) ∧ w3.frozen? ⟨wa.heap.size, 1, none⟩ = false := fun w3 h3 =>
              ⟨(h3.cell (p := ⟨wa.heap.size, 1, none⟩) hz1).trans y1, (h3.cell (p := ⟨(ad.add (k * 2)).block, (ad.add (k * 2)).off + 1, none⟩) (World.block_lt_of_cell? W1 _ t2)).trans t2, (h3.frozen (p := ⟨wa.heap.size, 1, none⟩) hz1).trans g1⟩
            go_region_with (go_at_call 39; refine cT.mono ?_; rintro e w3 ⟨X, xc, rfl, hPx, hFx, hb3⟩; obtain ⟨z1, z2, z3⟩ := HRt _ hb3)
            all_goals
              have q3 := ((q2.on (Below.refl _ _).drew).on hb3).set 1 (.slice X (ml.length + tl.length) xc)
              have hPx4 := (hPx.setCell hFx (p := ⟨wa.heap.size, 1, none⟩) hz1 (.slice X (ml.length + tl.length) xc)).sz
              have hF4 := hFx.less (show wa.heap.size + 1 ≤ _ from hz1)
              have hb4 := (bstep hbr1.drew hb3 hbr1.drew.size).setCell (p := ⟨wa.heap.size, 1, none⟩) (Nat.le_refl _) (.slice X (ml.length + tl.length) xc)
              generalize w3.setCell ⟨wa.heap.size, 1, none⟩ (.slice X (ml.length + tl.length) xc) = w4 at *
              have hbw4 := bstep hbw hb4 hbw.size
              have rr := ra.on hb4
              obtain ⟨m0, m1⟩ := q3.two
              have HS2 := HS.out
              clear cT HRt z1 z2 z3 hPx hFx y0 y1 g1 t2
              by_cases hbig : 2048 < ml.length + tl.length
              · have hbig1 : (2048 < (ml.length : Int) + (tl.length : Int)) = True := eq_true (by omega)
                have hbig2 : (2048 < ml.length + tl.length) = True := eq_true hbig
                obtain ⟨l0, l1⟩ := rr.two
                have f0 := rr.frozen 0
                have f1 := rr.frozen 1
                have HME := Lib.hid (show mergeT ts = (4, false, []) by
                  have := HT.out
                  have := HML.out
                  unfold mergeT
                  rw [if_neg (by rw [hallr]; simp), if_pos (by omega)])
                obtain ⟨r2, hb5⟩ := set_two hbw4 (Nat.le_refl _) rr (.bool false) (.slice none 0 0)
                obtain ⟨d0, d1⟩ := r2.two
                clear HS2
                go_wp2_with fail
                refine bodyPost_ret (v := .tuple #[.agg #[.bool false, .slice none 0 0], .int .i64 4]) (by simp [results, Try.results19, go_sem, d0, d1]) rfl ?_
                rw [HME.out]
                exact ⟨_, rfl, Tk.empty _, hb5⟩
              · have hbig1 : (2048 < (ml.length : Int) + (tl.length : Int)) = False := eq_false (by omega)
                have hbig2 : (2048 < ml.length + tl.length) = False := eq_false hbig
                have HZ := Lib.hid (show sumLen (ts.take (k + 1)) ≤ 2048 by have := HML.out; omega)
                clear HS2
                go_wp2_with fail
                go_roundw
                case rel => exact ⟨k + 1, _, by omega, by go_num, by rw [HA.out]; exact q3, by rw [HM.out]; exact hPx4, hF4, HZ.out, hb4⟩
                case measure => simp [intOf]; omega
          · rw [hfb] at q1 x0 HA
            clear hfb
            have hbr1 := hbr.setCell (p := ⟨wa.heap.size, 0, none⟩) (Nat.le_refl _) (.bool true)
            have q2 := q1.set 0 (.bool true)
            have hP1 := (hP.setCell hF (p := ⟨wa.heap.size, 0, none⟩) (by show wa.heap.size < _; omega) (.bool true)).sz
            obtain ⟨_, ut, e, _, _, t2, t3⟩ := (hv1.on hbr1).at_ hlt2
            cases e
            obtain ⟨U, ul, uc, rfl⟩ : ∃ U ul uc, ut = .slice U ul uc := by obtain ⟨S, sc, h, _⟩ := t3.form; exact ⟨S, _, sc, h⟩
            obtain ⟨y0, y1⟩ := q2.two
            have g1 := q2.frozen 1
            generalize mrgAll ((ts.take k).map (·.2)) = ml at *
            generalize (ts[k]).2 = tl at *
            have cT := rtwo_form _ _ _ _ (wr.setCell ⟨wa.heap.size, 0, none⟩ (.bool true)).drew (hP1.on (Below.refl _ _).drew) (t3.on (Below.refl _ _).drew) (by rw [hml]; omega)
            have hz1 : wa.heap.size < (wr.setCell ⟨wa.heap.size, 0, none⟩ (.bool true)).drew.heap.size := q2.lt
            have HML := Lib.hid hml
            clear hml
            generalize hW1 : wr.setCell ⟨wa.heap.size, 0, none⟩ (.bool true) = W1 at *
            clear hP t3 q1
            go_wp2_with fail
            try rw [hW1]
            clear hW1 x0 x1 f0 t1 HWB
            have HRt : ∀ w3, Below W1.drew.heap.size W1.drew w3 → w3.cell? ⟨wa.heap.size, 1, none⟩ = some (.slice S sl sc) ∧ w3.cell? ⟨(ad.add (k * 2)).block, (ad.add (k * 2)).off + 1, none⟩ = some (.slice U ul uc) ∧ w3.frozen? ⟨wa.heap.size, 1, none⟩ = false := fun w3 h3 =>
              ⟨(h3.cell (p := ⟨wa.heap.size, 1, none⟩) hz1).trans y1, (h3.cell (p := ⟨(ad.add (k * 2)).block, (ad.add (k * 2)).off + 1, none⟩) (World.block_lt_of_cell? W1 _ t2)).trans t2, (h3.frozen (p := ⟨wa.heap.size, 1, none⟩) hz1).trans g1⟩
            go_region_with (go_at_call 39; refine cT.mono ?_; rintro e w3 ⟨X, xc, rfl, hPx, hFx, hb3⟩; obtain ⟨z1, z2, z3⟩ := HRt _ hb3)
            all_goals
              have q3 := ((q2.on (Below.refl _ _).drew).on hb3).set 1 (.slice X (ml.length + tl.length) xc)
              have hPx4 := (hPx.setCell hFx (p := ⟨wa.heap.size, 1, none⟩) hz1 (.slice X (ml.length + tl.length) xc)).sz
              have hF4 := hFx.less (show wa.heap.size + 1 ≤ _ from hz1)
              have hb4 := (bstep hbr1.drew hb3 hbr1.drew.size).setCell (p := ⟨wa.heap.size, 1, none⟩) (Nat.le_refl _) (.slice X (ml.length + tl.length) xc)
              generalize w3.setCell ⟨wa.heap.size, 1, none⟩ (.slice X (ml.length + tl.length) xc) = w4 at *
              have hbw4 := bstep hbw hb4 hbw.size
              have rr := ra.on hb4
              obtain ⟨m0, m1⟩ := q3.two
              have HS2 := HS.out
              clear cT HRt z1 z2 z3 hPx hFx y0 y1 g1 t2
              by_cases hbig : 2048 < ml.length + tl.length
              · have hbig1 : (2048 < (ml.length : Int) + (tl.length : Int)) = True := eq_true (by omega)
                have hbig2 : (2048 < ml.length + tl.length) = True := eq_true hbig
                obtain ⟨l0, l1⟩ := rr.two
                have f0 := rr.frozen 0
                have f1 := rr.frozen 1
                have HME := Lib.hid (show mergeT ts = (4, false, []) by
                  have := HT.out
                  have := HML.out
                  unfold mergeT
                  rw [if_neg (by rw [hallr]; simp), if_pos (by omega)])
                obtain ⟨r2, hb5⟩ := set_two hbw4 (Nat.le_refl _) rr (.bool false) (.slice none 0 0)
                obtain ⟨d0, d1⟩ := r2.two
                clear HS2
                go_wp2_with fail
                refine bodyPost_ret (v := .tuple #[.agg #[.bool false, .slice none 0 0], .int .i64 4]) (by simp [results, Try.results19, go_sem, d0, d1]) rfl ?_
                rw [HME.out]
                exact ⟨_, rfl, Tk.empty _, hb5⟩
              · have hbig1 : (2048 < (ml.length : Int) + (tl.length : Int)) = False := eq_false (by omega)
                have hbig2 : (2048 < ml.length + tl.length) = False := eq_false hbig
                have HZ := Lib.hid (show sumLen (ts.take (k + 1)) ≤ 2048 by have := HML.out; omega)
                clear HS2
                go_wp2_with fail
                go_roundw
                case rel => exact ⟨k + 1, _, by omega, by go_num, by rw [HA.out]; exact q3, by rw [HM.out]; exact hPx4, hF4, HZ.out, hb4⟩
                case measure => simp [intOf]; omega
        · obtain rfl : k = ts.length := by omega
          rw [List.take_length] at q1 hP hsum
          obtain ⟨S, sl, sc, rfl⟩ : ∃ S sl sc, u = .slice S sl sc := by obtain ⟨S, sc, h, _⟩ := hP.form; exact ⟨S, _, sc, h⟩
          have rr := ra.on hbr
          obtain ⟨x0, x1⟩ := q1.two
          obtain ⟨y0, y1⟩ := rr.two
          have f0 := rr.frozen 0
          have f1 := rr.frozen 1
          have hm : mergeT ts = (0, ts.any (·.1), mrgAll (ts.map (·.2))) := by unfold mergeT; rw [if_neg (by rw [hallr]; simp), if_neg (by omega)]
          have HM := Lib.hid hm
          obtain ⟨r2, hb3⟩ := set_two hbwr (Nat.le_refl _) rr (.bool (ts.any (·.1))) (.slice S sl sc)
          obtain ⟨d0, d1⟩ := r2.two
          have hP2 := (hP.setCell hF (p := ⟨w.heap.size, 0, none⟩) (by show w.heap.size < _; omega) (.bool (ts.any (·.1)))).setCell hF (p := ⟨w.heap.size, 1, none⟩) (by show w.heap.size < _; omega) (.slice S sl sc)
          clear hm
          generalize ts.any (·.1) = fb at *
          go_wp2_with fail
          refine bodyPost_ret (v := .tuple #[.agg #[.bool fb, .slice S sl sc], .int .i64 0]) (by simp [results, Try.results19, go_sem, d0, d1]) rfl ?_
          rw [HM.out]
          exact ⟨_, rfl, ⟨_, rfl, by simpa [World.setCell] using hP2⟩, hb3⟩
end Go.Proofs.Ytgkihgcclkkbeaa
