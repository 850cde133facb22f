/- The document's own answers for layer 5: Decode. -/
import Derived.Test.YtieheieiolobaaaGreatDoorTokL
import Derived.Test.YtieheieiolobaaaGreatDoorRefP
namespace Go.Proofs.YtieheieiolobaaaGreatDoor
open Go.RowKit

theorem bytes_cons (s : ByteArray) (h : 0 < s.size) : s.data.toList = s[0] :: s.data.toList.drop 1 := by
  have h1 : 0 < s.data.toList.length := by simpa using h
  have := List.drop_eq_getElem_cons h1
  rw [List.drop_zero] at this
  exact this
theorem list_len (s : ByteArray) : s.data.toList.length = s.size := by simp
theorem decB_bad1 (s : ByteArray) (h : s.size % 16 ≠ 1) : decB s.data.toList = (2, false, []) := by
  by_cases h0 : 0 < s.size
  · rw [bytes_cons s h0]
    simp only [decB]
    rw [if_pos (.inl (by simp; omega))]
  · have : s.data.toList = [] := List.eq_nil_of_length_eq_zero (by rw [list_len]; omega)
    rw [this]; rfl
theorem decB_bad2 (s : ByteArray) (h : 0 < s.size) (h1 : 1 < (s[0]).toNat) : decB s.data.toList = (2, false, []) := by
  rw [bytes_cons s h]
  simp only [decB]
  rw [if_pos (.inr h1)]
/-- The pairs that the bytes of s tell. -/
def pairsOf (s : ByteArray) : List Pr := readP (s.size / 16) (s.data.toList.drop 1)
theorem pairsOf_length (s : ByteArray) : (pairsOf s).length = s.size / 16 := readP_length _ _
theorem decB_else (s : ByteArray) (h : s.size % 16 = 1) (h0 : 0 < s.size) (h1 : (s[0]).toNat ≤ 1) :
    decB s.data.toList = if srt (pairsOf s) = false then (2, false, []) else if 2048 < s.size / 16 then (4, false, []) else (0, (s[0]).toNat == 1, pairsOf s) := by
  have hl : (s.data.toList.drop 1).length = s.size - 1 := by simp
  have h2 : (s.size - 1) / 16 = s.size / 16 := by omega
  have h3 : decB (s[0] :: s.data.toList.drop 1) = if srt (pairsOf s) = false then (2, false, []) else if 2048 < s.size / 16 then (4, false, []) else (0, (s[0]).toNat == 1, pairsOf s) := by
    simp only [decB]
    rw [if_neg (by rw [hl]; omega), hl, h2]
    rfl
  rw [← bytes_cons s h0] at h3
  exact h3
theorem pairsOf_get (s : ByteArray) (k : Nat) (hk : k < (pairsOf s).length) : (pairsOf s)[k] = (leNum ((s.data.toList.drop (1 + 16 * k)).take 8), leNum ((s.data.toList.drop (1 + 16 * k + 8)).take 8)) := by
  have h := readP_get (s.size / 16) (s.data.toList.drop 1) k (by rw [← pairsOf_length]; exact hk)
  rw [List.drop_drop, List.drop_drop] at h
  have h2 : (pairsOf s)[k]? = some (pairsOf s)[k] := List.getElem?_eq_getElem hk
  rw [show (pairsOf s)[k]? = _ from h] at h2
  rw [← Option.some.inj h2, show 1 + (16 * k + 8) = 1 + 16 * k + 8 by omega]
theorem tExt_list (s : ByteArray) (i : Nat) : (s.extract i s.size).data.toList = s.data.toList.drop i := by
  simp
  exact List.take_of_length_le (by simp)

set_option maxHeartbeats 2000000 in
theorem rDecode_bad (s : ByteArray) (w : World) (hs : s.size ≤ 1000000) (hbad : (s.size % 16 ≠ 1) ∨ (∃ h : s.size % 16 = 1, 1 < (s[0]'(by omega)).toNat)) :
    Calls Tryz.prog 41 #[.string s] w fun e w' => e = .returned (.tuple #[.agg #[.bool false, .slice none 0 0], .int .i64 2]) ∧ Below w.heap.size w w' := by
  have b0 : Below w.heap.size w (w.alloc (.cells #[.bool false, .slice none 0 0] 30)) := boxed _ _ _
  rcases hbad with h | ⟨h, h1⟩
  · have hne : (((s.size % 16 : Nat) : Int) != 1) = true := by simp; omega
    have hne2 : (((s.size : Int) % 16) != 1) = true := by simp; omega
    clear h
    go_enter Tryz.func41, Tryz.ntmps41
    go_wp2_with fail
    refine bodyPost_ret (v := .tuple #[.agg #[.bool false, .slice none 0 0], .int .i64 2]) (by simp [results, Tryz.results41, go_sem]) rfl ?_
    exact ⟨rfl, b0⟩
  · have h0 : 0 < s.size := by omega
    have hne : (((s.size : Int) % 16) != 1) = false := by simp; omega
    have hg1 : ((1 : Int) < ((s[0]).toNat : Int)) = True := eq_true (by omega)
    have hg2 : (1 < (s[0]).toNat) = True := eq_true h1
    clear h h1
    go_enter Tryz.func41, Tryz.ntmps41
    go_wp2_with fail
    refine bodyPost_ret (v := .tuple #[.agg #[.bool false, .slice none 0 0], .int .i64 2]) (by simp [results, Tryz.results41, go_sem]) rfl ?_
    exact ⟨rfl, b0⟩

set_option maxHeartbeats 4000000 in
set_option maxRecDepth 100000 in
theorem rDecode_else (s : ByteArray) (w : World) (hs : s.size ≤ 1000000) (h16 : s.size % 16 = 1) (h0 : 0 < s.size) (h1 : (s[0]).toNat ≤ 1) :
    Calls Tryz.prog 41 #[.string s] w fun e w' => ∃ x, e = .returned (.tuple #[x, .int .i64 (decB s.data.toList).1]) ∧ Tk w' x (decB s.data.toList).2.1 (decB s.data.toList).2.2 ∧ Below w.heap.size w w' := by
  obtain ⟨i0, hi, hz0, hz1, hz2⟩ := info_parts info_pair
  have hne : (((s.size : Int) % 16) != 1) = false := by simp; omega
  have hg1 : ((1 : Int) < ((s[0]).toNat : Int)) = False := eq_false (by omega)
  have hg2 : (1 < (s[0]).toNat) = False := eq_false (by omega)
  have HD := Lib.hid (decB_else s h16 h0 h1)
  generalize decB s.data.toList = T at *
  obtain ⟨fb, hfb⟩ : ∃ fb : Bool, (((s[0]).toNat : Int) == 1) = fb := ⟨_, rfl⟩
  have HFB := Lib.hid (show ((s[0]).toNat == 1) = fb by rw [← hfb, show ((1 : Int)) = ((1 : Nat) : Int) from rfl, beq_int]; rfl)
  have hpl := pairsOf_length s
  have hpg := pairsOf_get s
  generalize pairsOf s = L at *
  have HPL := Lib.hid hpl
  have HPG := Lib.hid hpg
  clear hpl hpg
  obtain ⟨wa, hwa⟩ : ∃ wa, wa = (w.alloc (.cells #[.bool false, .slice none 0 0] 30)).alloc (.cells #[.bool fb, .slice none 0 0] 30) := ⟨_, rfl⟩
  have hb0 : Below w.heap.size w wa := by rw [hwa]; exact (boxed _ _ _).alloc (by simp) _
  have r0 : RowAt wa w.heap.size 30 [.bool false, .slice none 0 0] := by rw [hwa]; exact (RowAt.new w 30 #[.bool false, .slice none 0 0]).alloc _
  have r1 : RowAt wa (w.heap.size + 1) 30 [.bool fb, .slice none 0 0] := by
    have := RowAt.new (w.alloc (.cells #[.bool false, .slice none 0 0] 30)) 30 #[.bool fb, .slice none 0 0]
    rw [World.size_alloc] at this
    rw [hwa]; exact this
  have hsz : wa.heap.size = w.heap.size + 1 + 1 := by rw [hwa, World.size_alloc, World.size_alloc]
  have HSZ := Lib.hid hsz
  have HW := Lib.hid hwa
  clear hwa hsz
  go_enter Tryz.func41, Tryz.ntmps41
  go_wp2_with fail
  try rw [← HW.out]
  have hg3 : (s[0].toNat = 1) = (fb = true) := by rw [← HFB.out]; simp
  clear hne hg1 hg2 hfb
  go_loopw [5] (fun i wr => ∃ (n k : Nat) (o : Value), n = 1 + 16 * k ∧ k ≤ L.length ∧ i = .int .i64 (n : Int) ∧ RowAt wr (w.heap.size + 1) 30 [.bool fb, o] ∧ wr.ownsRow wa.heap.size 89 2 o k ((L.take k).flatMap pairCells) ∧ Below (w.heap.size + 1) wa wr) (fun i _ => s.size - (intOf i).toNat)
  case atStart => exact ⟨1, 0, _, rfl, Nat.zero_le _, rfl, r1, World.ownsRow_nil _ _ _ _, Below.refl _ _⟩
  case round =>
    obtain ⟨n, k, o, hn, hk, rfl, q, hown, hb⟩ := hrel
    have hbw := hb0.trans (hb.mono (Nat.le_succ _))
    have hz := hb.size
    have hsz1 : w.heap.size + 2 ≤ wr.heap.size := by have := HSZ.out; omega
    have hls : L.length = s.size / 16 := HPL.out
    clear hg3
    by_cases hlt : k < L.length
    · have hat : n + 16 ≤ s.size := by omega
      have e1 := tExt_list s n
      have e2 := tExt_list s (n + 8)
      have z1 : (s.extract n s.size).size = s.size - n := by rw [← list_len, e1]; simp
      have z2 : (s.extract (n + 8) s.size).size = s.size - (n + 8) := by rw [← list_len, e2]; simp
      have t1 := fun W => rTake8 (s.extract n s.size) W (by omega) (by omega)
      have t2 := fun W => rTake8 (s.extract (n + 8) s.size) W (by omega) (by omega)
      have hg := HPG.out k hlt
      rw [e1] at t1
      rw [e2] at t2
      rw [← hn] at hg
      have HG := Lib.hid hg
      have HN := Lib.hid hn
      clear hg hls z1 z2 e1 e2 hn h16 h1
      generalize leNum ((s.data.toList.drop n).take 8) = n1 at *
      generalize leNum ((s.data.toList.drop (n + 8)).take 8) = n2 at *
      go_wp2_with fail
      with_reducible refine (t1 _).mono ?_
      rintro e w1 ⟨rfl, hb1⟩
      clear t1
      go_wp2_with fail
      with_reducible refine (t2 _).mono ?_
      rintro e w2 ⟨rfl, hb2⟩
      clear t2
      have hb12 := bstep hb1 hb2 hb1.size
      have q2 := q.on hb12
      have hown2 := tOwns_below hown hb12
      have hbn := hb.trans (hb12.mono (by omega))
      have hz2' := hbn.size
      have hzr := hb12.size
      obtain ⟨c0, c1⟩ := q2.two
      have f1 := q2.frozen 1
      have hown' : ∀ g, o.ownBlock = some g → wa.heap.size ≤ g := fun g hg => (hown.lt g hg).1
      have hsz3 := HSZ.out
      have HS3 := Lib.hid hsz3
      have hne : some (w.heap.size + 1) ≠ o.ownBlock := fun e => by have := hown' _ e.symm; omega
      have hza : wa.heap.size ≤ w2.heap.size := by omega
      have hk9 : k < 1000000 := by have := HPL.out; omega
      clear hsz3 hb1 hb2 hb12 hown q hb
      go_wp2_with (at_builtin; refine wpList_append_own _ rfl _ _ 28 rfl wa.heap.size 89 i0 (.agg #[.int .u64 0, .int .u64 0]) 2 16 Tryz.underlying28 hi hz0 hz1 hz2 rfl (by decide) _ _ _ rfl (hown2.alloc _) ⟨w2.heap.size, 0, none⟩ 1 1 [.int .u64 (n1 : Int), .int .u64 (n2 : Int)] rfl rfl ?c1 ?c2 ?c3 ?c4 ?c5 ?_)
      case c1 =>
        intro j u hj
        match j, hj with
        | 0, hj => simp at hj; subst hj; simp [Addr.add]
        | 1, hj => simp at hj; subst hj; simp [Addr.add]
      case c2 => intro u hu0; simp at hu0; rcases hu0 with rfl | rfl <;> rfl
      case c3 => unfold maxLen; omega
      case c4 => omega
      case c5 => simp; omega
      intro v' w3 hown3 hgrow _
      obtain ⟨gg, cap, hvf, _, _⟩ := hown3.form (by omega)
      subst hvf
      have R : w3.ownsRow wa.heap.size 89 2 (.slice (some ⟨gg, 0, none⟩) (k + 1) cap) (k + 1) ((L.take (k + 1)).flatMap pairCells) := by
        rw [List.take_succ_eq_append_getElem hlt, HG.out, flat_snoc]; exact hown3
      have q3 := (q2.alloc (.cells #[.int .u64 (n1 : Int), .int .u64 (n2 : Int)] 89)).grown hgrow hne
      have hb3 : Below (w.heap.size + 1) wa w3 := (hbn.alloc (by omega) _).grown hgrow (by simp; omega) (fun g hg => by have := hown' g hg; have := HS3.out; omega)
      obtain ⟨d0, d1⟩ := q3.two
      have g1 := q3.frozen 1
      have q4 := q3.set 1 (.slice (some ⟨gg, 0, none⟩) (k + 1) cap)
      have R4 := ownsRow_setCell_other R (a := ⟨w.heap.size + 1, 1, none⟩) (fun e => by have h5 := (R.lt (w.heap.size + 1) e).1; have := HS3.out; omega) (.slice (some ⟨gg, 0, none⟩) (k + 1) cap)
      have hb4 := hb3.setCell (p := ⟨w.heap.size + 1, 1, none⟩) (Nat.le_refl _) (.slice (some ⟨gg, 0, none⟩) (k + 1) cap)
      clear hown3 hgrow hown2 hbn q2 c0 c1 f1 hne R q3 hb3
      go_wp2_with fail
      go_roundw
      case rel => exact ⟨n + 16, k + 1, _, by have := HN.out; omega, by omega, by go_num, q4, R4, hb4⟩
      case measure => simp [intOf]; omega
    · obtain rfl : L.length = k := by omega
      rw [List.take_length] at hown
      have hP := Prs.own hown
      have hFr := from_own hown
      have hl9 : L.length ≤ 1000000 := by omega
      have HL16 := Lib.hid hls
      have HN := Lib.hid hn
      obtain ⟨A, c, rfl, hc⟩ := hP.form
      have cS := rsorted_any _ L wr hP (by unfold maxLen; omega)
      obtain ⟨c0, c1⟩ := q.two
      have hns : (n < s.size) = False := eq_false (by omega)
      clear hown hls hn hlt hk
      cases hsr : srt L
      · rw [hsr] at cS
        have HT := Lib.hid (show T = (2, false, []) by rw [HD.out, if_pos hsr])
        clear hsr
        go_wp2_with fail
        with_reducible refine cS.mono ?_
        rintro e w5 ⟨rfl, hb5⟩
        have hbw5 := bstep hbw hb5 hbw.size
        have r5 := (r0.below hb (Nat.lt_succ_self _)).on hb5
        obtain ⟨x0, x1⟩ := r5.two
        have f0 := r5.frozen 0
        have f1 := r5.frozen 1
        obtain ⟨r6, hb6⟩ := set_two hbw5 (Nat.le_refl _) r5 (.bool false) (.slice none 0 0)
        obtain ⟨d0, d1⟩ := r6.two
        clear c0 c1 cS
        go_wp2_with fail
        refine bodyPost_ret (v := .tuple #[.agg #[.bool false, .slice none 0 0], .int .i64 2]) (by simp [results, Tryz.results41, go_sem, d0, d1]) rfl ?_
        rw [HT.out]
        exact ⟨_, rfl, Tk.empty _, hb6⟩
      · rw [hsr] at cS
        by_cases hbig : 2048 < L.length
        · have HT := Lib.hid (show T = (4, false, []) by rw [HD.out, if_neg (by rw [hsr]; simp), if_pos (by rw [← HL16.out]; exact hbig)])
          have hbig1 : (2048 < L.length) = True := eq_true hbig
          have hbig2 : ((2048 : Int) < (L.length : Int)) = True := eq_true (by omega)
          clear hsr hbig
          go_wp2_with fail
          with_reducible refine cS.mono ?_
          rintro e w5 ⟨rfl, hb5⟩
          have hbw5 := bstep hbw hb5 hbw.size
          have q5 := q.on hb5
          have r5 := (r0.below hb (Nat.lt_succ_self _)).on hb5
          obtain ⟨y0, y1⟩ := q5.two
          obtain ⟨x0, x1⟩ := r5.two
          have f0 := r5.frozen 0
          have f1 := r5.frozen 1
          obtain ⟨r6, hb6⟩ := set_two hbw5 (Nat.le_refl _) r5 (.bool false) (.slice none 0 0)
          obtain ⟨d0, d1⟩ := r6.two
          clear c0 c1 cS
          go_wp2_with fail
          refine bodyPost_ret (v := .tuple #[.agg #[.bool false, .slice none 0 0], .int .i64 4]) (by simp [results, Tryz.results41, go_sem, d0, d1]) rfl ?_
          rw [HT.out]
          exact ⟨_, rfl, Tk.empty _, hb6⟩
        · have HT := Lib.hid (show T = (0, fb, L) by rw [HD.out, if_neg (by rw [hsr]; simp), if_neg (by rw [← HL16.out]; exact hbig), HFB.out])
          have hbig1 : (2048 < L.length) = False := eq_false hbig
          have hbig2 : ((2048 : Int) < (L.length : Int)) = False := eq_false (by omega)
          clear hsr hbig
          go_wp2_with fail
          with_reducible refine cS.mono ?_
          rintro e w5 ⟨rfl, hb5⟩
          have hbw5 := bstep hbw hb5 hbw.size
          have q5 := q.on hb5
          have hP5 := hP.on hb5
          have r5 := (r0.below hb (Nat.lt_succ_self _)).on hb5
          obtain ⟨y0, y1⟩ := q5.two
          obtain ⟨x0, x1⟩ := r5.two
          have f0 := r5.frozen 0
          have f1 := r5.frozen 1
          obtain ⟨r6, hb6⟩ := set_two hbw5 (Nat.le_refl _) r5 (.bool fb) (.slice A L.length c)
          obtain ⟨d0, d1⟩ := r6.two
          have hfr : FromOn (w.heap.size + 1) (.slice A L.length c) := hFr.less (by have := HSZ.out; omega)
          have hP6 := ((hP5.setCell hfr (p := ⟨w.heap.size, 0, none⟩) (by show w.heap.size < _; omega) (.bool fb)).setCell hfr (p := ⟨w.heap.size, 1, none⟩) (by show w.heap.size < _; omega) (.slice A L.length c))
          clear c0 c1 cS
          go_wp2_with fail
          refine bodyPost_ret (v := .tuple #[.agg #[.bool fb, .slice A L.length c], .int .i64 0]) (by simp [results, Tryz.results41, go_sem, d0, d1]) rfl ?_
          rw [HT.out]
          refine ⟨_, rfl, ⟨_, rfl, ?_⟩, hb6⟩
          simpa [World.setCell] using hP6

theorem rDecode_any (s : ByteArray) (w : World) (hs : s.size ≤ 1000000) :
    Calls Tryz.prog 41 #[.string s] w fun e w' => ∃ x, e = .returned (.tuple #[x, .int .i64 (decB s.data.toList).1]) ∧ Tk w' x (decB s.data.toList).2.1 (decB s.data.toList).2.2 ∧ Below w.heap.size w w' := by
  by_cases h16 : s.size % 16 = 1
  · by_cases h1 : (s[0]'(by omega)).toNat ≤ 1
    · exact rDecode_else s w hs h16 (by omega) h1
    · rw [decB_bad2 s (by omega) (by omega)]
      exact (rDecode_bad s w hs (.inr ⟨h16, by omega⟩)).mono fun e w' ⟨he, hb⟩ => ⟨_, he, Tk.empty _, hb⟩
  · rw [decB_bad1 s h16]
    exact (rDecode_bad s w hs (.inl h16)).mono fun e w' ⟨he, hb⟩ => ⟨_, he, Tk.empty _, hb⟩
end Go.Proofs.YtieheieiolobaaaGreatDoor
