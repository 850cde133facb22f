/- The program's Decode. -/
import Derived.Test.YtieheieiolobaaaGreatDoorTokG
import Derived.Test.YtieheieiolobaaaGreatDoorTokF
import Derived.Test.YtieheieiolobaaaGreatDoorOctD
namespace Go.Proofs.YtieheieiolobaaaGreatDoor
open Go.RowKit

theorem made_pairs (n : Nat) : (madeCells #[.int .u64 0, .int .u64 0] n).toList = List.replicate n (.int .u64 0) := by
  apply List.ext_getElem
  · simp [madeCells]
  · intro i h1 h2
    simp only [madeCells, Array.toList_map, List.getElem_map, List.getElem_replicate]
    rcases Nat.mod_two_eq_zero_or_one ((Array.range n).toList[i]'(by simpa [madeCells] using h1)) with h | h
    · simp at h ⊢; simp [h]
    · simp at h ⊢; simp [h]
/-- The first k pairs, the rest 0. -/
def pairRow (l : List Pr) (k : Nat) : List Value := (l.take k).flatMap pairCells ++ List.replicate ((l.length - k) * 2) (.int .u64 0)
theorem pairRow_zero (l : List Pr) : pairRow l 0 = List.replicate (l.length * 2) (.int .u64 0) := by simp [pairRow]
theorem pairRow_all (l : List Pr) : pairRow l l.length = l.flatMap pairCells := by simp [pairRow]
theorem pairRow_cell (l : List Pr) (k : Nat) (h : k < l.length) : (pairRow l k)[k * 2]? = some (.int .u64 0) ∧ (pairRow l k)[k * 2 + 1]? = some (.int .u64 0) := by
  have hl : ((l.take k).flatMap pairCells).length = k * 2 := by rw [flat_pairs_length, List.length_take]; omega
  unfold pairRow
  constructor
  · rw [List.getElem?_append_right (by omega), hl, List.getElem?_replicate, if_pos (by omega)]
  · rw [List.getElem?_append_right (by omega), hl, List.getElem?_replicate, if_pos (by omega)]
theorem pairRow_set (l : List Pr) (k : Nat) (h : k < l.length) : ((pairRow l k).set (k * 2) (.int .u64 ((l[k]).1 : Int))).set (k * 2 + 1) (.int .u64 ((l[k]).2 : Int)) = pairRow l (k + 1) := by
  have hl : ((l.take k).flatMap pairCells).length = k * 2 := by rw [flat_pairs_length, List.length_take]; omega
  unfold pairRow
  rw [List.set_append_right _ _ (by omega), hl, Nat.sub_self, show (l.length - k) * 2 = (l.length - (k + 1)) * 2 + 1 + 1 by omega, List.replicate_succ, List.set_cons_zero, List.set_append_right _ _ (by omega), hl, show k * 2 + 1 - k * 2 = 1 by omega, List.replicate_succ, List.set_cons_succ, List.set_cons_zero, List.take_succ_eq_append_getElem h, flat_snoc]
  simp

theorem extract_head (s : ByteArray) (_h : 8 ≤ s.size) : (s.extract 0 8).data.toList.take 8 = s.data.toList.take 8 := by
  simp [List.take_take]

set_option maxHeartbeats 1000000 in
theorem next_any (s : ByteArray) (N : Nat) (w : World) (h8 : 8 ≤ s.size) (hs : s.size ≤ 1000000) (c0 : w.cell? ⟨N, 0, none⟩ = some (.string s)) (f0 : w.frozen? ⟨N, 0, none⟩ = false) (hN : N < w.heap.size) :
    Calls Tryz.prog 109 #[.pointer (some ⟨N, 0, none⟩)] w fun e w' => e = .returned (.int .u64 (leNum (s.data.toList.take 8) : Int)) ∧ ∃ w1, Below w.heap.size w w1 ∧ w' = w1.setCell ⟨N, 0, none⟩ (.string (s.extract 8 s.size)) := by
  have hx : (s.extract 0 8).size = 8 := by rw [ext_size _ _ _ h8]
  have cT := fun W => Take_yes (s.extract 0 8) 8 W (by decide) (by decide) (by rw [hx]; decide) (by rw [hx]; decide)
  rw [extract_head s h8] at cT
  generalize leNum (s.data.toList.take 8) = n at *
  clear hx
  go_enter Tryz.func109, Tryz.ntmps109
  go_wp2_with fail
  refine (cT _).mono ?_
  rintro e w1 ⟨rfl, hb1⟩
  have c1 : w1.cell? ⟨N, 0, none⟩ = some (.string s) := (hb1.cell (p := ⟨N, 0, none⟩) hN).trans c0
  have f1 : w1.frozen? ⟨N, 0, none⟩ = false := (hb1.frozen (p := ⟨N, 0, none⟩) hN).trans f0
  clear cT c0 f0
  go_wp2_with fail
  go_ret
  exact ⟨rfl, w1, hb1, rfl⟩

theorem wordsOf_any (s : ByteArray) (w : World) :
    Calls Tryz.prog 96 #[.string s] w fun e w' => e = .returned (.func (.func 109) #[] #[.pointer (some ⟨w.heap.size, 0, none⟩)]) ∧ w' = w.alloc (.cells #[.string s] 9) := by
  have hmf : ∀ (fn : Fn) (first cap : Array Value) (w : World), (Instr.makeFunc fn first cap).run Tryz.prog w = .ok (.func fn first cap) w := fun _ _ _ _ => rfl
  go_enter Tryz.func96, Tryz.ntmps96
  go_wp2_with fail
  go_ret
  exact ⟨rfl, rfl⟩
/- GENERATED -/
theorem ext_ext (s : ByteArray) (n : Nat) : (s.extract n s.size).extract 8 (s.extract n s.size).size = s.extract (n + 8) s.size := by
  apply ByteArray.ext
  apply Array.ext'
  rw [tExt_list, tExt_list, tExt_list, List.drop_drop]

set_option maxHeartbeats 1000000 in
theorem Decode_bad (s : ByteArray) (w : World) (hs : s.size ≤ 1000000) (hbad : (s.size % 16 ≠ 1) ∨ (∃ h : s.size % 16 = 1, 1 < (s[0]'(by omega)).toNat)) :
    Calls Tryz.prog 69 #[.string s] w fun e w' => e = .returned (.tuple #[.agg #[.bool false, .slice none 0 0], .int .i64 2]) ∧ Below w.heap.size w w' := by
  have b0 : Below w.heap.size w (w.alloc (.cells #[.bool false, .slice none 0 0] 30)) := boxed _ _ _
  rcases hbad with h | ⟨h, h1⟩
  · have hne : (((s.size : Int) % 16) != 1) = true := by simp; omega
    clear h
    go_enter Tryz.func69, Tryz.ntmps69
    go_wp2_with fail
    refine bodyPost_ret (v := .tuple #[.agg #[.bool false, .slice none 0 0], .int .i64 2]) (by simp [results, Tryz.results69, go_sem]) rfl ?_
    exact ⟨rfl, b0⟩
  · have h0 : 0 < s.size := by omega
    have hne : (((s.size : Int) % 16) != 1) = false := by simp; omega
    have hg1 : (((s[0]).toNat : Int) != 0) = true := by simp; omega
    have hg2 : (((s[0]).toNat : Int) != 1) = true := by simp; omega
    clear h h1
    go_enter Tryz.func69, Tryz.ntmps69
    go_wp2_with fail
    refine bodyPost_ret (v := .tuple #[.agg #[.bool false, .slice none 0 0], .int .i64 2]) (by simp [results, Tryz.results69, go_sem]) rfl ?_
    exact ⟨rfl, b0⟩

set_option maxHeartbeats 4000000 in
set_option maxRecDepth 100000 in
theorem Decode_else0 (s : ByteArray) (w : World) (hs : s.size ≤ 1000000) (h16 : s.size % 16 = 1) (h0 : 0 < s.size) (h1 : (s[0]).toNat = 0) :
    Calls Tryz.prog 69 #[.string s] w fun e w' => ∃ x, e = .returned (.tuple #[x, .int .i64 (decB s.data.toList).1]) ∧ Tk w' x (decB s.data.toList).2.1 (decB s.data.toList).2.2 ∧ Below w.heap.size w w' ∧ Newer w.heap.size x := by
  obtain ⟨i0, hi, hz0, hz1, hz2⟩ := info_parts info_pair
  have hne : (((s.size : Int) % 16) != 1) = false := by simp; omega
  have HD := Lib.hid (decB_else s h16 h0 (by omega))
  generalize decB s.data.toList = T at *
  have HFB := Lib.hid (show ((s[0]).toNat == 1) = false by rw [h1]; rfl)
  have hpl := pairsOf_length s
  have hpg := pairsOf_get s
  generalize pairsOf s = L at *
  have HPL := Lib.hid hpl
  have HPG := Lib.hid hpg
  have hq : ((s.size : Int) / 16) = (L.length : Int) := by omega
  have hln : L.length ≤ 1000000 := by omega
  clear hpl hpg
  obtain ⟨M, hM⟩ : ∃ M, M = madeCells (Value.agg #[.int .u64 0, .int .u64 0]).cells (L.length * i0.size) := ⟨_, rfl⟩
  have hMs : M.toList = List.replicate (L.length * 2) (.int .u64 0) := by rw [hM, hz1]; exact made_pairs _
  have hmk : ∀ W : World, (Instr.makeSlice 28 (.int .i64 (L.length : Int)) (.int .i64 (L.length : Int))).run Tryz.prog W = .ok (.slice (some ⟨W.heap.size, 0, none⟩) L.length L.length) (W.alloc (.cells M 89)) := fun W => by
    have hr := run_make (P := Tryz.prog) W 28 89 i0 (.agg #[.int .u64 0, .int .u64 0]) Tryz.underlying28 hi hz0 .i64 .i64 (L.length : Int) (L.length : Int) (by omega) (by omega) (by rw [hz2]; omega) (by omega)
    rw [hM]
    simpa using hr
  clear hM hi hz0 hz1 hz2
  have HMS := Lib.hid hMs
  clear hMs
  obtain ⟨wa, hwa⟩ : ∃ wa, wa = (w.alloc (.cells #[.bool false, .slice none 0 0] 30)).alloc (.cells M 89) := ⟨_, rfl⟩
  have hb0 : Below w.heap.size w wa := by rw [hwa]; exact (boxed _ _ _).alloc (by simp) _
  have r0 : RowAt wa w.heap.size 30 [.bool false, .slice none 0 0] := by rw [hwa]; exact (RowAt.new w 30 #[.bool false, .slice none 0 0]).alloc _
  have r1 : RowAt wa (w.heap.size + 1) 89 (pairRow L 0) := by
    have := RowAt.new (w.alloc (.cells #[.bool false, .slice none 0 0] 30)) 89 M
    rw [World.size_alloc] at this
    rw [hwa, pairRow_zero, ← HMS.out]; exact this
  have hsz : wa.heap.size = w.heap.size + 1 + 1 := by rw [hwa, World.size_alloc, World.size_alloc]
  have cW := wordsOf_any (s.extract 1 s.size) wa
  rw [hsz] at cW
  have HSZ := Lib.hid hsz
  have HW := Lib.hid hwa
  clear hwa hsz
  go_enter Tryz.func69, Tryz.ntmps69
  go_wp2_with fail
  try rw [← HW.out]
  refine cW.mono ?_
  rintro e wb ⟨rfl, hwb⟩
  have hbb : Below wa.heap.size wa wb := by rw [hwb]; exact (Below.refl _ _).alloc (Nat.le_refl _) _
  have s1 : RowAt wb (w.heap.size + 1 + 1) 9 [.string (s.extract 1 s.size)] := by
    have := RowAt.new wa 9 #[.string (s.extract 1 s.size)]
    rw [HSZ.out] at this
    rw [hwb]; exact this
  have r2 := r0.on hbb
  have p2 := r1.on hbb
  have hb2 := bstep hb0 hbb hb0.size
  clear hwb cW hne r0 r1
  go_wp2_with fail
  go_loopw [31] (fun i wr => ∃ (n k : Nat), n = 1 + 16 * k ∧ k ≤ L.length ∧ i = .int .i64 (k : Int) ∧ RowAt wr (w.heap.size + 1) 89 (pairRow L k) ∧ RowAt wr (w.heap.size + 1 + 1) 9 [.string (s.extract n s.size)] ∧ Below (w.heap.size + 1) wb wr) (fun i _ => L.length - (intOf i).toNat)
  case atStart => exact ⟨1, 0, rfl, Nat.zero_le _, rfl, p2, s1, Below.refl _ _⟩
  case round =>
    obtain ⟨n, k, hn, hk, rfl, q, sx, hb⟩ := hrel
    clear p2 s1
    have hls : L.length = s.size / 16 := HPL.out
    have hgs := sx.lt
    have hbw := hb2.trans (hb.mono (Nat.le_succ _))
    by_cases hlt : k < L.length
    · have hat : n + 16 ≤ s.size := by omega
      have e1 := tExt_list s n
      have e2 := tExt_list s (n + 8)
      have z1 : (s.extract n s.size).size = s.size - n := by rw [← list_len, e1]; simp
      have z2 : (s.extract (n + 8) s.size).size = s.size - (n + 8) := by rw [← list_len, e2]; simp
      have t1 := fun W c f h => next_any (s.extract n s.size) (w.heap.size + 1 + 1) W (by omega) (by omega) c f h
      have t2 := fun W c f h => next_any (s.extract (n + 8) s.size) (w.heap.size + 1 + 1) W (by omega) (by omega) c f h
      have hg := HPG.out k hlt
      rw [ext_ext, e1] at t1
      rw [ext_ext, e2] at t2
      rw [← hn] at hg
      obtain ⟨kc1, kc2⟩ := pairRow_cell L k hlt
      have hks := pairRow_set L k hlt
      rw [hg] at hks
      have HKS := Lib.hid hks
      have HK1 := Lib.hid kc1
      have HK2 := Lib.hid kc2
      have HN := Lib.hid hn
      have HQ := Lib.hid hq
      have H1 := Lib.hid h1
      have s1 := sx.one
      have f1 := sx.frozen 0
      clear hg hls z1 z2 e1 e2 hn h16 h1 hks kc1 kc2 hq hmk
      generalize leNum ((s.data.toList.drop n).take 8) = n1 at *
      generalize leNum ((s.data.toList.drop (n + 8)).take 8) = n2 at *
      go_wp2_with fail
      refine (t1 _ s1 f1 hgs).mono ?_
      rintro e w3 ⟨rfl, w2, hb2', hw3⟩
      have q2 := q.on hb2'
      have sx2 := sx.on hb2'
      have q3 : RowAt w3 (w.heap.size + 1) 89 (pairRow L k) := by rw [hw3]; exact q2.far (by show w.heap.size + 1 ≠ w.heap.size + 1 + 1; omega) _
      have sx3 : RowAt w3 (w.heap.size + 1 + 1) 9 [.string (s.extract (n + 8) s.size)] := by rw [hw3]; exact sx2.set 0 _
      have hb3 : Below (w.heap.size + 1) wb w3 := by rw [hw3]; exact (hb.trans (hb2'.mono (by omega))).setCell (p := ⟨w.heap.size + 1 + 1, 0, none⟩) (by show w.heap.size + 1 ≤ w.heap.size + 1 + 1; omega) _
      have c3 : w3.cell? ⟨w.heap.size + 1, k * 2, none⟩ = some (.int .u64 0) := by rw [q3.cell]; exact HK1.out
      have f3 := q3.frozen (k * 2)
      clear hw3 hb2' t1 s1 f1 q2 sx2
      have q4 := q3.set (k * 2) (.int .u64 (n1 : Int))
      have sx4 := sx3.far (p := ⟨w.heap.size + 1, k * 2, none⟩) (by show w.heap.size + 1 + 1 ≠ w.heap.size + 1; omega) (.int .u64 (n1 : Int))
      have hb4 := hb3.setCell (p := ⟨w.heap.size + 1, k * 2, none⟩) (Nat.le_refl _) (.int .u64 (n1 : Int))
      obtain ⟨w4, hw4⟩ : ∃ w4, w4 = w3.setCell ⟨w.heap.size + 1, k * 2, none⟩ (.int .u64 (n1 : Int)) := ⟨_, rfl⟩
      have H4 := Lib.hid hw4
      rw [← hw4] at q4 sx4 hb4
      have s4 := sx4.one
      have f4 := sx4.frozen 0
      clear hw4 q3 sx3 hb3
      go_wp2_with fail
      rw [← H4.out]
      refine (t2 _ s4 f4 sx4.lt).mono ?_
      rintro e w6 ⟨rfl, w5, hb5', hw6⟩
      have q5 := q4.on hb5'
      have sx5 := sx4.on hb5'
      have hz4 := sx4.lt
      have q6 : RowAt w6 (w.heap.size + 1) 89 ((pairRow L k).set (k * 2) (.int .u64 (n1 : Int))) := by rw [hw6]; exact q5.far (by show w.heap.size + 1 ≠ w.heap.size + 1 + 1; omega) _
      have sx6 : RowAt w6 (w.heap.size + 1 + 1) 9 [.string (s.extract (n + 8 + 8) s.size)] := by rw [hw6]; exact sx5.set 0 _
      have hb6 : Below (w.heap.size + 1) wb w6 := by rw [hw6]; exact (hb4.trans (hb5'.mono (by omega))).setCell (p := ⟨w.heap.size + 1 + 1, 0, none⟩) (by show w.heap.size + 1 ≤ w.heap.size + 1 + 1; omega) _
      have c6 : w6.cell? ⟨w.heap.size + 1, k * 2 + 1, none⟩ = some (.int .u64 0) := by rw [q6.cell, List.getElem?_set_ne (by omega)]; exact HK2.out
      have f6 := q6.frozen (k * 2 + 1)
      have q7 := q6.set (k * 2 + 1) (.int .u64 (n2 : Int))
      rw [HKS.out] at q7
      have sx7 := sx6.far (p := ⟨w.heap.size + 1, k * 2 + 1, none⟩) (by show w.heap.size + 1 + 1 ≠ w.heap.size + 1; omega) (.int .u64 (n2 : Int))
      have hb7 := hb6.setCell (p := ⟨w.heap.size + 1, k * 2 + 1, none⟩) (Nat.le_refl _) (.int .u64 (n2 : Int))
      clear hw6 hb5' t2 s4 f4 q5 sx5 q4 sx4 hb4 q6 sx6 hb6 c3 f3
      go_wp2_with fail
      go_roundw
      case rel => exact ⟨n + 8 + 8, k + 1, by have := HN.out; omega, by omega, by go_num, q7, sx7, hb7⟩
      case measure => simp [intOf]; omega
    · obtain rfl : L.length = k := by omega
      rw [pairRow_all] at q
      have hP := Prs.row q
      have cS := inOrder_any _ L wr hP (by unfold maxLen; omega)
      have HL16 := Lib.hid hls
      have HN := Lib.hid hn
      have HQ := Lib.hid hq
      have hr : RowAt wr w.heap.size 30 [.bool false, .slice none 0 0] := r2.below hb (Nat.lt_succ_self _)
      clear hls hn hlt hk hq hmk
      cases hsr : srt L
      · rw [hsr] at cS
        have HT := Lib.hid (show T = (2, false, []) by rw [HD.out, if_pos hsr])
        clear hsr
        go_wp2_with fail
        with_reducible refine cS.mono ?_
        rintro e w5 ⟨rfl, hb5⟩
        have hbw5 := bstep hbw hb5 hbw.size
        have r5 := hr.on hb5
        obtain ⟨x0, x1⟩ := r5.two
        have f0 := r5.frozen 0
        have f1 := r5.frozen 1
        obtain ⟨r6, hb6⟩ := set_two hbw5 (Nat.le_refl _) r5 (.bool false) (.slice none 0 0)
        obtain ⟨d0, d1⟩ := r6.two
        clear cS
        go_wp2_with fail
        refine bodyPost_ret (v := .tuple #[.agg #[.bool false, .slice none 0 0], .int .i64 2]) (by simp [results, Tryz.results69, go_sem, d0, d1]) rfl ?_
        rw [HT.out]
        exact ⟨_, rfl, Tk.empty _, hb6, Newer.none _ _ _ _⟩
      · rw [hsr] at cS
        by_cases hbig : 2048 < L.length
        · have HT := Lib.hid (show T = (4, false, []) by rw [HD.out, if_neg (by rw [hsr]; simp), if_pos (by rw [← HL16.out]; exact hbig)])
          have hbig1 : (2048 < L.length) = True := eq_true hbig
          have hbig2 : ((2048 : Int) < (L.length : Int)) = True := eq_true (by omega)
          clear hsr hbig
          go_wp2_with fail
          with_reducible refine cS.mono ?_
          rintro e w5 ⟨rfl, hb5⟩
          have hbw5 := bstep hbw hb5 hbw.size
          have r5 := hr.on hb5
          obtain ⟨x0, x1⟩ := r5.two
          have f0 := r5.frozen 0
          have f1 := r5.frozen 1
          obtain ⟨r6, hb6⟩ := set_two hbw5 (Nat.le_refl _) r5 (.bool false) (.slice none 0 0)
          obtain ⟨d0, d1⟩ := r6.two
          clear cS
          go_wp2_with fail
          refine bodyPost_ret (v := .tuple #[.agg #[.bool false, .slice none 0 0], .int .i64 4]) (by simp [results, Tryz.results69, go_sem, d0, d1]) rfl ?_
          rw [HT.out]
          exact ⟨_, rfl, Tk.empty _, hb6, Newer.none _ _ _ _⟩
        · have HT := Lib.hid (show T = (0, false, L) by rw [HD.out, if_neg (by rw [hsr]; simp), if_neg (by rw [← HL16.out]; exact hbig), HFB.out])
          have hbig1 : (2048 < L.length) = False := eq_false hbig
          have hbig2 : ((2048 : Int) < (L.length : Int)) = False := eq_false (by omega)
          clear hsr hbig
          go_wp2_with fail
          with_reducible refine cS.mono ?_
          rintro e w5 ⟨rfl, hb5⟩
          have hbw5 := bstep hbw hb5 hbw.size
          have hP5 := hP.on hb5
          have r5 := hr.on hb5
          obtain ⟨x0, x1⟩ := r5.two
          have f0 := r5.frozen 0
          have f1 := r5.frozen 1
          obtain ⟨r6, hb6⟩ := set_two hbw5 (Nat.le_refl _) r5 (.bool false) (.slice (some ⟨w.heap.size + 1, 0, none⟩) L.length L.length)
          obtain ⟨d0, d1⟩ := r6.two
          have hfr : FromOn (w.heap.size + 1) (.slice (some ⟨w.heap.size + 1, 0, none⟩) L.length L.length) := fun ad n c e => by injection e with e1; injection e1 with e1; subst e1; exact Nat.le_refl _
          have hP6 := ((hP5.setCell hfr (p := ⟨w.heap.size, 0, none⟩) (by show w.heap.size < _; omega) (.bool false)).setCell hfr (p := ⟨w.heap.size, 1, none⟩) (by show w.heap.size < _; omega) (.slice (some ⟨w.heap.size + 1, 0, none⟩) L.length L.length))
          clear cS
          go_wp2_with fail
          refine bodyPost_ret (v := .tuple #[.agg #[.bool false, .slice (some ⟨w.heap.size + 1, 0, none⟩) L.length L.length], .int .i64 0]) (by simp [results, Tryz.results69, go_sem, d0, d1]) rfl ?_
          rw [HT.out]
          refine ⟨_, rfl, ⟨_, rfl, ?_⟩, hb6, Newer.some (by show w.heap.size ≤ w.heap.size + 1; omega)⟩
          simpa [World.setCell] using hP6

set_option maxHeartbeats 4000000 in
set_option maxRecDepth 100000 in
theorem Decode_else1 (s : ByteArray) (w : World) (hs : s.size ≤ 1000000) (h16 : s.size % 16 = 1) (h0 : 0 < s.size) (h1 : (s[0]).toNat = 1) :
    Calls Tryz.prog 69 #[.string s] w fun e w' => ∃ x, e = .returned (.tuple #[x, .int .i64 (decB s.data.toList).1]) ∧ Tk w' x (decB s.data.toList).2.1 (decB s.data.toList).2.2 ∧ Below w.heap.size w w' ∧ Newer w.heap.size x := by
  obtain ⟨i0, hi, hz0, hz1, hz2⟩ := info_parts info_pair
  have hne : (((s.size : Int) % 16) != 1) = false := by simp; omega
  have HD := Lib.hid (decB_else s h16 h0 (by omega))
  generalize decB s.data.toList = T at *
  have HFB := Lib.hid (show ((s[0]).toNat == 1) = true by rw [h1]; rfl)
  have hpl := pairsOf_length s
  have hpg := pairsOf_get s
  generalize pairsOf s = L at *
  have HPL := Lib.hid hpl
  have HPG := Lib.hid hpg
  have hq : ((s.size : Int) / 16) = (L.length : Int) := by omega
  have hln : L.length ≤ 1000000 := by omega
  clear hpl hpg
  obtain ⟨M, hM⟩ : ∃ M, M = madeCells (Value.agg #[.int .u64 0, .int .u64 0]).cells (L.length * i0.size) := ⟨_, rfl⟩
  have hMs : M.toList = List.replicate (L.length * 2) (.int .u64 0) := by rw [hM, hz1]; exact made_pairs _
  have hmk : ∀ W : World, (Instr.makeSlice 28 (.int .i64 (L.length : Int)) (.int .i64 (L.length : Int))).run Tryz.prog W = .ok (.slice (some ⟨W.heap.size, 0, none⟩) L.length L.length) (W.alloc (.cells M 89)) := fun W => by
    have hr := run_make (P := Tryz.prog) W 28 89 i0 (.agg #[.int .u64 0, .int .u64 0]) Tryz.underlying28 hi hz0 .i64 .i64 (L.length : Int) (L.length : Int) (by omega) (by omega) (by rw [hz2]; omega) (by omega)
    rw [hM]
    simpa using hr
  clear hM hi hz0 hz1 hz2
  have HMS := Lib.hid hMs
  clear hMs
  obtain ⟨wa, hwa⟩ : ∃ wa, wa = (w.alloc (.cells #[.bool false, .slice none 0 0] 30)).alloc (.cells M 89) := ⟨_, rfl⟩
  have hb0 : Below w.heap.size w wa := by rw [hwa]; exact (boxed _ _ _).alloc (by simp) _
  have r0 : RowAt wa w.heap.size 30 [.bool false, .slice none 0 0] := by rw [hwa]; exact (RowAt.new w 30 #[.bool false, .slice none 0 0]).alloc _
  have r1 : RowAt wa (w.heap.size + 1) 89 (pairRow L 0) := by
    have := RowAt.new (w.alloc (.cells #[.bool false, .slice none 0 0] 30)) 89 M
    rw [World.size_alloc] at this
    rw [hwa, pairRow_zero, ← HMS.out]; exact this
  have hsz : wa.heap.size = w.heap.size + 1 + 1 := by rw [hwa, World.size_alloc, World.size_alloc]
  have cW := wordsOf_any (s.extract 1 s.size) wa
  rw [hsz] at cW
  have HSZ := Lib.hid hsz
  have HW := Lib.hid hwa
  clear hwa hsz
  go_enter Tryz.func69, Tryz.ntmps69
  go_wp2_with fail
  try rw [← HW.out]
  refine cW.mono ?_
  rintro e wb ⟨rfl, hwb⟩
  have hbb : Below wa.heap.size wa wb := by rw [hwb]; exact (Below.refl _ _).alloc (Nat.le_refl _) _
  have s1 : RowAt wb (w.heap.size + 1 + 1) 9 [.string (s.extract 1 s.size)] := by
    have := RowAt.new wa 9 #[.string (s.extract 1 s.size)]
    rw [HSZ.out] at this
    rw [hwb]; exact this
  have r2 := r0.on hbb
  have p2 := r1.on hbb
  have hb2 := bstep hb0 hbb hb0.size
  clear hwb cW hne r0 r1
  go_wp2_with fail
  go_loopw [31] (fun i wr => ∃ (n k : Nat), n = 1 + 16 * k ∧ k ≤ L.length ∧ i = .int .i64 (k : Int) ∧ RowAt wr (w.heap.size + 1) 89 (pairRow L k) ∧ RowAt wr (w.heap.size + 1 + 1) 9 [.string (s.extract n s.size)] ∧ Below (w.heap.size + 1) wb wr) (fun i _ => L.length - (intOf i).toNat)
  case atStart => exact ⟨1, 0, rfl, Nat.zero_le _, rfl, p2, s1, Below.refl _ _⟩
  case round =>
    obtain ⟨n, k, hn, hk, rfl, q, sx, hb⟩ := hrel
    clear p2 s1
    have hls : L.length = s.size / 16 := HPL.out
    have hgs := sx.lt
    have hbw := hb2.trans (hb.mono (Nat.le_succ _))
    by_cases hlt : k < L.length
    · have hat : n + 16 ≤ s.size := by omega
      have e1 := tExt_list s n
      have e2 := tExt_list s (n + 8)
      have z1 : (s.extract n s.size).size = s.size - n := by rw [← list_len, e1]; simp
      have z2 : (s.extract (n + 8) s.size).size = s.size - (n + 8) := by rw [← list_len, e2]; simp
      have t1 := fun W c f h => next_any (s.extract n s.size) (w.heap.size + 1 + 1) W (by omega) (by omega) c f h
      have t2 := fun W c f h => next_any (s.extract (n + 8) s.size) (w.heap.size + 1 + 1) W (by omega) (by omega) c f h
      have hg := HPG.out k hlt
      rw [ext_ext, e1] at t1
      rw [ext_ext, e2] at t2
      rw [← hn] at hg
      obtain ⟨kc1, kc2⟩ := pairRow_cell L k hlt
      have hks := pairRow_set L k hlt
      rw [hg] at hks
      have HKS := Lib.hid hks
      have HK1 := Lib.hid kc1
      have HK2 := Lib.hid kc2
      have HN := Lib.hid hn
      have HQ := Lib.hid hq
      have H1 := Lib.hid h1
      have s1 := sx.one
      have f1 := sx.frozen 0
      clear hg hls z1 z2 e1 e2 hn h16 h1 hks kc1 kc2 hq hmk
      generalize leNum ((s.data.toList.drop n).take 8) = n1 at *
      generalize leNum ((s.data.toList.drop (n + 8)).take 8) = n2 at *
      go_wp2_with fail
      refine (t1 _ s1 f1 hgs).mono ?_
      rintro e w3 ⟨rfl, w2, hb2', hw3⟩
      have q2 := q.on hb2'
      have sx2 := sx.on hb2'
      have q3 : RowAt w3 (w.heap.size + 1) 89 (pairRow L k) := by rw [hw3]; exact q2.far (by show w.heap.size + 1 ≠ w.heap.size + 1 + 1; omega) _
      have sx3 : RowAt w3 (w.heap.size + 1 + 1) 9 [.string (s.extract (n + 8) s.size)] := by rw [hw3]; exact sx2.set 0 _
      have hb3 : Below (w.heap.size + 1) wb w3 := by rw [hw3]; exact (hb.trans (hb2'.mono (by omega))).setCell (p := ⟨w.heap.size + 1 + 1, 0, none⟩) (by show w.heap.size + 1 ≤ w.heap.size + 1 + 1; omega) _
      have c3 : w3.cell? ⟨w.heap.size + 1, k * 2, none⟩ = some (.int .u64 0) := by rw [q3.cell]; exact HK1.out
      have f3 := q3.frozen (k * 2)
      clear hw3 hb2' t1 s1 f1 q2 sx2
      have q4 := q3.set (k * 2) (.int .u64 (n1 : Int))
      have sx4 := sx3.far (p := ⟨w.heap.size + 1, k * 2, none⟩) (by show w.heap.size + 1 + 1 ≠ w.heap.size + 1; omega) (.int .u64 (n1 : Int))
      have hb4 := hb3.setCell (p := ⟨w.heap.size + 1, k * 2, none⟩) (Nat.le_refl _) (.int .u64 (n1 : Int))
      obtain ⟨w4, hw4⟩ : ∃ w4, w4 = w3.setCell ⟨w.heap.size + 1, k * 2, none⟩ (.int .u64 (n1 : Int)) := ⟨_, rfl⟩
      have H4 := Lib.hid hw4
      rw [← hw4] at q4 sx4 hb4
      have s4 := sx4.one
      have f4 := sx4.frozen 0
      clear hw4 q3 sx3 hb3
      go_wp2_with fail
      rw [← H4.out]
      refine (t2 _ s4 f4 sx4.lt).mono ?_
      rintro e w6 ⟨rfl, w5, hb5', hw6⟩
      have q5 := q4.on hb5'
      have sx5 := sx4.on hb5'
      have hz4 := sx4.lt
      have q6 : RowAt w6 (w.heap.size + 1) 89 ((pairRow L k).set (k * 2) (.int .u64 (n1 : Int))) := by rw [hw6]; exact q5.far (by show w.heap.size + 1 ≠ w.heap.size + 1 + 1; omega) _
      have sx6 : RowAt w6 (w.heap.size + 1 + 1) 9 [.string (s.extract (n + 8 + 8) s.size)] := by rw [hw6]; exact sx5.set 0 _
      have hb6 : Below (w.heap.size + 1) wb w6 := by rw [hw6]; exact (hb4.trans (hb5'.mono (by omega))).setCell (p := ⟨w.heap.size + 1 + 1, 0, none⟩) (by show w.heap.size + 1 ≤ w.heap.size + 1 + 1; omega) _
      have c6 : w6.cell? ⟨w.heap.size + 1, k * 2 + 1, none⟩ = some (.int .u64 0) := by rw [q6.cell, List.getElem?_set_ne (by omega)]; exact HK2.out
      have f6 := q6.frozen (k * 2 + 1)
      have q7 := q6.set (k * 2 + 1) (.int .u64 (n2 : Int))
      rw [HKS.out] at q7
      have sx7 := sx6.far (p := ⟨w.heap.size + 1, k * 2 + 1, none⟩) (by show w.heap.size + 1 + 1 ≠ w.heap.size + 1; omega) (.int .u64 (n2 : Int))
      have hb7 := hb6.setCell (p := ⟨w.heap.size + 1, k * 2 + 1, none⟩) (Nat.le_refl _) (.int .u64 (n2 : Int))
      clear hw6 hb5' t2 s4 f4 q5 sx5 q4 sx4 hb4 q6 sx6 hb6 c3 f3
      go_wp2_with fail
      go_roundw
      case rel => exact ⟨n + 8 + 8, k + 1, by have := HN.out; omega, by omega, by go_num, q7, sx7, hb7⟩
      case measure => simp [intOf]; omega
    · obtain rfl : L.length = k := by omega
      rw [pairRow_all] at q
      have hP := Prs.row q
      have cS := inOrder_any _ L wr hP (by unfold maxLen; omega)
      have HL16 := Lib.hid hls
      have HN := Lib.hid hn
      have HQ := Lib.hid hq
      have hr : RowAt wr w.heap.size 30 [.bool false, .slice none 0 0] := r2.below hb (Nat.lt_succ_self _)
      clear hls hn hlt hk hq hmk
      cases hsr : srt L
      · rw [hsr] at cS
        have HT := Lib.hid (show T = (2, false, []) by rw [HD.out, if_pos hsr])
        clear hsr
        go_wp2_with fail
        with_reducible refine cS.mono ?_
        rintro e w5 ⟨rfl, hb5⟩
        have hbw5 := bstep hbw hb5 hbw.size
        have r5 := hr.on hb5
        obtain ⟨x0, x1⟩ := r5.two
        have f0 := r5.frozen 0
        have f1 := r5.frozen 1
        obtain ⟨r6, hb6⟩ := set_two hbw5 (Nat.le_refl _) r5 (.bool false) (.slice none 0 0)
        obtain ⟨d0, d1⟩ := r6.two
        clear cS
        go_wp2_with fail
        refine bodyPost_ret (v := .tuple #[.agg #[.bool false, .slice none 0 0], .int .i64 2]) (by simp [results, Tryz.results69, go_sem, d0, d1]) rfl ?_
        rw [HT.out]
        exact ⟨_, rfl, Tk.empty _, hb6, Newer.none _ _ _ _⟩
      · rw [hsr] at cS
        by_cases hbig : 2048 < L.length
        · have HT := Lib.hid (show T = (4, false, []) by rw [HD.out, if_neg (by rw [hsr]; simp), if_pos (by rw [← HL16.out]; exact hbig)])
          have hbig1 : (2048 < L.length) = True := eq_true hbig
          have hbig2 : ((2048 : Int) < (L.length : Int)) = True := eq_true (by omega)
          clear hsr hbig
          go_wp2_with fail
          with_reducible refine cS.mono ?_
          rintro e w5 ⟨rfl, hb5⟩
          have hbw5 := bstep hbw hb5 hbw.size
          have r5 := hr.on hb5
          obtain ⟨x0, x1⟩ := r5.two
          have f0 := r5.frozen 0
          have f1 := r5.frozen 1
          obtain ⟨r6, hb6⟩ := set_two hbw5 (Nat.le_refl _) r5 (.bool false) (.slice none 0 0)
          obtain ⟨d0, d1⟩ := r6.two
          clear cS
          go_wp2_with fail
          refine bodyPost_ret (v := .tuple #[.agg #[.bool false, .slice none 0 0], .int .i64 4]) (by simp [results, Tryz.results69, go_sem, d0, d1]) rfl ?_
          rw [HT.out]
          exact ⟨_, rfl, Tk.empty _, hb6, Newer.none _ _ _ _⟩
        · have HT := Lib.hid (show T = (0, true, L) by rw [HD.out, if_neg (by rw [hsr]; simp), if_neg (by rw [← HL16.out]; exact hbig), HFB.out])
          have hbig1 : (2048 < L.length) = False := eq_false hbig
          have hbig2 : ((2048 : Int) < (L.length : Int)) = False := eq_false (by omega)
          clear hsr hbig
          go_wp2_with fail
          with_reducible refine cS.mono ?_
          rintro e w5 ⟨rfl, hb5⟩
          have hbw5 := bstep hbw hb5 hbw.size
          have hP5 := hP.on hb5
          have r5 := hr.on hb5
          obtain ⟨x0, x1⟩ := r5.two
          have f0 := r5.frozen 0
          have f1 := r5.frozen 1
          obtain ⟨r6, hb6⟩ := set_two hbw5 (Nat.le_refl _) r5 (.bool true) (.slice (some ⟨w.heap.size + 1, 0, none⟩) L.length L.length)
          obtain ⟨d0, d1⟩ := r6.two
          have hfr : FromOn (w.heap.size + 1) (.slice (some ⟨w.heap.size + 1, 0, none⟩) L.length L.length) := fun ad n c e => by injection e with e1; injection e1 with e1; subst e1; exact Nat.le_refl _
          have hP6 := ((hP5.setCell hfr (p := ⟨w.heap.size, 0, none⟩) (by show w.heap.size < _; omega) (.bool true)).setCell hfr (p := ⟨w.heap.size, 1, none⟩) (by show w.heap.size < _; omega) (.slice (some ⟨w.heap.size + 1, 0, none⟩) L.length L.length))
          clear cS
          go_wp2_with fail
          refine bodyPost_ret (v := .tuple #[.agg #[.bool true, .slice (some ⟨w.heap.size + 1, 0, none⟩) L.length L.length], .int .i64 0]) (by simp [results, Tryz.results69, go_sem, d0, d1]) rfl ?_
          rw [HT.out]
          refine ⟨_, rfl, ⟨_, rfl, ?_⟩, hb6, Newer.some (by show w.heap.size ≤ w.heap.size + 1; omega)⟩
          simpa [World.setCell] using hP6

theorem Decode_new (s : ByteArray) (w : World) (hs : s.size ≤ 1000000) :
    Calls Tryz.prog 69 #[.string s] w fun e w' => ∃ x, e = .returned (.tuple #[x, .int .i64 (decB s.data.toList).1]) ∧ Tk w' x (decB s.data.toList).2.1 (decB s.data.toList).2.2 ∧ Below w.heap.size w w' ∧ Newer w.heap.size x := by
  by_cases h16 : s.size % 16 = 1
  · by_cases h1 : (s[0]'(by omega)).toNat ≤ 1
    · rcases (by omega : (s[0]'(by omega)).toNat = 0 ∨ (s[0]'(by omega)).toNat = 1) with h | h
      · exact Decode_else0 s w hs h16 (by omega) h
      · exact Decode_else1 s w hs h16 (by omega) h
    · rw [decB_bad2 s (by omega) (by omega)]
      exact (Decode_bad s w hs (.inr ⟨h16, by omega⟩)).mono fun e w' ⟨he, hb⟩ => ⟨_, he, Tk.empty _, hb, Newer.none _ _ _ _⟩
  · rw [decB_bad1 s h16]
    exact (Decode_bad s w hs (.inl h16)).mono fun e w' ⟨he, hb⟩ => ⟨_, he, Tk.empty _, hb, Newer.none _ _ _ _⟩
theorem Decode_any (s : ByteArray) (w : World) (hs : s.size ≤ 1000000) :
    Calls Tryz.prog 69 #[.string s] w fun e w' => ∃ x, e = .returned (.tuple #[x, .int .i64 (decB s.data.toList).1]) ∧ Tk w' x (decB s.data.toList).2.1 (decB s.data.toList).2.2 ∧ Below w.heap.size w w' :=
  (Decode_new s w hs).mono fun e w' ⟨x, h1, h2, h3, _⟩ => ⟨x, h1, h2, h3⟩
end Go.Proofs.YtieheieiolobaaaGreatDoor
