/- The walk of OctetsLong. -/
import Derived.Test.YtagfbbflpjjbfaaRefC
import Derived.Test.YtagfbbflpjjbfaaOctK
import Derived.OpenShut
namespace Go.Proofs.Ytagfbbflpjjbfaa
open Go.RowKit

/-- make([]byte, N), for whatever number it is spelled by. -/
theorem make_bytes (x : Int) (N : Nat) (hx : x = (N : Int)) (hN : N ≤ 1000000) : ∃ M : Array Value, M.toList = List.replicate N (.int .u8 0) ∧
    ∀ W : World, (Instr.makeSlice 35 (.int .i64 x) (.int .i64 x)).run Try.prog W = .ok (.slice (some ⟨W.heap.size, 0, none⟩) N N) (W.alloc (.cells M 5)) := by
  subst hx
  obtain ⟨i0, hi, hz0, hz1, hz2⟩ := info_parts info_byte
  refine ⟨madeCells (Value.int .u8 0).cells (N * i0.size), ?_, fun W => ?_⟩
  · rw [hz1, Nat.mul_one]; exact toList_madeCells_one _ _
  · have hr := run_make (P := Try.prog) W 35 5 i0 (.int .u8 0) Try.underlying35 hi hz0 .i64 .i64 (N : Int) (N : Int) (by omega) (by omega) (by rw [hz2]; omega) (by omega)
    simpa using hr
theorem zeros_text (M : Array Value) (N : Nat) (hM : M.toList = List.replicate N (.int .u8 0)) : ∃ z : ByteArray, z.size = N ∧
    ∀ W : World, (convert 35 9 (.slice (some ⟨W.heap.size, 0, none⟩) N N)).run Try.prog (W.alloc (.cells M 5)) = .ok (.string z) (W.alloc (.cells M 5)) := by
  refine ⟨⟨(List.replicate N (0 : UInt8)).toArray⟩, by rw [size_mk]; simp, fun W => ?_⟩
  have hcv := run_convert_bytes_back (P := Try.prog) (W.alloc (.cells M 5)) 35 9 5 ⟨W.heap.size, 0, none⟩ N (List.replicate N (0 : UInt8)) Try.underlying35 Try.underlying5 Try.underlying9 (fun j hj => by
    have e1 : (⟨W.heap.size, 0, none⟩ : Addr).add j = ⟨W.heap.size, j, none⟩ := by unfold Addr.add; split <;> simp_all
    have hj' : j < N := by simpa using hj
    rw [e1, (RowAt.new W 5 M).cell j, hM, List.getElem?_replicate, if_pos hj']
    simp)
  rw [List.length_replicate] at hcv
  exact hcv

def longA (w : World) (M : Array Value) : World := w.alloc (.cells M 5)
def longB (w : World) (M : Array Value) (b : ByteArray) : World := (longA w M).alloc (.cells #[.string b] 9)
def longC (w : World) (M : Array Value) (b : ByteArray) : World := (longB w M b).alloc (.cells #[.string b, .string b] 9)
def longD (w : World) (M : Array Value) (b : ByteArray) : World := (longC w M b).alloc (.cells #[.string ⟨#[]⟩, .string ⟨#[]⟩, .string ⟨#[]⟩, .string ⟨#[]⟩, .string ⟨#[]⟩, .string ⟨#[]⟩, .string ⟨#[]⟩, .string ⟨#[]⟩] 9)
def longE (w : World) (M : Array Value) (b : ByteArray) : World := (longD w M b).alloc (.cells #[.string ⟨#[]⟩, .string ⟨#[]⟩, .string ⟨#[]⟩, .string ⟨#[]⟩, .string ⟨#[]⟩, .string ⟨#[]⟩, .string ⟨#[]⟩, .string ⟨#[]⟩, .string ⟨#[]⟩] 9)
def longF (w : World) (M : Array Value) (b : ByteArray) : World := (longE w M b).alloc (.cells #[.slice none 0 0, .slice (some ⟨w.heap.size + 1, 0, none⟩) 1 1, .slice (some ⟨w.heap.size + 2, 0, none⟩) 2 2, .slice (some ⟨w.heap.size + 3, 0, none⟩) 8 8, .slice (some ⟨w.heap.size + 4, 0, none⟩) 9 9] 23)
theorem longA_size (w : World) (M : Array Value) : (longA w M).heap.size = w.heap.size + 1 := by simp [longA]
theorem longB_size (w : World) (M : Array Value) (b : ByteArray) : (longB w M b).heap.size = w.heap.size + 2 := by simp [longB, longA_size]
theorem longC_size (w : World) (M : Array Value) (b : ByteArray) : (longC w M b).heap.size = w.heap.size + 3 := by simp [longC, longB_size]
theorem longD_size (w : World) (M : Array Value) (b : ByteArray) : (longD w M b).heap.size = w.heap.size + 4 := by simp [longD, longC_size]
theorem longE_size (w : World) (M : Array Value) (b : ByteArray) : (longE w M b).heap.size = w.heap.size + 5 := by simp [longE, longD_size]
theorem longF_size (w : World) (M : Array Value) (b : ByteArray) : (longF w M b).heap.size = w.heap.size + 6 := by simp [longF, longE_size]
theorem longF_below (w : World) (M : Array Value) (b : ByteArray) : Below w.heap.size w (longF w M b) := by
  unfold longF longE longD longC longB longA
  exact ((((((Below.refl _ w).alloc (by simp) _).alloc (by simp <;> omega) _).alloc (by simp <;> omega) _).alloc (by simp <;> omega) _).alloc (by simp <;> omega) _).alloc (by simp <;> omega) _
theorem long1 (w : World) (M : Array Value) (b : ByteArray) : RowAt (longF w M b) (w.heap.size + 1) 9 [.string b] := by
  have h := RowAt.new (longA w M) 9 #[.string b]
  rw [longA_size] at h
  exact (((h.alloc _).alloc _).alloc _).alloc _
theorem long2 (w : World) (M : Array Value) (b : ByteArray) : RowAt (longF w M b) (w.heap.size + 2) 9 [.string b, .string b] := by
  have h := RowAt.new (longB w M b) 9 #[.string b, .string b]
  rw [longB_size] at h
  exact ((h.alloc _).alloc _).alloc _
theorem long3 (w : World) (M : Array Value) (b : ByteArray) : RowAt (longF w M b) (w.heap.size + 3) 9 [.string ⟨#[]⟩, .string ⟨#[]⟩, .string ⟨#[]⟩, .string ⟨#[]⟩, .string ⟨#[]⟩, .string ⟨#[]⟩, .string ⟨#[]⟩, .string ⟨#[]⟩] := by
  have h := RowAt.new (longC w M b) 9 #[.string ⟨#[]⟩, .string ⟨#[]⟩, .string ⟨#[]⟩, .string ⟨#[]⟩, .string ⟨#[]⟩, .string ⟨#[]⟩, .string ⟨#[]⟩, .string ⟨#[]⟩]
  rw [longC_size] at h
  exact (h.alloc _).alloc _
theorem long4 (w : World) (M : Array Value) (b : ByteArray) : RowAt (longF w M b) (w.heap.size + 4) 9 [.string ⟨#[]⟩, .string ⟨#[]⟩, .string ⟨#[]⟩, .string ⟨#[]⟩, .string ⟨#[]⟩, .string ⟨#[]⟩, .string ⟨#[]⟩, .string ⟨#[]⟩, .string ⟨#[]⟩] := by
  have h := RowAt.new (longD w M b) 9 #[.string ⟨#[]⟩, .string ⟨#[]⟩, .string ⟨#[]⟩, .string ⟨#[]⟩, .string ⟨#[]⟩, .string ⟨#[]⟩, .string ⟨#[]⟩, .string ⟨#[]⟩, .string ⟨#[]⟩]
  rw [longD_size] at h
  exact h.alloc _
theorem long5 (w : World) (M : Array Value) (b : ByteArray) : RowAt (longF w M b) (w.heap.size + 5) 23 [.slice none 0 0, .slice (some ⟨w.heap.size + 1, 0, none⟩) 1 1, .slice (some ⟨w.heap.size + 2, 0, none⟩) 2 2, .slice (some ⟨w.heap.size + 3, 0, none⟩) 8 8, .slice (some ⟨w.heap.size + 4, 0, none⟩) 9 9] := by
  have h := RowAt.new (longE w M b) 23 #[.slice none 0 0, .slice (some ⟨w.heap.size + 1, 0, none⟩) 1 1, .slice (some ⟨w.heap.size + 2, 0, none⟩) 2 2, .slice (some ⟨w.heap.size + 3, 0, none⟩) 8 8, .slice (some ⟨w.heap.size + 4, 0, none⟩) 9 9]
  rw [longE_size] at h
  exact h
theorem built2 (w : World) (a b : ByteArray) : Strs (w.alloc (.cells #[.string a, .string b] 9)) (w.alloc (.cells #[.string a, .string b] 9)).heap.size (.slice (some ⟨w.heap.size, 0, none⟩) 2 2) [a, b] :=
  Strs.row (ss := [a, b]) (RowAt.new w 9 #[.string a, .string b])
def empties (n : Nat) : List ByteArray := List.replicate n ⟨#[]⟩
theorem long_rows (w : World) (M : Array Value) (b : ByteArray) (j : Nat) (hj : j < 5) :
    ∃ A c ss, (longF w M b).cell? ⟨w.heap.size + 5, j, none⟩ = some (.slice A ss.length c) ∧ Strs (longF w M b) (longF w M b).heap.size (.slice A ss.length c) ss ∧ ss.length ≤ 9 := by
  have h5 := long5 w M b
  match j, hj with
  | 0, _ => exact ⟨none, 0, [], by rw [h5.cell]; rfl, Strs.nil _ _, by simp⟩
  | 1, _ => exact ⟨_, _, [b], by rw [h5.cell]; rfl, Strs.row (ss := [b]) (long1 w M b), by simp⟩
  | 2, _ => exact ⟨_, _, [b, b], by rw [h5.cell]; rfl, Strs.row (ss := [b, b]) (long2 w M b), by simp⟩
  | 3, _ => exact ⟨_, _, empties 8, by rw [h5.cell]; rfl, Strs.row (ss := empties 8) (long3 w M b), by decide⟩
  | 4, _ => exact ⟨_, _, empties 9, by rw [h5.cell]; rfl, Strs.row (ss := empties 9) (long4 w M b), by decide⟩

set_option maxHeartbeats 2000000 in
set_option maxRecDepth 100000 in
theorem long_walk (n part : Int) (w : World) (hn : -9223372036854775808 ≤ n ∧ n ≤ 9223372036854775807) (hp : -9223372036854775808 ≤ part ∧ part ≤ 9223372036854775807) :
    Calls Try.prog 4 #[.int .i64 n, .int .i64 part] w fun e w' => e = .returned (.bool true) ∧ Below w.heap.size w w' := by
  obtain ⟨hq0, hq1⟩ := pickOf_bd n 50 (by omega)
  obtain ⟨hr0, hr1⟩ := pickOf_bd part 60 (by omega)
  obtain ⟨NA, hNA⟩ := Int.eq_ofNat_of_zero_le (show 0 ≤ 65500 + pickOf n 50 by omega)
  obtain ⟨NB, hNB⟩ := Int.eq_ofNat_of_zero_le hr0
  obtain ⟨MA, hMA, hmkA⟩ := make_bytes _ NA hNA (by omega)
  obtain ⟨MB, hMB, hmkB⟩ := make_bytes _ NB hNB (by omega)
  obtain ⟨a, ha, hcvA⟩ := zeros_text MA NA hMA
  obtain ⟨b, hb, hcvB⟩ := zeros_text MB NB hMB
  have has : a.size ≤ 65550 := by omega
  have hbs : b.size ≤ 60 := by omega
  clear hMA hMB ha hb hNA hNB
  generalize hpa : pickOf n 50 = qa at *
  generalize hpb : pickOf part 60 = qb at *
  have HPA := Lib.hid hpa
  have HPB := Lib.hid hpb
  clear hpa hpb
  go_enter Try.func4, Try.ntmps4
  go_wp2_with fail
  with_reducible refine (awake_any _).mono ?_
  rintro e w1 ⟨rfl, hw1⟩
  go_wp2_with fail
  with_reducible refine (pick_any _ _ _ hn (by omega) (by omega)).mono ?_
  rintro e w2 ⟨rfl, rfl⟩
  rw [HPA.out]
  have hcA := hcvA w1
  go_wp2_with fail
  have hw2 : Below w.heap.size w (w1.alloc (.cells MA 5)) := hw1.alloc hw1.size _
  clear hw1 hcA hcvA hmkA
  generalize w1.alloc (.cells MA 5) = w2 at *
  with_reducible refine (pick_any _ _ _ hp (by omega) (by omega)).mono ?_
  rintro e w3 ⟨rfl, rfl⟩
  rw [HPB.out]
  have hcB := hcvB w2
  go_wp2_with fail
  have hw3 : Below w.heap.size w (longF w2 MB b) := hw2.trans ((longF_below w2 MB b).mono hw2.size)
  have hrows := long_rows w2 MB b
  have hz2 := hw2.size
  have hsz := longF_size w2 MB b
  change Code.wp _ _ _ _ (longF w2 MB b)
  generalize longF w2 MB b = w3 at *
  have HR := Lib.hid hrows
  have HZ := Lib.hid hsz
  have hzl : w2.heap.size + 6 ≤ w3.heap.size := by omega
  have hzw : w.heap.size ≤ w3.heap.size := by omega
  clear hw2 hrows hcB hcvB hmkB hsz
  go_loopw [43] (fun i wr => ∃ k : Nat, k ≤ 5 ∧ i = .int .i64 k ∧ Below w3.heap.size w3 wr) (fun i _ => 5 - (intOf i).toNat)
  case atStart => exact ⟨0, Nat.zero_le _, rfl, Below.refl _ _⟩
  case round =>
    obtain ⟨k, hk, rfl, hbr⟩ := hrel
    have hzr := hbr.size
    by_cases hlt : k < 5
    · obtain ⟨A, c, ss, hcell, hst, h9⟩ := HR.out k hlt
      have hlti : (k : Int) < 5 := by omega
      have hcell2 : wr.cell? ⟨w2.heap.size + 5, k, none⟩ = some (.slice A ss.length c) := by
        rw [hbr.cell (p := ⟨w2.heap.size + 5, k, none⟩) (by show w2.heap.size + 5 < _; omega)]; exact hcell
      have hst2 := (hst.below hbr (Nat.le_refl _)).more hzr
      clear hcell hst
      go_wp2_with fail
      with_reducible refine (Join_any _ _ _ _ hst2 (by omega) (by omega)).mono ?_
      rintro e w4 ⟨rfl, hb4⟩
      have hst4 := (hst2.below hb4 (Nat.le_refl _)).more hb4.size
      have hbr4 : Below w3.heap.size w3 w4 := hbr.trans (hb4.mono hzr)
      clear hb4 hst2 hbr hcell2
      generalize hjo : joinOf a.data.toList (txts ss) = jr at *
      have HJ := Lib.hid hjo
      clear hjo
      obtain ⟨jt, je⟩ := jr
      generalize hjt : ByteArray.mk jt.toArray = jb
      have HB := Lib.hid hjt
      clear hjt
      go_wp2_with fail
      with_reducible refine (refJoin_any _ _ _ _ hst4 (by omega) (by omega)).mono ?_
      rintro e w5 ⟨rfl, hb5⟩
      have hbr5 : Below w3.heap.size w3 w5 := hbr4.trans (hb5.mono hbr4.size)
      clear hb5 hst4 hbr4
      rw [HJ.out]
      dsimp only
      rw [HB.out]
      go_wp2_with fail
      go_roundw
      case rel => exact ⟨k + 1, by omega, by go_num, hbr5⟩
      case measure => simp [intOf]; omega
    · have hwr : Below w.heap.size w wr := hw3.trans (hbr.mono hzw)
      clear hbr hw3
      have hd : decide ((k : Int) < 5) = false := by simp; omega
      go_wp2_with fail
      with_reducible refine (Join_any _ _ _ _ (built2 wr a b) (by simp) (by decide)).mono ?_
      rintro e w4 ⟨rfl, hb4⟩
      have hw4 : Below w.heap.size w w4 := (hwr.alloc hwr.size _).trans (hb4.mono (by have := hwr.size; simp; omega))
      clear hb4 hwr
      generalize hjo : joinOf (ByteArray.mk #[]).data.toList (txts [a, b]) = jr at *
      have HJ := Lib.hid hjo
      clear hjo
      obtain ⟨jt, je⟩ := jr
      generalize hjt : ByteArray.mk jt.toArray = jb
      have HB := Lib.hid hjt
      clear hjt
      go_wp2_with fail
      with_reducible refine (refJoin_any _ _ _ _ (built2 w4 a b) (by simp) (by decide)).mono ?_
      rintro e w5 ⟨rfl, hb5⟩
      have hw5 : Below w.heap.size w w5 := (hw4.alloc hw4.size _).trans (hb5.mono (by have := hw4.size; simp; omega))
      clear hb5 hw4
      rw [HJ.out]
      dsimp only
      rw [HB.out]
      go_wp2_with fail
      have habs : (a ++ b).size ≤ 70000 := by rw [ByteArray.size_append]; omega
      generalize hab : a ++ b = ab at *
      have HAB := Lib.hid hab
      clear hab
      with_reducible refine (Split_any _ _ _ _).mono ?_
      rintro e w6 ⟨v6, qs, rfl, hp6, _, hq6, hb6⟩
      have hw6 : Below w.heap.size w w6 := hw5.trans (hb6.mono hw5.size)
      clear hb6 hw5
      obtain ⟨A6, c6, rfl, hc6⟩ := hp6.form
      have hqs8 : qs.length ≤ 8 := by
        rw [← txts_length, hq6]
        rcases splitOf_cases ab.data.toList (a.size : Int) 0 with ⟨x, p, h⟩ | ⟨y, _, h⟩
        · rw [h]; have := (splitOf_sound h).2.2.2.2.2.2.1; simp only; omega
        · rw [h]; simp
      generalize hso : splitOf ab.data.toList (a.size : Int) 0 = sr at *
      have HS := Lib.hid hso
      have HQ := Lib.hid hq6
      clear hso hq6
      generalize hst : ByteArray.mk sr.1.toArray = sb
      have HB2 := Lib.hid hst
      clear hst
      generalize hse : sr.2.2 = se
      have HE := Lib.hid hse
      clear hse
      go_wp2_with fail
      rw [HAB.out]
      with_reducible refine (refSplit_any _ _ _ _ (by omega)).mono ?_
      rintro e w7 ⟨v7, rs, rfl, hp7, _, hq7, hb7⟩
      have hw7 : Below w.heap.size w w7 := hw6.trans (hb7.mono hw6.size)
      have hp6' := (hp6.below hb7 (Nat.le_refl _)).more hb7.size
      clear hb7 hw6 hp6
      obtain ⟨A7, c7, rfl, hc7⟩ := hp7.form
      rw [HS.out] at hq7 ⊢
      rw [HB2.out, HE.out]
      have hqr : qs = rs := txts_inj (HQ.out.trans hq7.symm)
      subst hqr
      clear hq7 HS HQ HB2 HE HAB
      go_wp2_with fail
      with_reducible refine (Texts_any _ _ _ _ _ hp6' hp7 (by omega)).mono ?_
      rintro e w8 ⟨rfl, hb8⟩
      have hw8 : Below w.heap.size w w8 := hw7.trans (hb8.mono hw7.size)
      have hdt : decide (qs = qs) = true := by simp
      rw [hdt]
      clear hdt hb8 hw7
      go_wp2_with fail
      go_ret
      exact ⟨rfl, hw8⟩

theorem long_calls (n : Int) (w0 : (Lit.int .i64 n).wf = true) (part : Int) (w1 : (Lit.int .i64 part).wf = true) (w : World) :
    Calls Try.prog 4 #[.int .i64 n, .int .i64 part] w fun e w' => e = .returned (.bool true) ∧ Below w.heap.size w w' :=
  long_walk n part w (bounds_i64 w0) (bounds_i64 w1)
end Go.Proofs.Ytagfbbflpjjbfaa
