/- The document's own answers of layer 2: bytes, List, Vector, Has. -/
import Derived.Test.YtpojpikndlcbkaaRBitA
namespace Go.Proofs.Ytpojpikndlcbkaa
open Go.RowKit Go.Shelf

theorem add_or : ∀ a : Fin 256, ∀ r : Fin 8, a.val.testBit r.val = false → a.val + 2 ^ r.val = a.val ||| 2 ^ r.val := by decide +kernel
def marksTo (S : Nat → Bool) (n : Nat) : Nat → List UInt8
  | 0 => List.replicate n 0
  | i + 1 => if S i then putBit (marksTo S n i) i else marksTo S n i
theorem marksTo_length (S : Nat → Bool) (n : Nat) : ∀ i, (marksTo S n i).length = n
  | 0 => by simp [marksTo]
  | i + 1 => by
    unfold marksTo
    split
    · rw [putBit_length, marksTo_length S n i]
    · exact marksTo_length S n i
theorem bitAt_marksTo (S : Nat → Bool) (n : Nat) : ∀ i j, i ≤ 8 * n → bitAt (marksTo S n i) j = (decide (j < i) && S j)
  | 0, j, _ => by simp [marksTo, bitAt_zeros]
  | i + 1, j, h => by
    have ih := bitAt_marksTo S n i j (by omega)
    unfold marksTo
    by_cases hS : S i = true
    · rw [if_pos hS, bitAt_putBit _ _ _ (by rw [marksTo_length]; omega), ih]
      by_cases hj : i = j
      · subst hj; simp [hS]
      · by_cases h2 : j < i
        · simp [h2, show j < i + 1 by omega, hj]
        · simp [h2, show ¬ j < i + 1 by omega, hj]
    · rw [if_neg hS, ih]
      by_cases hj : i = j
      · subst hj; simp [show S i = false by simpa using hS]
      · by_cases h2 : j < i
        · simp [h2, show j < i + 1 by omega]
        · simp [h2, show ¬ j < i + 1 by omega]
theorem marks_add (S : Nat → Bool) (n i : Nat) (h : i < 8 * n) : ((marksTo S n i).getD (i / 8) 0).toNat + 2 ^ (i % 8) = ((marksTo S n i).getD (i / 8) 0).toNat ||| 2 ^ (i % 8) := by
  have hb := bitAt_marksTo S n i i (by omega)
  simp only [Nat.lt_irrefl, decide_false, Bool.false_and] at hb
  unfold bitAt at hb
  exact add_or ⟨_, UInt8.toNat_lt _⟩ ⟨i % 8, Nat.mod_lt _ (by omega)⟩ hb
theorem byte_add (z : UInt8) (r : Nat) (hr : r < 8) (h : z.toNat + 2 ^ r = z.toNat ||| 2 ^ r) : ((z.toNat : Int) + 2 ^ r) % 256 = ((UInt8.ofNat (z.toNat ||| 2 ^ r)).toNat : Int) := by
  have h1 := or_lt_256 _ _ (UInt8.toNat_lt z) (pow_lt_256 r hr)
  have h2 := pow_lt_256 r hr
  rw [UInt8.toNat_ofNat_of_lt' h1, ← h]
  have h3 : ((2 ^ r : Nat) : Int) = 2 ^ r := by simp
  rw [← h3]
  generalize 2 ^ r = y at *
  omega

/-- Which bits 'bytes' sets. -/
def wants (on : List Int) (more : Int) (j : Nat) : Bool := decide ((j : Int) = more) || decide ((j : Int) ∈ on)

set_option maxHeartbeats 2000000 in
set_option maxRecDepth 100000 in
theorem rbytes_any (x : Value) (n : Int) (on : List Int) (k : Nat) (more : Int) (w : World) (hx : Bt w x n on) (h9 : on.length ≤ maxLen) (hk : k ≤ 300) :
    Calls Try.prog 28 #[x, .int .i64 k, .int .i64 more] w fun e w' => e = .returned (.string ⟨(marksTo (wants on more) k (8 * k)).toArray⟩) ∧ Below w.heap.size w w' := by
  obtain ⟨A, c, rfl, hc, hv⟩ := hx.form
  obtain ⟨M, hM, hmk⟩ := make_bytes (k : Int) k rfl (by omega)
  obtain ⟨W0, hW0⟩ : ∃ W0, W0 = (w.alloc (.cells #[.int .i64 n, .slice A on.length c] 24)).alloc (.cells M 5) := ⟨_, rfl⟩
  have hb0 : Below w.heap.size w W0 := by rw [hW0]; exact ((Below.refl _ w).alloc (Nat.le_refl _) _).alloc (by simp) _
  have r0 : RowAt W0 w.heap.size 24 [.int .i64 n, .slice A on.length c] := by rw [hW0]; exact (RowAt.new w 24 #[.int .i64 n, .slice A on.length c]).alloc _
  have r1 : RowAt W0 (w.heap.size + 1) 5 (byteVals (List.replicate k 0)) := by
    have := RowAt.new (w.alloc (.cells #[.int .i64 n, .slice A on.length c] 24)) 5 M
    rw [World.size_alloc, hM] at this
    rw [hW0]; exact this
  have hs0 : w.heap.size + 2 ≤ W0.heap.size := by rw [hW0]; simp
  go_enter Try.func28, Try.ntmps28
  go_wp2_with fail
  rw [← hW0]
  clear hW0 hmk hM
  go_loopw [8] (fun iv wr => ∃ i : Nat, i ≤ 8 * k ∧ iv = .int .i64 i ∧ RowAt wr (w.heap.size + 1) 5 (byteVals (marksTo (wants on more) k i)) ∧ RowAt wr w.heap.size 24 [.int .i64 n, .slice A on.length c] ∧ Below w.heap.size w wr) (fun iv _ => 8 * k - (intOf iv).toNat)
  case atStart => exact ⟨0, Nat.zero_le _, rfl, r1, r0, hb0⟩
  case round =>
    clear r0 r1 hb0
    obtain ⟨i, hi, rfl, r1, r0, hB⟩ := hrel
    obtain ⟨c00, c01⟩ := r0.two
    by_cases hlt : i < 8 * k
    · have hx1 : Bt wr (.agg #[.int .i64 n, .slice A on.length c]) n on := hx.on hB
      have HON := ron_any _ n on (i : Int) wr hx1 h9
      have hlen := marksTo_length (wants on more) k i
      have hadd := marks_add (wants on more) k i hlt
      have HSt : Hid (marksTo (wants on more) k (i + 1) = if wants on more i then putBit (marksTo (wants on more) k i) i else marksTo (wants on more) k i) := rfl
      have HW : Hid (wants on more i = (decide ((i : Int) = more) || decide ((i : Int) ∈ on))) := rfl
      generalize hm : marksTo (wants on more) k i = m at *
      clear hm
      by_cases c1 : (i : Int) = more
      · have d1 : ((i : Int) == more) = true := by simpa using c1
        have hw1 : wants on more i = true := by rw [HW.out]; simp [c1]
        rw [hw1] at HSt
        have HS2 : Hid (marksTo (wants on more) k (i + 1) = putBit m i) := HSt
        clear hw1 c1
        have hc1 : wr.cell? ⟨w.heap.size + 1, i / 8, none⟩ = some (.int .u8 ((m.getD (i / 8) 0).toNat : Int)) := by rw [r1.cell, mark_cell m i (by omega)]
        have hf1 := r1.frozen (i / 8)
        have R := r1.set (i / 8) (.int .u8 ((UInt8.ofNat ((m.getD (i / 8) 0).toNat ||| 2 ^ (i % 8))).toNat : Int))
        rw [mark_row] at R
        have HO := Lib.hid (byte_add (m.getD (i / 8) 0) (i % 8) (by omega) hadd)
        have HR := Lib.hid R
        have r0' := r0.far (p := ⟨w.heap.size + 1, i / 8, none⟩) (by simp) (.int .u8 ((UInt8.ofNat ((m.getD (i / 8) 0).toNat ||| 2 ^ (i % 8))).toNat : Int))
        have hb2 := hB.setCell (p := ⟨w.heap.size + 1, i / 8, none⟩) (by simp) (.int .u8 ((UInt8.ofNat ((m.getD (i / 8) 0).toNat ||| 2 ^ (i % 8))).toNat : Int))
        have HB := Lib.hid hb2
        have HR0 := Lib.hid r0'
        clear R hb2 r1 r0' hadd
        generalize hq : (UInt8.ofNat ((m.getD (i / 8) 0).toNat ||| 2 ^ (i % 8))) = q at *
        generalize hz : m.getD (i / 8) 0 = z at *
        clear hq hz
        go_wp2_with fail
        go_region
        go_wp2_with fail
        go_roundw
        case rel => exact ⟨i + 1, by omega, by go_num, by rw [HS2.out, HO.out]; exact HR.out, by rw [HO.out]; exact HR0.out, by rw [HO.out]; exact HB.out.drew⟩
        case measure => simp [intOf]; omega
      · have d1 : ((i : Int) == more) = false := by simpa using c1
        have hw1 : wants on more i = decide ((i : Int) ∈ on) := by rw [HW.out]; simp [c1]
        rw [hw1] at HSt
        clear hw1 c1
        generalize decide ((i : Int) ∈ on) = t at *
        cases t
        · have HS2 : Hid (marksTo (wants on more) k (i + 1) = m) := HSt
          go_wp2_with fail
          with_reducible refine HON.mono ?_
          rintro e w2 ⟨rfl, hb2⟩
          go_wp2_with fail
          go_roundw
          case rel => exact ⟨i + 1, by omega, by go_num, by rw [HS2.out]; exact r1.on hb2, r0.on hb2, hB.trans (hb2.mono hB.size)⟩
          case measure => simp [intOf]; omega
        · have HS2 : Hid (marksTo (wants on more) k (i + 1) = putBit m i) := HSt
          go_wp2_with fail
          with_reducible refine HON.mono ?_
          rintro e w2 ⟨rfl, hb2⟩
          replace r1 := r1.on hb2
          replace r0 := r0.on hb2
          replace hB := hB.trans (hb2.mono hB.size)
          have hc1 : w2.cell? ⟨w.heap.size + 1, i / 8, none⟩ = some (.int .u8 ((m.getD (i / 8) 0).toNat : Int)) := by rw [r1.cell, mark_cell m i (by omega)]
          have hf1 := r1.frozen (i / 8)
          have R := r1.set (i / 8) (.int .u8 ((UInt8.ofNat ((m.getD (i / 8) 0).toNat ||| 2 ^ (i % 8))).toNat : Int))
          rw [mark_row] at R
          have HO := Lib.hid (byte_add (m.getD (i / 8) 0) (i % 8) (by omega) hadd)
          have HR := Lib.hid R
          have r0' := r0.far (p := ⟨w.heap.size + 1, i / 8, none⟩) (by simp) (.int .u8 ((UInt8.ofNat ((m.getD (i / 8) 0).toNat ||| 2 ^ (i % 8))).toNat : Int))
          have hbb := hB.setCell (p := ⟨w.heap.size + 1, i / 8, none⟩) (by simp) (.int .u8 ((UInt8.ofNat ((m.getD (i / 8) 0).toNat ||| 2 ^ (i % 8))).toNat : Int))
          have HB := Lib.hid hbb
          have HR0 := Lib.hid r0'
          clear R hbb r1 r0' hadd hb2
          generalize hq : (UInt8.ofNat ((m.getD (i / 8) 0).toNat ||| 2 ^ (i % 8))) = q at *
          generalize hz : m.getD (i / 8) 0 = z at *
          clear hq hz
          go_wp2_with fail
          go_region
          go_wp2_with fail
          go_roundw
          case rel => exact ⟨i + 1, by omega, by go_num, by rw [HS2.out, HO.out]; exact HR.out, by rw [HO.out]; exact HR0.out, by rw [HO.out]; exact HB.out.drew⟩
          case measure => simp [intOf]; omega
    · obtain rfl : i = 8 * k := by omega
      have hcv := back_bytes k (w.heap.size + 1) k _ wr (marksTo_length _ _ _) r1
      clear r1
      go_wp2_with fail
      go_ret
      exact ⟨rfl, hB⟩
theorem marks_list {n : Int} {on : List Int} (h : rightB n on = true) : marksTo (wants on n) (n.toNat / 8 + 1) (8 * (n.toNat / 8 + 1)) = listOf n on := by
  obtain ⟨⟨h1, h2⟩, h3, h4⟩ := (rightB_iff _ _).1 h
  refine bytes_ext_bits (by rw [marksTo_length, listOf_length]) fun j => ?_
  rw [bitAt_marksTo _ _ _ _ (Nat.le_refl _), bitAt_listOf h]
  unfold wants
  by_cases hj : j < 8 * (n.toNat / 8 + 1)
  · have e : (n.toNat = j) = ((j : Int) = n) := by apply propext; omega
    simp only [hj, decide_true, Bool.true_and, e, Bool.or_comm]
  · have e1 : ¬ (j : Int) ∈ on := fun h => by have := (h4 _ h).2; omega
    have e2 : ¬ n.toNat = j := by omega
    simp [hj, e1, e2]
theorem marks_vec {n : Int} {on : List Int} (h : rightB n on = true) : marksTo (wants on (-1)) ((n.toNat + 7) / 8) (8 * ((n.toNat + 7) / 8)) = vecOf n on := by
  obtain ⟨⟨h1, h2⟩, h3, h4⟩ := (rightB_iff _ _).1 h
  refine bytes_ext_bits (by rw [marksTo_length, vecOf_length]) fun j => ?_
  rw [bitAt_marksTo _ _ _ _ (Nat.le_refl _), bitAt_vecOf h]
  unfold wants
  have e0 : ¬ (j : Int) = -1 := by omega
  by_cases hj : j < 8 * ((n.toNat + 7) / 8)
  · simp only [hj, decide_true, Bool.true_and, e0, decide_false, Bool.false_or]
  · have e1 : ¬ (j : Int) ∈ on := fun h => by have := (h4 _ h).2; omega
    simp [hj, e1]
end Go.Proofs.Ytpojpikndlcbkaa
