/- Root of data; data that are unlike in one byte have unlike roots.
   The document's answers of layer 6: Data, Root, Record, at, Unrecord.
   The document's answers of layer 6: Vote, Aggregate; the program's beside them.
   The document's answers of layer 6: Unvote; its parts hand out new memory.
   The document's answers of layer 6: what Unvote refuses; Unaggregate; both beside the program's.
   The document's answers of layer 6: Unaggregate; Unvote and Unaggregate, the program's and the document's.
   turned of layer 6, with its answer fixed ahead of the world. -/
import Derived.Test.YtieheieiolobaaaGreatDoorWirY
import Derived.Test.YtieheieiolobaaaGreatDoorChuX
import Derived.Test.YtieheieiolobaaaGreatDoorLagL
import Derived.Test.YtieheieiolobaaaGreatDoorRefX
import Derived.Test.YtieheieiolobaaaGreatDoorRBitX
import Derived.Test.YtieheieiolobaaaGreatDoorTokF
import Derived.Deep.RegionHeld3
namespace Go.Proofs.YtieheieiolobaaaGreatDoor
open Go.RowKit

def rootH (ws : List Nat) : Nat := moreH 14695981039346656037 (wordsB ws)
theorem rootH_lt (ws : List Nat) : rootH ws < 18446744073709551616 := moreH_lt (by decide) _
set_option maxHeartbeats 1000000 in
theorem Root_any (d0 d1 d2 d3 d4 : Nat) (w : World) (hT : Tab w) :
    Calls Tryz.prog 21 #[.agg #[.int .u64 (d0 : Int), .int .u64 (d1 : Int), .int .u64 (d2 : Int), .int .u64 (d3 : Int), .int .u64 (d4 : Int)]] w fun e w' => e = .returned (.int .u64 (rootH [d0, d1, d2, d3, d4] : Int)) ∧ Below w.heap.size w w' := by
  have c1 := fun W (hW : Tab W) => Sum_any ⟨(wordsB [d0, d1, d2, d3, d4]).toArray⟩ W (by rw [← list_len]; simp [wordsB_length]) hW
  have b0 : Below w.heap.size w (w.alloc (.cells #[.int .u64 (d0 : Int), .int .u64 (d1 : Int), .int .u64 (d2 : Int), .int .u64 (d3 : Int), .int .u64 (d4 : Int)] 24)) := (Below.refl _ _).alloc (Nat.le_refl _) _
  go_enter Tryz.func21, Tryz.ntmps21
  go_wp2_with fail
  with_reducible refine (bytesOfData_any d0 d1 d2 d3 d4 _).mono ?_
  rintro e w1 ⟨rfl, b1⟩
  have bw := b0.trans (b1.mono b0.size)
  have hT1 := hT.on bw
  go_wp2_with fail
  refine (c1 _ hT1).mono ?_
  rintro e w2 ⟨rfl, b2⟩
  go_wp2_with fail
  go_ret
  exact ⟨by simp [rootH], bw.trans (b2.mono bw.size)⟩
theorem words_set : ∀ (ds : List Nat) (i j c : Nat), i < ds.length → j < 8 → c < 256 → ∃ (k : Nat) (y : UInt8), wordsB (ds.set i (ds.getD i 0 ^^^ (c * 256 ^ j))) = (wordsB ds).set k y
  | [], i, _, _, h, _, _ => absurd h (by simp)
  | a :: ds, 0, j, c, _, hj, hc => ⟨j, _, by
      show wordsB ((a ^^^ (c * 256 ^ j)) :: ds) = _
      rw [wordsB_cons, wordsB_cons, leBytes_xor a c j hc hj, List.set_append_left _ _ (by rw [leBytes_length]; exact hj)]⟩
  | a :: ds, i + 1, j, c, h, hj, hc => by
      obtain ⟨k, y, e⟩ := words_set ds i j c (by simpa using h) hj hc
      refine ⟨8 + k, y, ?_⟩
      show wordsB (a :: ds.set i (ds.getD i 0 ^^^ (c * 256 ^ j))) = _
      rw [wordsB_cons, wordsB_cons, e, List.set_append_right _ _ (by rw [leBytes_length]; omega), leBytes_length]
      congr 2
      omega
theorem xor_zero_iff (a c j : Nat) (ha : a < 18446744073709551616) (hc : c < 256) (hj : j < 8) : a = a ^^^ (c * 256 ^ j) ↔ c = 0 := by
  constructor
  · intro h
    have h2 : a ^^^ a = a ^^^ (a ^^^ (c * 256 ^ j)) := by rw [← h]
    rw [Nat.xor_self, ← Nat.xor_assoc, Nat.xor_self, Nat.zero_xor] at h2
    have hp : 0 < 256 ^ j := Nat.pow_pos (by decide)
    rcases Nat.eq_zero_or_pos c with h0 | h0
    · exact h0
    · have := Nat.mul_pos h0 hp
      omega
  · rintro rfl; simp
theorem words_inj' : ∀ (ds es : List Nat), ds.length = es.length → (∀ x ∈ ds, x < 18446744073709551616) → (∀ x ∈ es, x < 18446744073709551616) → wordsB ds = wordsB es → ds = es
  | [], [], _, _, _, _ => rfl
  | [], _ :: _, h, _, _, _ => by cases h
  | _ :: _, [], h, _, _, _ => by cases h
  | a :: ds, b :: es, h, hd, he, hw => by
    rw [wordsB_cons, wordsB_cons] at hw
    obtain ⟨h1, h2⟩ := List.append_inj hw (by rw [leBytes_length, leBytes_length])
    have e1 : a = b := by
      have q1 := num_bytes (hd a (by simp))
      have q2 := num_bytes (he b (by simp))
      rw [← q1, ← q2, h1]
    rw [e1, words_inj' ds es (by simpa using h) (fun x hx => hd x (List.mem_cons_of_mem _ hx)) (fun x hx => he x (List.mem_cons_of_mem _ hx)) h2]
theorem root_one (ds : List Nat) (i j c : Nat) (hi : i < ds.length) (hj : j < 8) (hc : c < 256) (hd : ∀ x ∈ ds, x < 18446744073709551616) : rootH ds = rootH (ds.set i (ds.getD i 0 ^^^ (c * 256 ^ j))) ↔ c = 0 := by
  obtain ⟨k, y, e⟩ := words_set ds i j c hi hj hc
  unfold rootH
  rw [e, more_set (by decide), ← e]
  have ha : ds.getD i 0 < 18446744073709551616 := by
    have h1 : ds.getD i 0 = ds[i] := by simp [List.getD, hi]
    rw [h1]; exact hd _ (List.getElem_mem hi)
  rw [← xor_zero_iff (ds.getD i 0) c j ha hc hj]
  constructor
  · intro h
    have hx : ds.getD i 0 ^^^ (c * 256 ^ j) < 18446744073709551616 := by
      apply xor_lt64 ha
      have h1 : 256 ^ j ≤ 256 ^ 7 := Nat.pow_le_pow_right (by omega) (by omega)
      have h3 : (256 : Nat) ^ 7 = 72057594037927936 := by decide
      have h4 : c * 256 ^ j ≤ 255 * 256 ^ 7 := Nat.mul_le_mul (by omega) h1
      omega
    have h2 := words_inj' ds _ (by simp) hd (fun x hm => by
      rcases List.mem_or_eq_of_mem_set hm with h | rfl
      · exact hd _ h
      · exact hx) h
    have h3 : ds.getD i 0 = (ds.set i (ds.getD i 0 ^^^ (c * 256 ^ j))).getD i 0 := by rw [← h2]
    exact h3.trans (by simp [List.getD, hi])
  · intro h
    have h1 : ds.getD i 0 = ds[i] := by simp [List.getD, hi]
    rw [show ds.getD i 0 ^^^ (c * 256 ^ j) = ds[i] from h.symm.trans h1, List.set_getElem_self]
end Go.Proofs.YtieheieiolobaaaGreatDoor

namespace Go.Proofs.YtieheieiolobaaaGreatDoor
open Go.RowKit Go.Shelf

theorem five_later {W : World} {G : Nat} {t : TypeId} {c0 c1 c2 c3 c4 : Value} (h : RowAt W G t [c0, c1, c2, c3, c4]) :
    (∀ p : Later W, p.W.cell? ⟨G, 0, none⟩ = some c0) ∧ (∀ p : Later W, p.W.cell? ⟨G, 1, none⟩ = some c1) ∧ (∀ p : Later W, p.W.cell? ⟨G, 2, none⟩ = some c2) ∧ (∀ p : Later W, p.W.cell? ⟨G, 3, none⟩ = some c3) ∧ (∀ p : Later W, p.W.cell? ⟨G, 4, none⟩ = some c4) :=
  ⟨fun p => by rw [(h.below p.h h.lt).cell]; rfl, fun p => by rw [(h.below p.h h.lt).cell]; rfl, fun p => by rw [(h.below p.h h.lt).cell]; rfl, fun p => by rw [(h.below p.h h.lt).cell]; rfl, fun p => by rw [(h.below p.h h.lt).cell]; rfl⟩
theorem put_named (d : Nat) : ∃ P : ByteArray, P.data.toList = leBytes d 8 ∧ P.size = 8 ∧ ∀ W, Calls Tryz.prog 36 #[.int .u64 (d : Int), .int .i64 8] W fun e w' => e = .returned (.string P) ∧ Below W.heap.size W w' :=
  ⟨⟨(leBytes d 8).toArray⟩, by simp, by rw [size_le, leBytes_length], fun W => rPut8 d W⟩
set_option maxHeartbeats 2000000 in
set_option maxRecDepth 100000 in
theorem rData_any (d0 d1 d2 d3 d4 : Nat) (D : ByteArray) (hD : D.data.toList = wordsB [d0, d1, d2, d3, d4]) (w : World) :
    Calls Tryz.prog 33 #[.agg #[.int .u64 (d0 : Int), .int .u64 (d1 : Int), .int .u64 (d2 : Int), .int .u64 (d3 : Int), .int .u64 (d4 : Int)]] w fun e w' => e = .returned (.string D) ∧ Below w.heap.size w w' := by
  obtain ⟨P0, e0, s0, c0⟩ := put_named d0
  obtain ⟨P1, e1, s1, c1⟩ := put_named d1
  obtain ⟨P2, e2, s2, c2⟩ := put_named d2
  obtain ⟨P3, e3, s3, c3⟩ := put_named d3
  obtain ⟨P4, e4, s4, c4⟩ := put_named d4
  have hsum : P0 ++ P1 ++ P2 ++ P3 ++ P4 = D := list_ext (by
    rw [hD]
    simp [ByteArray.data_append, e0, e1, e2, e3, e4, wordsB_cons, wordsB_nil])
  clear e0 e1 e2 e3 e4 hD
  have HS := Lib.hid hsum
  clear hsum
  have RD : RowAt (w.alloc (.cells #[.int .u64 (d0 : Int), .int .u64 (d1 : Int), .int .u64 (d2 : Int), .int .u64 (d3 : Int), .int .u64 (d4 : Int)] 24)) w.heap.size 24 [.int .u64 (d0 : Int), .int .u64 (d1 : Int), .int .u64 (d2 : Int), .int .u64 (d3 : Int), .int .u64 (d4 : Int)] := RowAt.new w 24 #[.int .u64 (d0 : Int), .int .u64 (d1 : Int), .int .u64 (d2 : Int), .int .u64 (d3 : Int), .int .u64 (d4 : Int)]
  have b0 : Below w.heap.size w (w.alloc (.cells #[.int .u64 (d0 : Int), .int .u64 (d1 : Int), .int .u64 (d2 : Int), .int .u64 (d3 : Int), .int .u64 (d4 : Int)] 24)) := (Below.refl _ _).alloc (Nat.le_refl _) _
  go_enter Tryz.func33, Tryz.ntmps33
  go_upto_region 1 with (fail)
  generalize (w.alloc (.cells #[.int .u64 (d0 : Int), .int .u64 (d1 : Int), .int .u64 (d2 : Int), .int .u64 (d3 : Int), .int .u64 (d4 : Int)] 24)) = w1 at *
  obtain ⟨l0, l1, l2, l3, l4⟩ := five_later RD
  refine wp_region_later (by kernel_rfl) (by kernel_rfl) ?_
  repeat (go_big_quiet_step (first | with_reducible exact later_of (c0 _) | with_reducible exact later_of (c1 _) | with_reducible exact later_of (c2 _) | with_reducible exact later_of (c3 _) | with_reducible exact later_of (c4 _)))
  refine wpQuiet_nil ?_
  intro _ hw'
  obtain ⟨pq, rfl⟩ := hw'
  go_wp2
  go_ret
  rw [← HS.out]
  exact ⟨rfl, b0.trans (pq.h.mono b0.size)⟩
set_option maxHeartbeats 2000000 in
set_option maxRecDepth 100000 in
theorem rRecord_any (d0 d1 d2 : Nat) (D : ByteArray) (hD : D.data.toList = wordsB [d0, d1, d2]) (w : World) :
    Calls Tryz.prog 24 #[.agg #[.int .u64 (d0 : Int), .int .u64 (d1 : Int), .int .u64 (d2 : Int)]] w fun e w' => e = .returned (.string D) ∧ Below w.heap.size w w' := by
  obtain ⟨P0, e0, s0, c0⟩ := put_named d0
  obtain ⟨P1, e1, s1, c1⟩ := put_named d1
  obtain ⟨P2, e2, s2, c2⟩ := put_named d2
  have hsum : P0 ++ P1 ++ P2 = D := list_ext (by
    rw [hD]
    simp [ByteArray.data_append, e0, e1, e2, wordsB_cons, wordsB_nil])
  clear e0 e1 e2 hD
  have HS := Lib.hid hsum
  clear hsum
  have RD : RowAt (w.alloc (.cells #[.int .u64 (d0 : Int), .int .u64 (d1 : Int), .int .u64 (d2 : Int)] 37)) w.heap.size 37 [.int .u64 (d0 : Int), .int .u64 (d1 : Int), .int .u64 (d2 : Int)] := RowAt.new w 37 #[.int .u64 (d0 : Int), .int .u64 (d1 : Int), .int .u64 (d2 : Int)]
  have b0 : Below w.heap.size w (w.alloc (.cells #[.int .u64 (d0 : Int), .int .u64 (d1 : Int), .int .u64 (d2 : Int)] 37)) := (Below.refl _ _).alloc (Nat.le_refl _) _
  go_enter Tryz.func24, Tryz.ntmps24
  go_upto_region 1 with (fail)
  generalize (w.alloc (.cells #[.int .u64 (d0 : Int), .int .u64 (d1 : Int), .int .u64 (d2 : Int)] 37)) = w1 at *
  have l0 : ∀ p : Later w1, p.W.cell? ⟨w.heap.size, 0, none⟩ = some (.int .u64 (d0 : Int)) := fun p => by rw [(RD.below p.h RD.lt).cell]; rfl
  have l1 : ∀ p : Later w1, p.W.cell? ⟨w.heap.size, 1, none⟩ = some (.int .u64 (d1 : Int)) := fun p => by rw [(RD.below p.h RD.lt).cell]; rfl
  have l2 : ∀ p : Later w1, p.W.cell? ⟨w.heap.size, 2, none⟩ = some (.int .u64 (d2 : Int)) := fun p => by rw [(RD.below p.h RD.lt).cell]; rfl
  refine wp_region_later (by kernel_rfl) (by kernel_rfl) ?_
  repeat (go_big_quiet_step (first | with_reducible exact later_of (c0 _) | with_reducible exact later_of (c1 _) | with_reducible exact later_of (c2 _)))
  refine wpQuiet_nil ?_
  intro _ hw'
  obtain ⟨pq, rfl⟩ := hw'
  go_wp2
  go_ret
  rw [← HS.out]
  exact ⟨rfl, b0.trans (pq.h.mono b0.size)⟩
set_option maxHeartbeats 1000000 in
theorem rRoot_any (d0 d1 d2 d3 d4 : Nat) (w : World) :
    Calls Tryz.prog 22 #[.agg #[.int .u64 (d0 : Int), .int .u64 (d1 : Int), .int .u64 (d2 : Int), .int .u64 (d3 : Int), .int .u64 (d4 : Int)]] w fun e w' => e = .returned (.int .u64 (rootH [d0, d1, d2, d3, d4] : Int)) ∧ Below w.heap.size w w' := by
  obtain ⟨D, hD⟩ := ba_of (wordsB [d0, d1, d2, d3, d4])
  have cD := fun W => rData_any d0 d1 d2 d3 d4 D hD W
  have cS := fun W => rSum_any D W (by rw [← list_len, hD, wordsB_length]; simp)
  rw [hD] at cS
  clear hD
  have b0 : Below w.heap.size w (w.alloc (.cells #[.int .u64 (d0 : Int), .int .u64 (d1 : Int), .int .u64 (d2 : Int), .int .u64 (d3 : Int), .int .u64 (d4 : Int)] 24)) := (Below.refl _ _).alloc (Nat.le_refl _) _
  go_enter Tryz.func22, Tryz.ntmps22
  go_wp2_with fail
  with_reducible refine (cD _).mono ?_
  rintro e w1 ⟨rfl, b1⟩
  go_wp2_with fail
  with_reducible refine (cS _).mono ?_
  rintro e w2 ⟨rfl, rfl⟩
  go_wp2_with fail
  go_ret
  exact ⟨rfl, b0.trans (b1.mono b0.size)⟩
set_option maxHeartbeats 1000000 in
theorem rAt_any (s : ByteArray) (i : Nat) (w : World) (hi : i + 8 ≤ s.size) (hs : s.size ≤ 1000000) :
    Calls Tryz.prog 42 #[.string s, .int .i64 (i : Int)] w fun e w' => e = .returned (.int .u64 (num8 (s.extract i s.size) : Int)) ∧ Below w.heap.size w w' := by
  have hz : (s.extract i s.size).size = s.size - i := by rw [ByteArray.size_extract]; omega
  obtain ⟨T, hT⟩ : ∃ T, s.extract i s.size = T := ⟨_, rfl⟩
  rw [hT] at hz ⊢
  have cT := fun W => rTake8 T W (by omega) (by omega)
  have i1 : (i : Int) ≤ (s.size : Int) := by omega
  clear hz
  go_enter Tryz.func42, Tryz.ntmps42
  go_wp2_with fail
  with_reducible refine (cT _).mono ?_
  rintro e w1 ⟨rfl, b1⟩
  go_wp2_with fail
  go_ret
  exact ⟨rfl, b1⟩
/-- The words of a text, each by its place. -/
theorem at_word (s : ByteArray) : ∀ (j : Nat) (ws : List Nat) (k : Nat), s.data.toList.drop k = wordsB ws → j < ws.length → (∀ x ∈ ws, x < 18446744073709551616) → num8 (s.extract (k + 8 * j) s.size) = ws.getD j 0
  | 0, a :: ws, k, h, _, hb => by
      have e : (s.extract (k + 8 * 0) s.size).data.toList = leBytes a 8 ++ wordsB ws := by rw [tExt_list, Nat.mul_zero, Nat.add_zero, h, wordsB_cons]
      exact (num8_words e (hb a (by simp))).1
  | j + 1, a :: ws, k, h, hj, hb => by
      have e : s.data.toList.drop (k + 8) = wordsB ws := by
        rw [← List.drop_drop, h, wordsB_cons, List.drop_left' (leBytes_length 8 a)]
      have := at_word s j ws (k + 8) e (by simpa using hj) (fun x hx => hb x (List.mem_cons_of_mem _ hx))
      rw [show k + 8 * (j + 1) = k + 8 + 8 * j by omega, this]
      rfl
  | _, [], _, _, hj, _ => by simp at hj
/-- Unrecord, the program's and the document's. -/
theorem unrec_both (s : ByteArray) (hs : s.size ≤ 1000000) : ∃ a b c : Nat, ∃ E : Int, (∀ W, Calls Tryz.prog 17 #[.string s] W fun e w' => e = .returned (.tuple #[.agg #[.int .u64 (a : Int), .int .u64 (b : Int), .int .u64 (c : Int)], .int .i64 E]) ∧ Below W.heap.size W w') ∧
    (∀ W, Calls Tryz.prog 18 #[.string s] W fun e w' => e = .returned (.tuple #[.agg #[.int .u64 (a : Int), .int .u64 (b : Int), .int .u64 (c : Int)], .int .i64 E]) ∧ Below W.heap.size W w') := by
  by_cases h : s.size = 24
  · have hw := words3 h
    have q0 := num8_lt s
    have q1 := num8_lt (left8 s)
    have q2 := num8_lt (left8 (left8 s))
    generalize num8 s = a at *
    generalize num8 (left8 s) = b at *
    generalize num8 (left8 (left8 s)) = c at *
    have hb : ∀ x ∈ [a, b, c], x < 18446744073709551616 := by
      intro x hx
      simp only [List.mem_cons, List.not_mem_nil, or_false] at hx
      omega
    refine ⟨a, b, c, 0, fun W => Unrecord_ok s a b c W hw q0 q1 q2, fun W => ?_⟩
    have c0 : ∀ W, Calls Tryz.prog 42 #[.string s, .int .i64 0] W fun e w' => e = .returned (.int .u64 (a : Int)) ∧ Below W.heap.size W w' := fun W => by
      have := rAt_any s 0 W (by omega) hs
      rwa [show num8 (s.extract 0 s.size) = a from at_word s 0 [a, b, c] 0 hw (by simp) hb] at this
    have c1 : ∀ W, Calls Tryz.prog 42 #[.string s, .int .i64 8] W fun e w' => e = .returned (.int .u64 (b : Int)) ∧ Below W.heap.size W w' := fun W => by
      have := rAt_any s 8 W (by omega) hs
      rwa [show num8 (s.extract 8 s.size) = b from at_word s 1 [a, b, c] 0 hw (by simp) hb] at this
    have c2 : ∀ W, Calls Tryz.prog 42 #[.string s, .int .i64 16] W fun e w' => e = .returned (.int .u64 (c : Int)) ∧ Below W.heap.size W w' := fun W => by
      have := rAt_any s 16 W (by omega) hs
      rwa [show num8 (s.extract 16 s.size) = c from at_word s 2 [a, b, c] 0 hw (by simp) hb] at this
    have hz : ((s.size : Int) != 24) = false := by rw [bne_eq_false_iff_eq]; omega
    clear hw h hb
    go_enter Tryz.func18, Tryz.ntmps18
    have RV : RowAt (W.alloc (.cells #[.int .u64 0, .int .u64 0, .int .u64 0] 37)) W.heap.size 37 [.int .u64 0, .int .u64 0, .int .u64 0] := RowAt.new W 37 #[.int .u64 0, .int .u64 0, .int .u64 0]
    have b0 : Below W.heap.size W (W.alloc (.cells #[.int .u64 0, .int .u64 0, .int .u64 0] 37)) := (Below.refl _ _).alloc (Nat.le_refl _) _
    go_wp2_with fail
    with_reducible refine (c0 _).mono ?_
    rintro e w1 ⟨rfl, b1⟩
    replace RV := RV.on b1
    replace b0 := b0.trans (b1.mono b0.size)
    clear b1
    go_wp2_with fail
    with_reducible refine (c1 _).mono ?_
    rintro e w2 ⟨rfl, b1⟩
    replace RV := RV.on b1
    replace b0 := b0.trans (b1.mono b0.size)
    clear b1
    go_wp2_with fail
    with_reducible refine (c2 _).mono ?_
    rintro e w3 ⟨rfl, b1⟩
    replace RV := RV.on b1
    replace b0 := b0.trans (b1.mono b0.size)
    clear b1 c0 c1 c2
    have v0 := RV.cell 0
    have v1 := RV.cell 1
    have v2 := RV.cell 2
    have z0 := RV.frozen 0
    have z1 := RV.frozen 1
    have z2 := RV.frozen 2
    simp only [List.getElem?_cons_succ, List.getElem?_cons_zero] at v0 v1 v2
    have RF := ((RV.set 0 (.int .u64 (a : Int))).set 1 (.int .u64 (b : Int))).set 2 (.int .u64 (c : Int))
    have bF := ((b0.setCell (p := ⟨W.heap.size, 0, none⟩) (Nat.le_refl _) (.int .u64 (a : Int))).setCell (p := ⟨W.heap.size, 1, none⟩) (Nat.le_refl _) (.int .u64 (b : Int))).setCell (p := ⟨W.heap.size, 2, none⟩) (Nat.le_refl _) (.int .u64 (c : Int))
    simp only [List.set_cons_zero, List.set_cons_succ] at RF
    go_wp2_with fail
    generalize (((w3.setCell ⟨W.heap.size, 0, none⟩ (.int .u64 (a : Int))).setCell ⟨W.heap.size, 1, none⟩ (.int .u64 (b : Int))).setCell ⟨W.heap.size, 2, none⟩ (.int .u64 (c : Int))) = wf at *
    have e0 := RF.cell 0
    have e1 := RF.cell 1
    have e2 := RF.cell 2
    simp only [List.getElem?_cons_succ, List.getElem?_cons_zero] at e0 e1 e2
    exact bodyPost_ret (v := .tuple #[.agg #[.int .u64 (a : Int), .int .u64 (b : Int), .int .u64 (c : Int)], .int .i64 0]) (by simp [results, Tryz.results18, go_sem, e0, e1, e2]) rfl ⟨rfl, bF⟩
  · have hz : ((s.size : Int) != 24) = true := by rw [bne_iff_ne]; omega
    refine ⟨0, 0, 0, 2, fun W => Unrecord_bad s W h, fun W => ?_⟩
    clear h
    go_enter Tryz.func18, Tryz.ntmps18
    go_wp2
    exact bodyPost_ret (v := .tuple #[.agg #[.int .u64 0, .int .u64 0, .int .u64 0], .int .i64 2]) (by simp [results, Tryz.results18, go_sem]) rfl ⟨rfl, (Below.refl _ _).alloc (Nat.le_refl _) _⟩
end Go.Proofs.YtieheieiolobaaaGreatDoor

namespace Go.Proofs.YtieheieiolobaaaGreatDoor
open Go.RowKit Go.Shelf

theorem list_named (n : Int) (on : List Int) (h9 : on.length ≤ 1000000) : ∃ L : ByteArray, ∃ E : Int, L.data.toList = lstOf n on ∧ argErr (rightB n on) = E ∧ ∀ A c W, Bt W (.agg #[.int .i64 n, .slice A on.length c]) n on → Calls Tryz.prog 30 #[.agg #[.int .i64 n, .slice A on.length c]] W fun e w' => e = .returned (.tuple #[.string L, .int .i64 E]) ∧ Below W.heap.size W w' :=
  ⟨⟨(lstOf n on).toArray⟩, _, by simp, rfl, fun A c W h => rList_any _ n on W h (Nat.le_trans h9 (by decide))⟩
theorem code_named (f : Bool) (l : List Pr) (h9 : l.length ≤ 1000000) : ∃ L : ByteArray, ∃ E : Int, L.data.toList = (encT f l).1 ∧ (encT f l).2 = E ∧ ∀ A c W, Tk W (.agg #[.bool f, .slice A l.length c]) f l → Calls Tryz.prog 31 #[.agg #[.bool f, .slice A l.length c]] W fun e w' => e = .returned (.tuple #[.string L, .int .i64 E]) ∧ Below W.heap.size W w' :=
  ⟨⟨(encT f l).1.toArray⟩, _, by simp, rfl, fun A c W h => rEncode_any _ f l W h (Nat.le_trans h9 (by decide))⟩
/-- Join of two texts that fit. -/
theorem join_two (F a b S : ByteArray) (hS : joinOf F.data.toList [a.data.toList, b.data.toList] = (S.data.toList, 0)) (hF : F.size ≤ 1000000) (W : World) (g : Nat) (hr : RowAt W g 9 [.string a, .string b]) :
    Calls Tryz.prog 32 #[.string F, .slice (some ⟨g, 0, none⟩) 2 2] W fun e w' => e = .returned (.tuple #[.string S, .int .i64 0]) ∧ Below W.heap.size W w' := by
  have h := refJoin_any F [a, b] (.slice (some ⟨g, 0, none⟩) 2 2) W (Strs.row (ss := [a, b]) hr) (by simp) (by omega)
  simp only [txts, List.map_cons, List.map_nil] at h
  rw [hS] at h
  simpa using h
set_option maxHeartbeats 4000000 in
set_option maxRecDepth 100000 in
theorem rVote_ok (d0 d1 d2 d3 d4 : Nat) (n : Int) (on : List Int) (f : Bool) (l : List Pr) (A B : Option Addr) (c k : Nat) (S : ByteArray) (w : World) (hS : S.data.toList = voteB [d0, d1, d2, d3, d4] n on f l) (hr : rightB n on = true) (hrt : rightT l = true)
    (hx : Bt w (.agg #[.int .i64 n, .slice A on.length c]) n on) (ht : Tk w (.agg #[.bool f, .slice B l.length k]) f l) (h9 : on.length ≤ 1000000) (h9l : l.length ≤ 1000000) :
    Calls Tryz.prog 8 #[.agg #[.int .u64 (d0 : Int), .int .u64 (d1 : Int), .int .u64 (d2 : Int), .int .u64 (d3 : Int), .int .u64 (d4 : Int), .int .i64 n, .slice A on.length c, .bool f, .slice B l.length k]] w fun e w' => e = .returned (.tuple #[.string S, .int .i64 0]) ∧ Below w.heap.size w w' := by
  obtain ⟨L, E1, eL, e1, cL⟩ := list_named n on h9
  obtain ⟨Q, E2, eQ, e2, cQ⟩ := code_named f l h9l
  obtain ⟨D, hD⟩ := ba_of (wordsB [d0, d1, d2, d3, d4])
  have cD := fun W => rData_any d0 d1 d2 d3 d4 D hD W
  have eL' : L.data.toList = listOf n on := by rw [eL]; unfold lstOf; rw [hr]; rfl
  have eQ' : Q.data.toList = encB f l := by rw [eQ]; unfold encT; rw [hrt]; rfl
  obtain rfl : E1 = 0 := by rw [← e1, hr]; rfl
  obtain rfl : E2 = 0 := by rw [← e2]; unfold encT; rw [hrt]; rfl
  have cJ := fun W g (h : RowAt W g 9 [.string L, .string Q]) => join_two D L Q S (by rw [hD, eL', eQ', hS]; exact voteB_join hr hrt rfl) (by rw [← list_len, hD, wordsB_length]; simp) W g h
  clear eL eQ eL' eQ' e1 e2 hD hS hr hrt h9 h9l
  have RV : RowAt (w.alloc (.cells #[.int .u64 (d0 : Int), .int .u64 (d1 : Int), .int .u64 (d2 : Int), .int .u64 (d3 : Int), .int .u64 (d4 : Int), .int .i64 n, .slice A on.length c, .bool f, .slice B l.length k] 32)) w.heap.size 32 [.int .u64 (d0 : Int), .int .u64 (d1 : Int), .int .u64 (d2 : Int), .int .u64 (d3 : Int), .int .u64 (d4 : Int), .int .i64 n, .slice A on.length c, .bool f, .slice B l.length k] := RowAt.new w 32 #[.int .u64 (d0 : Int), .int .u64 (d1 : Int), .int .u64 (d2 : Int), .int .u64 (d3 : Int), .int .u64 (d4 : Int), .int .i64 n, .slice A on.length c, .bool f, .slice B l.length k]
  have b0 : Below w.heap.size w (w.alloc (.cells #[.int .u64 (d0 : Int), .int .u64 (d1 : Int), .int .u64 (d2 : Int), .int .u64 (d3 : Int), .int .u64 (d4 : Int), .int .i64 n, .slice A on.length c, .bool f, .slice B l.length k] 32)) := (Below.refl _ _).alloc (Nat.le_refl _) _
  replace hx := hx.on b0
  replace ht := ht.on b0
  go_enter Tryz.func8, Tryz.ntmps8
  go_wp2_with fail
  with_reducible refine (cL _ _ _ hx).mono ?_
  rintro e w1 ⟨rfl, b1⟩
  replace RV := RV.on b1
  replace ht := ht.on b1
  replace b0 := b0.trans (b1.mono b0.size)
  clear b1 hx
  have a0 := RV.cell 0
  have a1 := RV.cell 1
  have a2 := RV.cell 2
  have a3 := RV.cell 3
  have a4 := RV.cell 4
  have a5 := RV.cell 5
  have a6 := RV.cell 6
  have a7 := RV.cell 7
  have a8 := RV.cell 8
  simp only [List.getElem?_cons_succ, List.getElem?_cons_zero] at a0 a1 a2 a3 a4 a5 a6 a7 a8
  go_wp2_with fail
  with_reducible refine (cQ _ _ _ ht).mono ?_
  rintro e w2 ⟨rfl, b1⟩
  replace RV := RV.on b1
  replace b0 := b0.trans (b1.mono b0.size)
  clear b1 ht a0 a1 a2 a3 a4 a5 a6 a7 a8
  have a0 := RV.cell 0
  have a1 := RV.cell 1
  have a2 := RV.cell 2
  have a3 := RV.cell 3
  have a4 := RV.cell 4
  have a5 := RV.cell 5
  have a6 := RV.cell 6
  have a7 := RV.cell 7
  have a8 := RV.cell 8
  simp only [List.getElem?_cons_succ, List.getElem?_cons_zero] at a0 a1 a2 a3 a4 a5 a6 a7 a8
  go_wp2_with fail
  with_reducible refine (cD _).mono ?_
  rintro e w3 ⟨rfl, b1⟩
  replace b0 := b0.trans (b1.mono b0.size)
  clear b1 a0 a1 a2 a3 a4 a5 a6 a7 a8
  go_wp2_with fail
  have RS := RowAt.new w3 9 #[.string L, .string Q]
  have b3 := b0.alloc b0.size (.cells #[.string L, .string Q] 9)
  with_reducible refine (cJ _ _ RS).mono ?_
  rintro e w4 ⟨rfl, b1⟩
  go_wp2_with fail
  go_ret2
  exact ⟨rfl, b3.trans (b1.mono b3.size)⟩
set_option maxHeartbeats 4000000 in
set_option maxRecDepth 100000 in
theorem rVote_arg (d0 d1 d2 d3 d4 : Nat) (n : Int) (on : List Int) (f : Bool) (l : List Pr) (A B : Option Addr) (c k : Nat) (w : World) (hr : (rightB n on && rightT l) = false)
    (hx : Bt w (.agg #[.int .i64 n, .slice A on.length c]) n on) (ht : Tk w (.agg #[.bool f, .slice B l.length k]) f l) (h9 : on.length ≤ 1000000) (h9l : l.length ≤ 1000000) :
    Calls Tryz.prog 8 #[.agg #[.int .u64 (d0 : Int), .int .u64 (d1 : Int), .int .u64 (d2 : Int), .int .u64 (d3 : Int), .int .u64 (d4 : Int), .int .i64 n, .slice A on.length c, .bool f, .slice B l.length k]] w fun e w' => e = .returned (.tuple #[.string ⟨#[]⟩, .int .i64 1]) ∧ Below w.heap.size w w' := by
  obtain ⟨L, E1, eL, e1, cL⟩ := list_named n on h9
  obtain ⟨Q, E2, eQ, e2, cQ⟩ := code_named f l h9l
  have RV : RowAt (w.alloc (.cells #[.int .u64 (d0 : Int), .int .u64 (d1 : Int), .int .u64 (d2 : Int), .int .u64 (d3 : Int), .int .u64 (d4 : Int), .int .i64 n, .slice A on.length c, .bool f, .slice B l.length k] 32)) w.heap.size 32 [.int .u64 (d0 : Int), .int .u64 (d1 : Int), .int .u64 (d2 : Int), .int .u64 (d3 : Int), .int .u64 (d4 : Int), .int .i64 n, .slice A on.length c, .bool f, .slice B l.length k] := RowAt.new w 32 #[.int .u64 (d0 : Int), .int .u64 (d1 : Int), .int .u64 (d2 : Int), .int .u64 (d3 : Int), .int .u64 (d4 : Int), .int .i64 n, .slice A on.length c, .bool f, .slice B l.length k]
  have b0 : Below w.heap.size w (w.alloc (.cells #[.int .u64 (d0 : Int), .int .u64 (d1 : Int), .int .u64 (d2 : Int), .int .u64 (d3 : Int), .int .u64 (d4 : Int), .int .i64 n, .slice A on.length c, .bool f, .slice B l.length k] 32)) := (Below.refl _ _).alloc (Nat.le_refl _) _
  replace hx := hx.on b0
  replace ht := ht.on b0
  cases hb : rightB n on
  · obtain rfl : E1 = 1 := by rw [← e1, hb]; rfl
    clear eL eQ e1 e2 hr hb h9 h9l
    go_enter Tryz.func8, Tryz.ntmps8
    go_wp2_with fail
    with_reducible refine (cL _ _ _ hx).mono ?_
    rintro e w1 ⟨rfl, b1⟩
    replace RV := RV.on b1
    replace ht := ht.on b1
    replace b0 := b0.trans (b1.mono b0.size)
    clear b1 hx
    have a0 := RV.cell 0
    have a1 := RV.cell 1
    have a2 := RV.cell 2
    have a3 := RV.cell 3
    have a4 := RV.cell 4
    have a5 := RV.cell 5
    have a6 := RV.cell 6
    have a7 := RV.cell 7
    have a8 := RV.cell 8
    simp only [List.getElem?_cons_succ, List.getElem?_cons_zero] at a0 a1 a2 a3 a4 a5 a6 a7 a8
    go_wp2_with fail
    with_reducible refine (cQ _ _ _ ht).mono ?_
    rintro e w2 ⟨rfl, b1⟩
    replace b0 := b0.trans (b1.mono b0.size)
    clear b1 ht a0 a1 a2 a3 a4 a5 a6 a7 a8
    go_wp2_with fail
    go_ret2
    exact ⟨rfl, b0⟩
  · rw [hb, Bool.true_and] at hr
    obtain rfl : E1 = 0 := by rw [← e1, hb]; rfl
    obtain rfl : E2 = 1 := by rw [← e2]; unfold encT; rw [hr]; rfl
    clear eL eQ e1 e2 hr hb h9 h9l
    go_enter Tryz.func8, Tryz.ntmps8
    go_wp2_with fail
    with_reducible refine (cL _ _ _ hx).mono ?_
    rintro e w1 ⟨rfl, b1⟩
    replace RV := RV.on b1
    replace ht := ht.on b1
    replace b0 := b0.trans (b1.mono b0.size)
    clear b1 hx
    have a0 := RV.cell 0
    have a1 := RV.cell 1
    have a2 := RV.cell 2
    have a3 := RV.cell 3
    have a4 := RV.cell 4
    have a5 := RV.cell 5
    have a6 := RV.cell 6
    have a7 := RV.cell 7
    have a8 := RV.cell 8
    simp only [List.getElem?_cons_succ, List.getElem?_cons_zero] at a0 a1 a2 a3 a4 a5 a6 a7 a8
    go_wp2_with fail
    with_reducible refine (cQ _ _ _ ht).mono ?_
    rintro e w2 ⟨rfl, b1⟩
    replace b0 := b0.trans (b1.mono b0.size)
    clear b1 ht a0 a1 a2 a3 a4 a5 a6 a7 a8
    go_wp2_with fail
    go_ret2
    exact ⟨rfl, b0⟩
/-- Vote, the program's and the document's. -/
theorem vote_both (d0 d1 d2 d3 d4 : Nat) (n : Int) (on : List Int) (f : Bool) (l : List Pr) (h9 : on.length ≤ 1000000) (h9l : l.length ≤ 1000000) : ∃ S : ByteArray, ∃ E : Int, (E = 0 → S.data.toList = voteB [d0, d1, d2, d3, d4] n on f l) ∧ (rightB n on = true → rightT l = true → E = 0) ∧
    (∀ A c B k W, Bt W (.agg #[.int .i64 n, .slice A on.length c]) n on → Tk W (.agg #[.bool f, .slice B l.length k]) f l → Calls Tryz.prog 7 #[.agg #[.int .u64 (d0 : Int), .int .u64 (d1 : Int), .int .u64 (d2 : Int), .int .u64 (d3 : Int), .int .u64 (d4 : Int), .int .i64 n, .slice A on.length c, .bool f, .slice B l.length k]] W fun e w' => e = .returned (.tuple #[.string S, .int .i64 E]) ∧ Below W.heap.size W w') ∧
    (∀ A c B k W, Bt W (.agg #[.int .i64 n, .slice A on.length c]) n on → Tk W (.agg #[.bool f, .slice B l.length k]) f l → Calls Tryz.prog 8 #[.agg #[.int .u64 (d0 : Int), .int .u64 (d1 : Int), .int .u64 (d2 : Int), .int .u64 (d3 : Int), .int .u64 (d4 : Int), .int .i64 n, .slice A on.length c, .bool f, .slice B l.length k]] W fun e w' => e = .returned (.tuple #[.string S, .int .i64 E]) ∧ Below W.heap.size W w') := by
  cases hr : rightB n on && rightT l
  · refine ⟨⟨#[]⟩, 1, fun h => absurd h (by decide), fun h1 h2 => ?_, fun A c B k W hx ht => Vote_arg d0 d1 d2 d3 d4 n on f l A B c k W hr hx ht h9 h9l, fun A c B k W hx ht => rVote_arg d0 d1 d2 d3 d4 n on f l A B c k W hr hx ht h9 h9l⟩
    rw [h1, h2] at hr; cases hr
  · obtain ⟨h1, h2⟩ := Bool.and_eq_true_iff.1 hr
    obtain ⟨S, hS⟩ := ba_of (voteB [d0, d1, d2, d3, d4] n on f l)
    exact ⟨S, 0, fun _ => hS, fun _ _ => rfl, fun A c B k W hx ht => Vote_ok d0 d1 d2 d3 d4 n on f l A B c k S W hS h1 h2 hx ht h9 h9l, fun A c B k W hx ht => rVote_ok d0 d1 d2 d3 d4 n on f l A B c k S W hS h1 h2 hx ht h9 h9l⟩
set_option maxHeartbeats 4000000 in
set_option maxRecDepth 100000 in
theorem rAgg_ok (a d0 d1 d2 d3 d4 : Nat) (n : Int) (on : List Int) (f g : Bool) (l m : List Pr) (A B C : Option Addr) (c k j : Nat) (S : ByteArray) (w : World) (hS : S.data.toList = aggB a g m (voteB [d0, d1, d2, d3, d4] n on f l)) (hr : rightB n on = true) (hrt : rightT l = true) (hm : rightT m = true) (hl : 16 + (1 + 16 * m.length) + (voteB [d0, d1, d2, d3, d4] n on f l).length ≤ 65536)
    (hx : Bt w (.agg #[.int .i64 n, .slice A on.length c]) n on) (ht : Tk w (.agg #[.bool f, .slice B l.length k]) f l) (hp : Tk w (.agg #[.bool g, .slice C m.length j]) g m) (h9 : on.length ≤ 1000000) (h9l : l.length ≤ 1000000) (h9m : m.length ≤ 1000000) :
    Calls Tryz.prog 10 #[.agg #[.int .u64 (a : Int), .bool g, .slice C m.length j, .int .u64 (d0 : Int), .int .u64 (d1 : Int), .int .u64 (d2 : Int), .int .u64 (d3 : Int), .int .u64 (d4 : Int), .int .i64 n, .slice A on.length c, .bool f, .slice B l.length k]] w fun e w' => e = .returned (.tuple #[.string S, .int .i64 0]) ∧ Below w.heap.size w w' := by
  obtain ⟨Q, E2, eQ, e2, cQ⟩ := code_named g m h9m
  obtain ⟨V, hV⟩ := ba_of (voteB [d0, d1, d2, d3, d4] n on f l)
  obtain ⟨P, eP, zP, cP⟩ := put_named a
  have cV := fun A c B k W hx ht => rVote_ok d0 d1 d2 d3 d4 n on f l A B c k V W hV hr hrt hx ht h9 h9l
  have eQ' : Q.data.toList = encB g m := by rw [eQ]; unfold encT; rw [hm]; rfl
  obtain rfl : E2 = 0 := by rw [← e2]; unfold encT; rw [hm]; rfl
  have cJ := fun W q (h : RowAt W q 9 [.string Q, .string V]) => join_two P Q V S (by rw [eP, eQ', hV, hS, show leBytes a 8 = wordsB [a] by rw [wordsB_cons, wordsB_nil, List.append_nil]]; exact aggB_join hl) (by omega) W q h
  clear eQ eQ' e2 hV hS hr hrt hm hl h9 h9l h9m eP zP
  have RV : RowAt (w.alloc (.cells #[.int .u64 (a : Int), .bool g, .slice C m.length j, .int .u64 (d0 : Int), .int .u64 (d1 : Int), .int .u64 (d2 : Int), .int .u64 (d3 : Int), .int .u64 (d4 : Int), .int .i64 n, .slice A on.length c, .bool f, .slice B l.length k] 41)) w.heap.size 41 [.int .u64 (a : Int), .bool g, .slice C m.length j, .int .u64 (d0 : Int), .int .u64 (d1 : Int), .int .u64 (d2 : Int), .int .u64 (d3 : Int), .int .u64 (d4 : Int), .int .i64 n, .slice A on.length c, .bool f, .slice B l.length k] := RowAt.new w 41 #[.int .u64 (a : Int), .bool g, .slice C m.length j, .int .u64 (d0 : Int), .int .u64 (d1 : Int), .int .u64 (d2 : Int), .int .u64 (d3 : Int), .int .u64 (d4 : Int), .int .i64 n, .slice A on.length c, .bool f, .slice B l.length k]
  have b0 : Below w.heap.size w (w.alloc (.cells #[.int .u64 (a : Int), .bool g, .slice C m.length j, .int .u64 (d0 : Int), .int .u64 (d1 : Int), .int .u64 (d2 : Int), .int .u64 (d3 : Int), .int .u64 (d4 : Int), .int .i64 n, .slice A on.length c, .bool f, .slice B l.length k] 41)) := (Below.refl _ _).alloc (Nat.le_refl _) _
  replace hx := hx.on b0
  replace ht := ht.on b0
  replace hp := hp.on b0
  go_enter Tryz.func10, Tryz.ntmps10
  go_wp2_with fail
  with_reducible refine (cQ _ _ _ hp).mono ?_
  rintro e w1 ⟨rfl, b1⟩
  replace RV := RV.on b1
  replace hx := hx.on b1
  replace ht := ht.on b1
  replace b0 := b0.trans (b1.mono b0.size)
  clear b1 hp
  have u0 := RV.cell 0
  have u1 := RV.cell 1
  have u2 := RV.cell 2
  have u3 := RV.cell 3
  have u4 := RV.cell 4
  have u5 := RV.cell 5
  have u6 := RV.cell 6
  have u7 := RV.cell 7
  have u8 := RV.cell 8
  have u9 := RV.cell 9
  have u10 := RV.cell 10
  have u11 := RV.cell 11
  simp only [List.getElem?_cons_succ, List.getElem?_cons_zero] at u0 u1 u2 u3 u4 u5 u6 u7 u8 u9 u10 u11
  go_wp2_with fail
  with_reducible refine (cV _ _ _ _ _ hx ht).mono ?_
  rintro e w2 ⟨rfl, b1⟩
  replace RV := RV.on b1
  replace b0 := b0.trans (b1.mono b0.size)
  clear b1 hx ht u0 u1 u2 u3 u4 u5 u6 u7 u8 u9 u10 u11
  have u0 := RV.cell 0
  have u1 := RV.cell 1
  have u2 := RV.cell 2
  have u3 := RV.cell 3
  have u4 := RV.cell 4
  have u5 := RV.cell 5
  have u6 := RV.cell 6
  have u7 := RV.cell 7
  have u8 := RV.cell 8
  have u9 := RV.cell 9
  have u10 := RV.cell 10
  have u11 := RV.cell 11
  simp only [List.getElem?_cons_succ, List.getElem?_cons_zero] at u0 u1 u2 u3 u4 u5 u6 u7 u8 u9 u10 u11
  go_wp2_with fail
  with_reducible refine (cP _).mono ?_
  rintro e w3 ⟨rfl, b1⟩
  replace b0 := b0.trans (b1.mono b0.size)
  clear b1 u0 u1 u2 u3 u4 u5 u6 u7 u8 u9 u10 u11
  go_wp2_with fail
  have RS := RowAt.new w3 9 #[.string Q, .string V]
  have b3 := b0.alloc b0.size (.cells #[.string Q, .string V] 9)
  with_reducible refine (cJ _ _ RS).mono ?_
  rintro e w4 ⟨rfl, b1⟩
  go_wp2_with fail
  go_ret2
  exact ⟨rfl, b3.trans (b1.mono b3.size)⟩
set_option maxHeartbeats 4000000 in
set_option maxRecDepth 100000 in
theorem rAgg_arg (a d0 d1 d2 d3 d4 : Nat) (n : Int) (on : List Int) (f g : Bool) (l m : List Pr) (A B C : Option Addr) (c k j : Nat) (w : World) (hr : (rightT m && (rightB n on && rightT l)) = false)
    (hx : Bt w (.agg #[.int .i64 n, .slice A on.length c]) n on) (ht : Tk w (.agg #[.bool f, .slice B l.length k]) f l) (hp : Tk w (.agg #[.bool g, .slice C m.length j]) g m) (h9 : on.length ≤ 1000000) (h9l : l.length ≤ 1000000) (h9m : m.length ≤ 1000000) :
    Calls Tryz.prog 10 #[.agg #[.int .u64 (a : Int), .bool g, .slice C m.length j, .int .u64 (d0 : Int), .int .u64 (d1 : Int), .int .u64 (d2 : Int), .int .u64 (d3 : Int), .int .u64 (d4 : Int), .int .i64 n, .slice A on.length c, .bool f, .slice B l.length k]] w fun e w' => e = .returned (.tuple #[.string ⟨#[]⟩, .int .i64 1]) ∧ Below w.heap.size w w' := by
  obtain ⟨Q, E2, eQ, e2, cQ⟩ := code_named g m h9m
  obtain ⟨V, E3, _, e3, _, cV⟩ := vote_both d0 d1 d2 d3 d4 n on f l h9 h9l
  have RV : RowAt (w.alloc (.cells #[.int .u64 (a : Int), .bool g, .slice C m.length j, .int .u64 (d0 : Int), .int .u64 (d1 : Int), .int .u64 (d2 : Int), .int .u64 (d3 : Int), .int .u64 (d4 : Int), .int .i64 n, .slice A on.length c, .bool f, .slice B l.length k] 41)) w.heap.size 41 [.int .u64 (a : Int), .bool g, .slice C m.length j, .int .u64 (d0 : Int), .int .u64 (d1 : Int), .int .u64 (d2 : Int), .int .u64 (d3 : Int), .int .u64 (d4 : Int), .int .i64 n, .slice A on.length c, .bool f, .slice B l.length k] := RowAt.new w 41 #[.int .u64 (a : Int), .bool g, .slice C m.length j, .int .u64 (d0 : Int), .int .u64 (d1 : Int), .int .u64 (d2 : Int), .int .u64 (d3 : Int), .int .u64 (d4 : Int), .int .i64 n, .slice A on.length c, .bool f, .slice B l.length k]
  have b0 : Below w.heap.size w (w.alloc (.cells #[.int .u64 (a : Int), .bool g, .slice C m.length j, .int .u64 (d0 : Int), .int .u64 (d1 : Int), .int .u64 (d2 : Int), .int .u64 (d3 : Int), .int .u64 (d4 : Int), .int .i64 n, .slice A on.length c, .bool f, .slice B l.length k] 41)) := (Below.refl _ _).alloc (Nat.le_refl _) _
  replace hx := hx.on b0
  replace ht := ht.on b0
  replace hp := hp.on b0
  cases hb : rightT m
  · obtain rfl : E2 = 1 := by rw [← e2]; unfold encT; rw [hb]; rfl
    clear eQ e2 e3 hr hb h9 h9l h9m
    go_enter Tryz.func10, Tryz.ntmps10
    go_wp2_with fail
    with_reducible refine (cQ _ _ _ hp).mono ?_
    rintro e w1 ⟨rfl, b1⟩
    replace RV := RV.on b1
    replace hx := hx.on b1
    replace ht := ht.on b1
    replace b0 := b0.trans (b1.mono b0.size)
    clear b1 hp
    have u0 := RV.cell 0
    have u1 := RV.cell 1
    have u2 := RV.cell 2
    have u3 := RV.cell 3
    have u4 := RV.cell 4
    have u5 := RV.cell 5
    have u6 := RV.cell 6
    have u7 := RV.cell 7
    have u8 := RV.cell 8
    have u9 := RV.cell 9
    have u10 := RV.cell 10
    have u11 := RV.cell 11
    simp only [List.getElem?_cons_succ, List.getElem?_cons_zero] at u0 u1 u2 u3 u4 u5 u6 u7 u8 u9 u10 u11
    go_wp2_with fail
    with_reducible refine (cV _ _ _ _ _ hx ht).mono ?_
    rintro e w2 ⟨rfl, b1⟩
    replace b0 := b0.trans (b1.mono b0.size)
    clear b1 hx ht u0 u1 u2 u3 u4 u5 u6 u7 u8 u9 u10 u11
    go_wp2_with fail
    go_ret2
    exact ⟨rfl, b0⟩
  · rw [hb, Bool.true_and] at hr
    obtain rfl : E2 = 0 := by rw [← e2]; unfold encT; rw [hb]; rfl
    have cV' := fun A c B k W hx ht => rVote_arg d0 d1 d2 d3 d4 n on f l A B c k W hr hx ht h9 h9l
    clear cV
    have cV := cV'
    clear eQ e2 e3 hr hb h9 h9l h9m cV'
    go_enter Tryz.func10, Tryz.ntmps10
    go_wp2_with fail
    with_reducible refine (cQ _ _ _ hp).mono ?_
    rintro e w1 ⟨rfl, b1⟩
    replace RV := RV.on b1
    replace hx := hx.on b1
    replace ht := ht.on b1
    replace b0 := b0.trans (b1.mono b0.size)
    clear b1 hp
    have u0 := RV.cell 0
    have u1 := RV.cell 1
    have u2 := RV.cell 2
    have u3 := RV.cell 3
    have u4 := RV.cell 4
    have u5 := RV.cell 5
    have u6 := RV.cell 6
    have u7 := RV.cell 7
    have u8 := RV.cell 8
    have u9 := RV.cell 9
    have u10 := RV.cell 10
    have u11 := RV.cell 11
    simp only [List.getElem?_cons_succ, List.getElem?_cons_zero] at u0 u1 u2 u3 u4 u5 u6 u7 u8 u9 u10 u11
    go_wp2_with fail
    with_reducible refine (cV _ _ _ _ _ hx ht).mono ?_
    rintro e w2 ⟨rfl, b1⟩
    replace b0 := b0.trans (b1.mono b0.size)
    clear b1 hx ht u0 u1 u2 u3 u4 u5 u6 u7 u8 u9 u10 u11
    go_wp2_with fail
    go_ret2
    exact ⟨rfl, b0⟩
/-- Aggregate, the program's and the document's. -/
theorem agg_both (a d0 d1 d2 d3 d4 : Nat) (n : Int) (on : List Int) (f g : Bool) (l m : List Pr) (h9 : on.length ≤ 1000000) (h9l : l.length ≤ 1000) (h9m : m.length ≤ 1000) : ∃ S : ByteArray, ∃ E : Int, (E = 0 → S.data.toList = aggB a g m (voteB [d0, d1, d2, d3, d4] n on f l)) ∧ (rightT m = true → rightB n on = true → rightT l = true → E = 0) ∧
    (∀ A c B k C j W, Bt W (.agg #[.int .i64 n, .slice A on.length c]) n on → Tk W (.agg #[.bool f, .slice B l.length k]) f l → Tk W (.agg #[.bool g, .slice C m.length j]) g m → Calls Tryz.prog 9 #[.agg #[.int .u64 (a : Int), .bool g, .slice C m.length j, .int .u64 (d0 : Int), .int .u64 (d1 : Int), .int .u64 (d2 : Int), .int .u64 (d3 : Int), .int .u64 (d4 : Int), .int .i64 n, .slice A on.length c, .bool f, .slice B l.length k]] W fun e w' => e = .returned (.tuple #[.string S, .int .i64 E]) ∧ Below W.heap.size W w') ∧
    (∀ A c B k C j W, Bt W (.agg #[.int .i64 n, .slice A on.length c]) n on → Tk W (.agg #[.bool f, .slice B l.length k]) f l → Tk W (.agg #[.bool g, .slice C m.length j]) g m → Calls Tryz.prog 10 #[.agg #[.int .u64 (a : Int), .bool g, .slice C m.length j, .int .u64 (d0 : Int), .int .u64 (d1 : Int), .int .u64 (d2 : Int), .int .u64 (d3 : Int), .int .u64 (d4 : Int), .int .i64 n, .slice A on.length c, .bool f, .slice B l.length k]] W fun e w' => e = .returned (.tuple #[.string S, .int .i64 E]) ∧ Below W.heap.size W w') := by
  have g9l : l.length ≤ 1000000 := Nat.le_trans h9l (by decide)
  have g9m : m.length ≤ 1000000 := Nat.le_trans h9m (by decide)
  cases hr : rightT m && (rightB n on && rightT l)
  · refine ⟨⟨#[]⟩, 1, fun h => absurd h (by decide), fun h1 h2 h3 => ?_, fun A c B k C j W hx ht hp => Aggregate_arg a d0 d1 d2 d3 d4 n on f g l m A B C c k j W hr hx ht hp h9 g9l g9m, fun A c B k C j W hx ht hp => rAgg_arg a d0 d1 d2 d3 d4 n on f g l m A B C c k j W hr hx ht hp h9 g9l g9m⟩
    rw [h1, h2, h3] at hr; cases hr
  · obtain ⟨h0, h⟩ := Bool.and_eq_true_iff.1 hr
    obtain ⟨h1, h2⟩ := Bool.and_eq_true_iff.1 h
    obtain ⟨S, hS⟩ := ba_of (aggB a g m (voteB [d0, d1, d2, d3, d4] n on f l))
    have hl : 16 + (1 + 16 * m.length) + (voteB [d0, d1, d2, d3, d4] n on f l).length ≤ 65536 := by
      rw [voteB_length]
      have := right_size h1
      simp
      omega
    exact ⟨S, 0, fun _ => hS, fun _ _ _ => rfl, fun A c B k C j W hx ht hp => Aggregate_ok a d0 d1 d2 d3 d4 n on f g l m A B C c k j S W hS h1 h2 h0 hl hx ht hp h9 g9l g9m, fun A c B k C j W hx ht hp => rAgg_ok a d0 d1 d2 d3 d4 n on f g l m A B C c k j S W hS h1 h2 h0 hl hx ht hp h9 g9l g9m⟩
end Go.Proofs.YtieheieiolobaaaGreatDoor

namespace Go.Proofs.YtieheieiolobaaaGreatDoor
open Go.RowKit Go.Shelf

set_option maxHeartbeats 4000000 in
set_option maxRecDepth 100000 in
theorem rUnlist_nrest (s : ByteArray) (most : Int) (w : World) (hs : s.size ≤ 1000000) (h : ¬ (s.data.toList = [] ∨ s.data.toList.getD (s.data.toList.length - 1) 0 = 0)) :
    Calls Tryz.prog 40 #[.string s, .int .i64 most] w fun e w' => ∃ x, e = .returned (.tuple #[x, .int .i64 (unlistOf s.data.toList most).2.2]) ∧ Bt w' x (unlistOf s.data.toList most).1 (unlistOf s.data.toList most).2.1 ∧ Below w.heap.size w w' ∧ Newer w.heap.size x := by
  obtain ⟨h0, hne, hz⟩ := not_nil_of h
  have hz1 : ((s[s.size - 1].toNat : Int) == 0) = false := by
    rw [byte_getD]
    simp only [beq_eq_false_iff_ne, ne_eq]
    intro e
    exact hz (UInt8.toNat_inj.1 (by simpa using e))
  have hd : ((s.size : Int) == 0) = false := by simp only [beq_eq_false_iff_ne, ne_eq]; omega
  obtain ⟨e0, e1, e2, e3⟩ := end_top (l := s.data.toList) (fun e => h (.inl e)) (fun e => h (.inr e))
  have HE := Lib.hid (onsTo_end (l := s.data.toList) (fun e => h (.inl e)) (fun e => h (.inr e)))
  have HU : Hid (unlistOf s.data.toList most = if most < endAt s.data.toList ∨ 2048 < endAt s.data.toList then (0, [], 4) else (endAt s.data.toList, (onsOf s.data.toList).dropLast, 0)) := by
    unfold unlistOf
    rw [if_neg h]; rfl
  rw [bytes_length] at e3
  obtain ⟨E, hE⟩ := Int.eq_ofNat_of_zero_le e0
  rw [hE] at e1 e2 e3 HE HU
  rw [Int.toNat_natCast] at e1 e3 HE
  clear h hz hne e0 hE
  have E2 := Lib.hid e2
  have hE8 : E < 8 * s.size := by omega
  clear e2 e3
  have r0 : RowAt (w.alloc (.cells #[.int .i64 0, .slice none 0 0] 27)) w.heap.size 27 [.int .i64 0, .slice none 0 0] := RowAt.new w 27 #[.int .i64 0, .slice none 0 0]
  have hw0 : Below w.heap.size w (w.alloc (.cells #[.int .i64 0, .slice none 0 0] 27)) := (Below.refl _ w).alloc (Nat.le_refl _) _
  go_enter Tryz.func40, Tryz.ntmps40
  go_wp2_with fail
  go_loop [6] (fun nv => ∃ j : Nat, E ≤ j ∧ j < 8 * s.size ∧ nv = .int .i64 j) (fun nv => (intOf nv).toNat)
  case atStart => exact ⟨8 * s.size - 1, by omega, by omega, by go_num⟩
  case round =>
    obtain ⟨j, hj1, hj2, rfl⟩ := hrel
    have hidx : j / 8 < s.size := by omega
    have hbit : s[j / 8].toNat.testBit (j % 8) = bitAt s.data.toList j := by
      unfold bitAt
      rw [byte_getD]
    have hmod := bit_mod s[j / 8] (j % 8)
    rw [hbit] at hmod
    by_cases hjE : j = E
    · subst hjE
      rw [e1] at hmod
      simp only [if_true] at hmod
      clear hbit
      by_cases c1 : most < (j : Int)
      · rw [if_pos (.inl c1)] at HU
        go_wp2_with fail
        refine bodyPost_ret (v := .tuple #[.agg #[.int .i64 0, .slice none 0 0], .int .i64 4]) (by simp [results, Tryz.results40, go_sem]) rfl ?_
        rw [HU.out]
        exact ⟨_, rfl, ⟨_, rfl, Elems.nil _ _ _⟩, hw0, Newer.none _ _ _ _⟩
      · by_cases c2 : 2048 < (j : Int)
        · rw [if_pos (.inr c2)] at HU
          go_wp2_with fail
          refine bodyPost_ret (v := .tuple #[.agg #[.int .i64 0, .slice none 0 0], .int .i64 4]) (by simp [results, Tryz.results40, go_sem]) rfl ?_
          rw [HU.out]
          exact ⟨_, rfl, ⟨_, rfl, Elems.nil _ _ _⟩, hw0, Newer.none _ _ _ _⟩
        · rw [if_neg (by omega)] at HU
          go_wp2_with fail
          with_reducible refine (rset_any s j _ (by omega) (by omega)).mono ?_
          rintro e w1 ⟨A, c, rfl, hA, hfo, hb1⟩
          have HA := Lib.hid hA.ints
          have HF := Lib.hid hfo
          clear hfo
          replace r0 := r0.on hb1
          have hw1 := hw0.trans (hb1.mono hw0.size)
          obtain ⟨c0, c1'⟩ := r0.two
          have f0 := r0.frozen 0
          have f1 := r0.frozen 1
          have HQ := Lib.hid r0
          clear hb1 r0 hmod
          go_wp2_with fail
          have R := (HQ.out.set 0 (.int .i64 (j : Int))).set 1 (.slice A (onsTo s.data.toList j).length c)
          have g0 := R.cell 0
          have g1 := R.cell 1
          simp only [List.set_cons_zero, List.set_cons_succ, List.getElem?_cons_zero, List.getElem?_cons_succ] at g0 g1
          refine bodyPost_ret (v := .tuple #[.agg #[.int .i64 (j : Int), .slice A (onsTo s.data.toList j).length c], .int .i64 0]) (by simp [results, Tryz.results40, go_sem, g0, g1]) rfl ?_
          rw [HU.out, ← HE.out]
          refine ⟨_, rfl, ⟨_, rfl, ?_⟩, (hw1.setCell (p := ⟨w.heap.size, 0, none⟩) (Nat.le_refl _) _).setCell (p := ⟨w.heap.size, 1, none⟩) (Nat.le_refl _) _, Newer.of (HF.out.less (by simp))⟩
          exact ints_store2 HA.out HF.out (by simp) _ _
    · have hoff := E2.out j (by omega)
      rw [hoff] at hmod
      simp only [Bool.false_eq_true, if_false] at hmod
      clear hbit hoff
      go_wp2_with fail
      go_round
      case rel => exact ⟨j - 1, by omega, by omega, by go_num⟩
      case measure => simp [intOf]; omega
theorem rUnlist_nw (s : ByteArray) (most : Int) (w : World) (hs : s.size ≤ 1000000) :
    Calls Tryz.prog 40 #[.string s, .int .i64 most] w fun e w' => ∃ x, e = .returned (.tuple #[x, .int .i64 (unlistOf s.data.toList most).2.2]) ∧ Bt w' x (unlistOf s.data.toList most).1 (unlistOf s.data.toList most).2.1 ∧ Below w.heap.size w w' ∧ Newer w.heap.size x := by
  by_cases h : s.data.toList = [] ∨ s.data.toList.getD (s.data.toList.length - 1) 0 = 0
  · have e : unlistOf s.data.toList most = (0, [], 2) := by unfold unlistOf; rw [if_pos h]
    rw [e]
    exact (rUnlist_form s most w hs h).mono fun e w' ⟨he, hb⟩ => ⟨_, he, ⟨_, rfl, Elems.nil _ _ _⟩, hb, Newer.none _ _ _ _⟩
  · exact rUnlist_nrest s most w hs h
set_option maxHeartbeats 4000000 in
set_option maxRecDepth 100000 in
theorem rDecode_nelse (s : ByteArray) (w : World) (hs : s.size ≤ 1000000) (h16 : s.size % 16 = 1) (h0 : 0 < s.size) (h1 : (s[0]).toNat ≤ 1) :
    Calls Tryz.prog 41 #[.string s] w fun e w' => ∃ x, e = .returned (.tuple #[x, .int .i64 (decB s.data.toList).1]) ∧ Tk w' x (decB s.data.toList).2.1 (decB s.data.toList).2.2 ∧ Below w.heap.size w w' ∧ Newer w.heap.size x := by
  obtain ⟨i0, hi, hz0, hz1, hz2⟩ := info_parts info_pair
  have hne : (((s.size : Int) % 16) != 1) = false := by simp; omega
  have hg1 : ((1 : Int) < ((s[0]).toNat : Int)) = False := eq_false (by omega)
  have hg2 : (1 < (s[0]).toNat) = False := eq_false (by omega)
  have HD := Lib.hid (decB_else s h16 h0 h1)
  generalize decB s.data.toList = T at *
  obtain ⟨fb, hfb⟩ : ∃ fb : Bool, (((s[0]).toNat : Int) == 1) = fb := ⟨_, rfl⟩
  have HFB := Lib.hid (show ((s[0]).toNat == 1) = fb by rw [← hfb, show ((1 : Int)) = ((1 : Nat) : Int) from rfl, beq_int]; rfl)
  have hpl := pairsOf_length s
  have hpg := pairsOf_get s
  generalize pairsOf s = L at *
  have HPL := Lib.hid hpl
  have HPG := Lib.hid hpg
  clear hpl hpg
  obtain ⟨wa, hwa⟩ : ∃ wa, wa = (w.alloc (.cells #[.bool false, .slice none 0 0] 30)).alloc (.cells #[.bool fb, .slice none 0 0] 30) := ⟨_, rfl⟩
  have hb0 : Below w.heap.size w wa := by rw [hwa]; exact (boxed _ _ _).alloc (by simp) _
  have r0 : RowAt wa w.heap.size 30 [.bool false, .slice none 0 0] := by rw [hwa]; exact (RowAt.new w 30 #[.bool false, .slice none 0 0]).alloc _
  have r1 : RowAt wa (w.heap.size + 1) 30 [.bool fb, .slice none 0 0] := by
    have := RowAt.new (w.alloc (.cells #[.bool false, .slice none 0 0] 30)) 30 #[.bool fb, .slice none 0 0]
    rw [World.size_alloc] at this
    rw [hwa]; exact this
  have hsz : wa.heap.size = w.heap.size + 1 + 1 := by rw [hwa, World.size_alloc, World.size_alloc]
  have HSZ := Lib.hid hsz
  have HW := Lib.hid hwa
  clear hwa hsz
  go_enter Tryz.func41, Tryz.ntmps41
  go_wp2_with fail
  try rw [← HW.out]
  have hg3 : (s[0].toNat = 1) = (fb = true) := by rw [← HFB.out]; simp
  clear hne hg1 hg2 hfb
  go_loopw [5] (fun i wr => ∃ (n k : Nat) (o : Value), n = 1 + 16 * k ∧ k ≤ L.length ∧ i = .int .i64 (n : Int) ∧ RowAt wr (w.heap.size + 1) 30 [.bool fb, o] ∧ wr.ownsRow wa.heap.size 89 2 o k ((L.take k).flatMap pairCells) ∧ Below (w.heap.size + 1) wa wr) (fun i _ => s.size - (intOf i).toNat)
  case atStart => exact ⟨1, 0, _, rfl, Nat.zero_le _, rfl, r1, World.ownsRow_nil _ _ _ _, Below.refl _ _⟩
  case round =>
    obtain ⟨n, k, o, hn, hk, rfl, q, hown, hb⟩ := hrel
    have hbw := hb0.trans (hb.mono (Nat.le_succ _))
    have hz := hb.size
    have hsz1 : w.heap.size + 2 ≤ wr.heap.size := by have := HSZ.out; omega
    have hls : L.length = s.size / 16 := HPL.out
    clear hg3
    by_cases hlt : k < L.length
    · have hat : n + 16 ≤ s.size := by omega
      have e1 := tExt_list s n
      have e2 := tExt_list s (n + 8)
      have z1 : (s.extract n s.size).size = s.size - n := by rw [← list_len, e1]; simp
      have z2 : (s.extract (n + 8) s.size).size = s.size - (n + 8) := by rw [← list_len, e2]; simp
      have t1 := fun W => rTake8 (s.extract n s.size) W (by omega) (by omega)
      have t2 := fun W => rTake8 (s.extract (n + 8) s.size) W (by omega) (by omega)
      have hg := HPG.out k hlt
      rw [e1] at t1
      rw [e2] at t2
      rw [← hn] at hg
      have HG := Lib.hid hg
      have HN := Lib.hid hn
      clear hg hls z1 z2 e1 e2 hn h16 h1
      generalize leNum ((s.data.toList.drop n).take 8) = n1 at *
      generalize leNum ((s.data.toList.drop (n + 8)).take 8) = n2 at *
      go_wp2_with fail
      with_reducible refine (t1 _).mono ?_
      rintro e w1 ⟨rfl, hb1⟩
      clear t1
      go_wp2_with fail
      with_reducible refine (t2 _).mono ?_
      rintro e w2 ⟨rfl, hb2⟩
      clear t2
      have hb12 := bstep hb1 hb2 hb1.size
      have q2 := q.on hb12
      have hown2 := tOwns_below hown hb12
      have hbn := hb.trans (hb12.mono (by omega))
      have hz2' := hbn.size
      have hzr := hb12.size
      obtain ⟨c0, c1⟩ := q2.two
      have f1 := q2.frozen 1
      have hown' : ∀ g, o.ownBlock = some g → wa.heap.size ≤ g := fun g hg => (hown.lt g hg).1
      have hsz3 := HSZ.out
      have HS3 := Lib.hid hsz3
      have hne : some (w.heap.size + 1) ≠ o.ownBlock := fun e => by have := hown' _ e.symm; omega
      have hza : wa.heap.size ≤ w2.heap.size := by omega
      have hk9 : k < 1000000 := by have := HPL.out; omega
      clear hsz3 hb1 hb2 hb12 hown q hb
      go_wp2_with (at_builtin; refine wpList_append_own _ rfl _ _ 28 rfl wa.heap.size 89 i0 (.agg #[.int .u64 0, .int .u64 0]) 2 16 Tryz.underlying28 hi hz0 hz1 hz2 rfl (by decide) _ _ _ rfl (hown2.alloc _) ⟨w2.heap.size, 0, none⟩ 1 1 [.int .u64 (n1 : Int), .int .u64 (n2 : Int)] rfl rfl ?c1 ?c2 ?c3 ?c4 ?c5 ?_)
      case c1 =>
        intro j u hj
        match j, hj with
        | 0, hj => simp at hj; subst hj; simp [Addr.add]
        | 1, hj => simp at hj; subst hj; simp [Addr.add]
      case c2 => intro u hu0; simp at hu0; rcases hu0 with rfl | rfl <;> rfl
      case c3 => unfold maxLen; omega
      case c4 => omega
      case c5 => simp; omega
      intro v' w3 hown3 hgrow _
      obtain ⟨gg, cap, hvf, _, _⟩ := hown3.form (by omega)
      subst hvf
      have R : w3.ownsRow wa.heap.size 89 2 (.slice (some ⟨gg, 0, none⟩) (k + 1) cap) (k + 1) ((L.take (k + 1)).flatMap pairCells) := by
        rw [List.take_succ_eq_append_getElem hlt, HG.out, flat_snoc]; exact hown3
      have q3 := (q2.alloc (.cells #[.int .u64 (n1 : Int), .int .u64 (n2 : Int)] 89)).grown hgrow hne
      have hb3 : Below (w.heap.size + 1) wa w3 := (hbn.alloc (by omega) _).grown hgrow (by simp; omega) (fun g hg => by have := hown' g hg; have := HS3.out; omega)
      obtain ⟨d0, d1⟩ := q3.two
      have g1 := q3.frozen 1
      have q4 := q3.set 1 (.slice (some ⟨gg, 0, none⟩) (k + 1) cap)
      have R4 := ownsRow_setCell_other R (a := ⟨w.heap.size + 1, 1, none⟩) (fun e => by have h5 := (R.lt (w.heap.size + 1) e).1; have := HS3.out; omega) (.slice (some ⟨gg, 0, none⟩) (k + 1) cap)
      have hb4 := hb3.setCell (p := ⟨w.heap.size + 1, 1, none⟩) (Nat.le_refl _) (.slice (some ⟨gg, 0, none⟩) (k + 1) cap)
      clear hown3 hgrow hown2 hbn q2 c0 c1 f1 hne R q3 hb3
      go_wp2_with fail
      go_roundw
      case rel => exact ⟨n + 16, k + 1, _, by have := HN.out; omega, by omega, by go_num, q4, R4, hb4⟩
      case measure => simp [intOf]; omega
    · obtain rfl : L.length = k := by omega
      rw [List.take_length] at hown
      have hP := Prs.own hown
      have hFr := from_own hown
      have hl9 : L.length ≤ 1000000 := by omega
      have HL16 := Lib.hid hls
      have HN := Lib.hid hn
      obtain ⟨A, c, rfl, hc⟩ := hP.form
      have cS := rsorted_any _ L wr hP (by unfold maxLen; omega)
      obtain ⟨c0, c1⟩ := q.two
      have hns : (n < s.size) = False := eq_false (by omega)
      clear hown hls hn hlt hk
      cases hsr : srt L
      · rw [hsr] at cS
        have HT := Lib.hid (show T = (2, false, []) by rw [HD.out, if_pos hsr])
        clear hsr
        go_wp2_with fail
        with_reducible refine cS.mono ?_
        rintro e w5 ⟨rfl, hb5⟩
        have hbw5 := bstep hbw hb5 hbw.size
        have r5 := (r0.below hb (Nat.lt_succ_self _)).on hb5
        obtain ⟨x0, x1⟩ := r5.two
        have f0 := r5.frozen 0
        have f1 := r5.frozen 1
        obtain ⟨r6, hb6⟩ := set_two hbw5 (Nat.le_refl _) r5 (.bool false) (.slice none 0 0)
        obtain ⟨d0, d1⟩ := r6.two
        clear c0 c1 cS
        go_wp2_with fail
        refine bodyPost_ret (v := .tuple #[.agg #[.bool false, .slice none 0 0], .int .i64 2]) (by simp [results, Tryz.results41, go_sem, d0, d1]) rfl ?_
        rw [HT.out]
        exact ⟨_, rfl, Tk.empty _, hb6, Newer.none _ _ _ _⟩
      · rw [hsr] at cS
        by_cases hbig : 2048 < L.length
        · have HT := Lib.hid (show T = (4, false, []) by rw [HD.out, if_neg (by rw [hsr]; simp), if_pos (by rw [← HL16.out]; exact hbig)])
          have hbig1 : (2048 < L.length) = True := eq_true hbig
          have hbig2 : ((2048 : Int) < (L.length : Int)) = True := eq_true (by omega)
          clear hsr hbig
          go_wp2_with fail
          with_reducible refine cS.mono ?_
          rintro e w5 ⟨rfl, hb5⟩
          have hbw5 := bstep hbw hb5 hbw.size
          have q5 := q.on hb5
          have r5 := (r0.below hb (Nat.lt_succ_self _)).on hb5
          obtain ⟨y0, y1⟩ := q5.two
          obtain ⟨x0, x1⟩ := r5.two
          have f0 := r5.frozen 0
          have f1 := r5.frozen 1
          obtain ⟨r6, hb6⟩ := set_two hbw5 (Nat.le_refl _) r5 (.bool false) (.slice none 0 0)
          obtain ⟨d0, d1⟩ := r6.two
          clear c0 c1 cS
          go_wp2_with fail
          refine bodyPost_ret (v := .tuple #[.agg #[.bool false, .slice none 0 0], .int .i64 4]) (by simp [results, Tryz.results41, go_sem, d0, d1]) rfl ?_
          rw [HT.out]
          exact ⟨_, rfl, Tk.empty _, hb6, Newer.none _ _ _ _⟩
        · have HT := Lib.hid (show T = (0, fb, L) by rw [HD.out, if_neg (by rw [hsr]; simp), if_neg (by rw [← HL16.out]; exact hbig), HFB.out])
          have hbig1 : (2048 < L.length) = False := eq_false hbig
          have hbig2 : ((2048 : Int) < (L.length : Int)) = False := eq_false (by omega)
          clear hsr hbig
          go_wp2_with fail
          with_reducible refine cS.mono ?_
          rintro e w5 ⟨rfl, hb5⟩
          have hbw5 := bstep hbw hb5 hbw.size
          have q5 := q.on hb5
          have hP5 := hP.on hb5
          have r5 := (r0.below hb (Nat.lt_succ_self _)).on hb5
          obtain ⟨y0, y1⟩ := q5.two
          obtain ⟨x0, x1⟩ := r5.two
          have f0 := r5.frozen 0
          have f1 := r5.frozen 1
          obtain ⟨r6, hb6⟩ := set_two hbw5 (Nat.le_refl _) r5 (.bool fb) (.slice A L.length c)
          obtain ⟨d0, d1⟩ := r6.two
          have hfr : FromOn (w.heap.size + 1) (.slice A L.length c) := hFr.less (by have := HSZ.out; omega)
          have hP6 := ((hP5.setCell hfr (p := ⟨w.heap.size, 0, none⟩) (by show w.heap.size < _; omega) (.bool fb)).setCell hfr (p := ⟨w.heap.size, 1, none⟩) (by show w.heap.size < _; omega) (.slice A L.length c))
          clear c0 c1 cS
          go_wp2_with fail
          refine bodyPost_ret (v := .tuple #[.agg #[.bool fb, .slice A L.length c], .int .i64 0]) (by simp [results, Tryz.results41, go_sem, d0, d1]) rfl ?_
          rw [HT.out]
          refine ⟨_, rfl, ⟨_, rfl, ?_⟩, hb6, Newer.of (hfr.less (by omega))⟩
          simpa [World.setCell] using hP6

theorem rDecode_nw (s : ByteArray) (w : World) (hs : s.size ≤ 1000000) :
    Calls Tryz.prog 41 #[.string s] w fun e w' => ∃ x, e = .returned (.tuple #[x, .int .i64 (decB s.data.toList).1]) ∧ Tk w' x (decB s.data.toList).2.1 (decB s.data.toList).2.2 ∧ Below w.heap.size w w' ∧ Newer w.heap.size x := by
  by_cases h16 : s.size % 16 = 1
  · by_cases h1 : (s[0]'(by omega)).toNat ≤ 1
    · exact rDecode_nelse s w hs h16 (by omega) h1
    · rw [decB_bad2 s (by omega) (by omega)]
      exact (rDecode_bad s w hs (.inr ⟨h16, by omega⟩)).mono fun e w' ⟨he, hb⟩ => ⟨_, he, Tk.empty _, hb, Newer.none _ _ _ _⟩
  · rw [decB_bad1 s h16]
    exact (rDecode_bad s w hs (.inl h16)).mono fun e w' ⟨he, hb⟩ => ⟨_, he, Tk.empty _, hb, Newer.none _ _ _ _⟩
theorem rSplit_eq (s : ByteArray) (fixed many : Int) (hd : ByteArray) (ps : List ByteArray) (n : Int) (w : World) (hs : s.size ≤ 1000000) (h : splitOf s.data.toList fixed many = (hd.data.toList, txts ps, n)) :
    Calls Tryz.prog 39 #[.string s, .int .i64 fixed, .int .i64 many] w fun e w' => ∃ A c, e = .returned (.tuple #[.string hd, .slice A ps.length c, .int .i64 n]) ∧ Strs w' w'.heap.size (.slice A ps.length c) ps ∧ Below w.heap.size w w' := by
  refine (refSplit_any s fixed many w (by omega)).mono ?_
  rintro e w' ⟨v, qs, rfl, hv, -, hq, hb⟩
  rw [h] at hq ⊢
  obtain rfl := txts_inj hq
  obtain ⟨A, c, rfl, -⟩ := hv.form
  exact ⟨A, c, by simp only [mk_list], hv, hb⟩
theorem rSplit_two (s : ByteArray) (fixed : Int) (hd p q : ByteArray) (w : World) (hs : s.size ≤ 1000000) (h : splitOf s.data.toList fixed 2 = (hd.data.toList, txts [p, q], 0)) :
    Calls Tryz.prog 39 #[.string s, .int .i64 fixed, .int .i64 2] w fun e w' => ∃ (ad : Addr) (c : Nat), e = .returned (.tuple #[.string hd, .slice (some ad) 2 c, .int .i64 0]) ∧ ad.block < w'.heap.size ∧ 2 ≤ c ∧ w'.cell? ad = some (.string p) ∧ w'.cell? ⟨ad.block, ad.off + 1, none⟩ = some (.string q) ∧ Below w.heap.size w w' := by
  refine (rSplit_eq s fixed 2 hd [p, q] 0 w hs h).mono ?_
  rintro e w1 ⟨A, c, rfl, hv, hb⟩
  obtain ⟨A', c', hv1, hc, ha⟩ := hv
  obtain ⟨rfl, -, rfl⟩ := Value.slice.inj hv1
  obtain ⟨ad, rfl, hlt, hcell⟩ := ha (by simp)
  have k0 := hcell 0 p rfl
  have k1 := hcell 1 q rfl
  simp only [Addr.add_zero', Addr.add_succ', Nat.zero_add] at k0 k1
  exact ⟨ad, c, rfl, hlt, hc, k0, k1, hb⟩
theorem rUnl_eq (s : ByteArray) (most N err : Int) (on : List Int) (w : World) (h : unlistOf s.data.toList most = (N, on, err)) (hs : s.size ≤ 1000000) :
    Calls Tryz.prog 40 #[.string s, .int .i64 most] w fun e w' => ∃ A c, e = .returned (.tuple #[.agg #[.int .i64 N, .slice A on.length c], .int .i64 err]) ∧ Bt w' (.agg #[.int .i64 N, .slice A on.length c]) N on ∧ Below w.heap.size w w' ∧ Newer w.heap.size (.agg #[.int .i64 N, .slice A on.length c]) := by
  refine (rUnlist_nw s most w hs).mono ?_
  rintro e w' ⟨x, rfl, hx, hb, hn⟩
  rw [h] at hx ⊢
  obtain ⟨A, c, rfl, -, -⟩ := hx.form
  exact ⟨A, c, rfl, hx, hb, hn⟩
theorem rDec_eq (s : ByteArray) (n : Int) (f : Bool) (l : List Pr) (w : World) (h : decB s.data.toList = (n, f, l)) (hs : s.size ≤ 1000000) :
    Calls Tryz.prog 41 #[.string s] w fun e w' => ∃ A c, e = .returned (.tuple #[.agg #[.bool f, .slice A l.length c], .int .i64 n]) ∧ Tk w' (.agg #[.bool f, .slice A l.length c]) f l ∧ Below w.heap.size w w' ∧ Newer w.heap.size (.agg #[.bool f, .slice A l.length c]) := by
  refine (rDecode_nw s w hs).mono ?_
  rintro e w' ⟨x, rfl, hx, hb, hn⟩
  rw [h] at hx ⊢
  obtain ⟨A, c, rfl, -, -⟩ := hx.form
  exact ⟨A, c, rfl, hx, hb, hn⟩
theorem Cell.on {w W : World} {p : Addr} {x : Value} (h : w.cell? p = some x) (hp : p.block < w.heap.size) (hb : Below w.heap.size w W) : W.cell? p = some x := (hb.cell hp).trans h

/-- What Unvote hands back. -/
def UnvAns (d0 d1 d2 d3 d4 : Nat) (n : Int) (on : List Int) (f : Bool) (l : List Pr) (E : Int) (w : World) (e : Ending) (w' : World) : Prop :=
  ∃ A c B k, e = .returned (.tuple #[.agg #[.int .u64 (d0 : Int), .int .u64 (d1 : Int), .int .u64 (d2 : Int), .int .u64 (d3 : Int), .int .u64 (d4 : Int), .int .i64 n, .slice A on.length c, .bool f, .slice B l.length k], .int .i64 E]) ∧ Bt w' (.agg #[.int .i64 n, .slice A on.length c]) n on ∧ Tk w' (.agg #[.bool f, .slice B l.length k]) f l ∧ Below w.heap.size w w' ∧ Newer w.heap.size (.agg #[.int .i64 n, .slice A on.length c]) ∧ Newer w.heap.size (.agg #[.bool f, .slice B l.length k])
set_option maxHeartbeats 8000000 in
set_option maxRecDepth 100000 in
theorem rUnvote_ok (s : ByteArray) (w : World) (hd p q : ByteArray) (hs : s.size ≤ 1000000) (hsp : splitOf s.data.toList 40 2 = (hd.data.toList, txts [p, q], 0)) (d0 d1 d2 d3 d4 : Nat) (hw5 : hd.data.toList = wordsB [d0, d1, d2, d3, d4]) (hb : ∀ x ∈ [d0, d1, d2, d3, d4], x < 18446744073709551616) (hp : p.size ≤ 1000000) (hq : q.size ≤ 1000000) (n : Int) (on : List Int) (f : Bool) (l : List Pr) (hu : unlistOf p.data.toList 2048 = (n, on, 0)) (ht : decB q.data.toList = (0, f, l)) :
    Calls Tryz.prog 14 #[.string s] w (UnvAns d0 d1 d2 d3 d4 n on f l 0 w) := by
  have h40 : hd.size = 40 := by rw [← list_len, hw5, wordsB_length]; rfl
  have a0 : ∀ W, Calls Tryz.prog 42 #[.string hd, .int .i64 0] W fun e w' => e = .returned (.int .u64 (d0 : Int)) ∧ Below W.heap.size W w' := fun W => by
    have := rAt_any hd 0 W (by omega) (by omega)
    rwa [show num8 (hd.extract 0 hd.size) = d0 from at_word hd 0 [d0, d1, d2, d3, d4] 0 hw5 (by simp) hb] at this
  have a1 : ∀ W, Calls Tryz.prog 42 #[.string hd, .int .i64 8] W fun e w' => e = .returned (.int .u64 (d1 : Int)) ∧ Below W.heap.size W w' := fun W => by
    have := rAt_any hd 8 W (by omega) (by omega)
    rwa [show num8 (hd.extract 8 hd.size) = d1 from at_word hd 1 [d0, d1, d2, d3, d4] 0 hw5 (by simp) hb] at this
  have a2 : ∀ W, Calls Tryz.prog 42 #[.string hd, .int .i64 16] W fun e w' => e = .returned (.int .u64 (d2 : Int)) ∧ Below W.heap.size W w' := fun W => by
    have := rAt_any hd 16 W (by omega) (by omega)
    rwa [show num8 (hd.extract 16 hd.size) = d2 from at_word hd 2 [d0, d1, d2, d3, d4] 0 hw5 (by simp) hb] at this
  have a3 : ∀ W, Calls Tryz.prog 42 #[.string hd, .int .i64 24] W fun e w' => e = .returned (.int .u64 (d3 : Int)) ∧ Below W.heap.size W w' := fun W => by
    have := rAt_any hd 24 W (by omega) (by omega)
    rwa [show num8 (hd.extract 24 hd.size) = d3 from at_word hd 3 [d0, d1, d2, d3, d4] 0 hw5 (by simp) hb] at this
  have a4 : ∀ W, Calls Tryz.prog 42 #[.string hd, .int .i64 32] W fun e w' => e = .returned (.int .u64 (d4 : Int)) ∧ Below W.heap.size W w' := fun W => by
    have := rAt_any hd 32 W (by omega) (by omega)
    rwa [show num8 (hd.extract 32 hd.size) = d4 from at_word hd 4 [d0, d1, d2, d3, d4] 0 hw5 (by simp) hb] at this
  have cS := fun W => rSplit_two s 40 hd p q W hs hsp
  have cU := fun W => rUnl_eq p 2048 n 0 on W hu hp
  have cT := fun W => rDec_eq q 0 f l W ht hq
  clear h40 hs hsp hw5 hb hp hq hu ht
  have RV : RowAt (w.alloc (.cells #[.int .u64 0, .int .u64 0, .int .u64 0, .int .u64 0, .int .u64 0, .int .i64 0, .slice none 0 0, .bool false, .slice none 0 0] 32)) w.heap.size 32 [.int .u64 0, .int .u64 0, .int .u64 0, .int .u64 0, .int .u64 0, .int .i64 0, .slice none 0 0, .bool false, .slice none 0 0] := RowAt.new w 32 #[.int .u64 0, .int .u64 0, .int .u64 0, .int .u64 0, .int .u64 0, .int .i64 0, .slice none 0 0, .bool false, .slice none 0 0]
  have b0 : Below w.heap.size w (w.alloc (.cells #[.int .u64 0, .int .u64 0, .int .u64 0, .int .u64 0, .int .u64 0, .int .i64 0, .slice none 0 0, .bool false, .slice none 0 0] 32)) := (Below.refl _ _).alloc (Nat.le_refl _) _
  go_enter Tryz.func14, Tryz.ntmps14
  go_wp2_with fail
  with_reducible refine (cS _).mono ?_
  rintro e w1 ⟨ad, c1, rfl, had, hc1, k0, k1, b1⟩
  replace RV := RV.on b1
  replace b0 := b0.trans (b1.mono b0.size)
  have lt1 : w.heap.size < w1.heap.size := RV.lt
  clear b1 cS
  go_wp2_with fail
  with_reducible refine (cU _).mono ?_
  rintro e w2 ⟨A, c, rfl, tB, b2, nB⟩
  replace RV := RV.on b2
  replace k1 := Cell.on k1 had b2
  replace had := Nat.lt_of_lt_of_le had b2.size
  have nBw := nB.less b0.size
  have hl0 : w.heap.size < w1.heap.size := lt1
  replace b0 := b0.trans (b2.mono b0.size)
  have lt2 : w.heap.size < w2.heap.size := RV.lt
  clear b2 cU k0
  go_upto_region 7 with (fail)
  have RA := RowAt.new w2 27 #[.int .i64 n, .slice A on.length c]
  have b2 := (Below.refl w2.heap.size w2).alloc (Nat.le_refl _) (.cells #[.int .i64 n, .slice A on.length c] 27)
  replace RV := RV.on b2
  replace tB := tB.on b2
  replace k1 := Cell.on k1 had b2
  replace had := Nat.lt_of_lt_of_le had b2.size
  have hl1 : w.heap.size < w2.heap.size := lt2
  replace b0 := b0.trans (b2.mono b0.size)
  clear b2
  generalize w2.heap.size = g at *
  generalize w2.alloc (.cells #[.int .i64 n, .slice A on.length c] 27) = w3 at *
  simp only [Array.toList] at RA
  go_wp2_with fail
  with_reducible refine (cT _).mono ?_
  rintro e w4 ⟨B, k, rfl, tT, b4, nT⟩
  have hl3 : w.heap.size < w3.heap.size := RV.lt
  replace RV := RV.on b4
  replace RA := RA.on b4
  replace tB := tB.on b4
  have nTw := nT.less b0.size
  replace b0 := b0.trans (b4.mono b0.size)
  have hl4 : w.heap.size < w4.heap.size := RV.lt
  clear b4 cT k1 had
  go_upto_region 10 with (fail)
  have RB := RowAt.new w4 30 #[.bool f, .slice B l.length k]
  have b2 := (Below.refl w4.heap.size w4).alloc (Nat.le_refl _) (.cells #[.bool f, .slice B l.length k] 30)
  replace RV := RV.on b2
  replace RA := RA.on b2
  replace tB := tB.on b2
  replace tT := tT.on b2
  replace b0 := b0.trans (b2.mono b0.size)
  clear b2
  generalize w4.heap.size = h at *
  generalize w4.alloc (.cells #[.bool f, .slice B l.length k] 30) = w5 at *
  simp only [Array.toList] at RB
  have f0 : w5.cell? ⟨g, 0, none⟩ = some (.int .i64 n) := (by rw [RA.cell]; rfl)
  have f1 : w5.cell? ⟨g, 1, none⟩ = some (.slice A on.length c) := (by rw [RA.cell]; rfl)
  have f2 : w5.cell? ⟨h, 0, none⟩ = some (.bool f) := (by rw [RB.cell]; rfl)
  have f3 : w5.cell? ⟨h, 1, none⟩ = some (.slice B l.length k) := (by rw [RB.cell]; rfl)
  have g1 : ¬ (w.heap.size = g) := by omega
  have g2 : ¬ (g = w.heap.size) := by omega
  have h1 : ¬ (w.heap.size = h) := by omega
  have h2 : ¬ (h = w.heap.size) := by omega
  have hlA := RA.lt
  have hlB := RB.lt
  have hlV := RV.lt
  go_region_held3 (fun w' => w'.cell? ⟨g, 0, none⟩ = some (.int .i64 n) ∧ w'.cell? ⟨g, 1, none⟩ = some (.slice A on.length c) ∧ w'.cell? ⟨h, 0, none⟩ = some (.bool f) ∧ w'.cell? ⟨h, 1, none⟩ = some (.slice B l.length k)) (first | with_reducible exact ⟨f0, f1, f2, f3⟩ | go_keep)
    (first
      | ((with_reducible refine (a0 _).mono ?_); rintro e y0 ⟨rfl, b1⟩; have B0 : Below w5.heap.size w5 y0 := ((Below.refl w5.heap.size w5).drew).trans b1; clear b1 f0 f1 f2 f3; have f0 : y0.cell? ⟨g, 0, none⟩ = some (.int .i64 n) := (by rw [(RA.below B0 hlA).cell]; rfl); have f1 : y0.cell? ⟨g, 1, none⟩ = some (.slice A on.length c) := (by rw [(RA.below B0 hlA).cell]; rfl); have f2 : y0.cell? ⟨h, 0, none⟩ = some (.bool f) := (by rw [(RB.below B0 hlB).cell]; rfl); have f3 : y0.cell? ⟨h, 1, none⟩ = some (.slice B l.length k) := (by rw [(RB.below B0 hlB).cell]; rfl))
      | ((with_reducible refine (a1 _).mono ?_); rintro e y1 ⟨rfl, b1⟩; have B1 : Below w5.heap.size w5 y1 := (B0).trans (b1.mono (B0).size); clear b1 f0 f1 f2 f3; have f0 : y1.cell? ⟨g, 0, none⟩ = some (.int .i64 n) := (by rw [(RA.below B1 hlA).cell]; rfl); have f1 : y1.cell? ⟨g, 1, none⟩ = some (.slice A on.length c) := (by rw [(RA.below B1 hlA).cell]; rfl); have f2 : y1.cell? ⟨h, 0, none⟩ = some (.bool f) := (by rw [(RB.below B1 hlB).cell]; rfl); have f3 : y1.cell? ⟨h, 1, none⟩ = some (.slice B l.length k) := (by rw [(RB.below B1 hlB).cell]; rfl))
      | ((with_reducible refine (a2 _).mono ?_); rintro e y2 ⟨rfl, b1⟩; have B2 : Below w5.heap.size w5 y2 := (B1).trans (b1.mono (B1).size); clear b1 f0 f1 f2 f3; have f0 : y2.cell? ⟨g, 0, none⟩ = some (.int .i64 n) := (by rw [(RA.below B2 hlA).cell]; rfl); have f1 : y2.cell? ⟨g, 1, none⟩ = some (.slice A on.length c) := (by rw [(RA.below B2 hlA).cell]; rfl); have f2 : y2.cell? ⟨h, 0, none⟩ = some (.bool f) := (by rw [(RB.below B2 hlB).cell]; rfl); have f3 : y2.cell? ⟨h, 1, none⟩ = some (.slice B l.length k) := (by rw [(RB.below B2 hlB).cell]; rfl))
      | ((with_reducible refine (a3 _).mono ?_); rintro e y3 ⟨rfl, b1⟩; have B3 : Below w5.heap.size w5 y3 := (B2).trans (b1.mono (B2).size); clear b1 f0 f1 f2 f3; have f0 : y3.cell? ⟨g, 0, none⟩ = some (.int .i64 n) := (by rw [(RA.below B3 hlA).cell]; rfl); have f1 : y3.cell? ⟨g, 1, none⟩ = some (.slice A on.length c) := (by rw [(RA.below B3 hlA).cell]; rfl); have f2 : y3.cell? ⟨h, 0, none⟩ = some (.bool f) := (by rw [(RB.below B3 hlB).cell]; rfl); have f3 : y3.cell? ⟨h, 1, none⟩ = some (.slice B l.length k) := (by rw [(RB.below B3 hlB).cell]; rfl))
      | ((with_reducible refine (a4 _).mono ?_); rintro e y4 ⟨rfl, b1⟩; have B4 : Below w5.heap.size w5 y4 := (B3).trans (b1.mono (B3).size); clear b1 f0 f1 f2 f3; have f0 : y4.cell? ⟨g, 0, none⟩ = some (.int .i64 n) := (by rw [(RA.below B4 hlA).cell]; rfl); have f1 : y4.cell? ⟨g, 1, none⟩ = some (.slice A on.length c) := (by rw [(RA.below B4 hlA).cell]; rfl); have f2 : y4.cell? ⟨h, 0, none⟩ = some (.bool f) := (by rw [(RB.below B4 hlB).cell]; rfl); have f3 : y4.cell? ⟨h, 1, none⟩ = some (.slice B l.length k) := (by rw [(RB.below B4 hlB).cell]; rfl); have RVe := RV.below B4 hlV; have v0 := RVe.cell 0; have z0 := RVe.frozen 0; have v1 := RVe.cell 1; have z1 := RVe.frozen 1; have v2 := RVe.cell 2; have z2 := RVe.frozen 2; have v3 := RVe.cell 3; have z3 := RVe.frozen 3; have v4 := RVe.cell 4; have z4 := RVe.frozen 4; have v5 := RVe.cell 5; have z5 := RVe.frozen 5; have v6 := RVe.cell 6; have z6 := RVe.frozen 6; have v7 := RVe.cell 7; have z7 := RVe.frozen 7; have v8 := RVe.cell 8; have z8 := RVe.frozen 8; simp only [List.getElem?_cons_succ, List.getElem?_cons_zero] at v0 v1 v2 v3 v4 v5 v6 v7 v8))
  replace tB := tB.on B4
  replace tT := tT.on B4
  replace b0 := b0.trans (B4.mono b0.size)
  have RF := (((((((((RVe.set 0 (.int .u64 (d0 : Int))).set 1 (.int .u64 (d1 : Int))).set 2 (.int .u64 (d2 : Int))).set 3 (.int .u64 (d3 : Int))).set 4 (.int .u64 (d4 : Int))).set 5 (.int .i64 n)).set 6 (.slice A on.length c)).set 7 (.bool f)).set 8 (.slice B l.length k))
  have bF := (((((((((b0.setCell (p := ⟨w.heap.size, 0, none⟩) (Nat.le_refl _) (.int .u64 (d0 : Int))).setCell (p := ⟨w.heap.size, 1, none⟩) (Nat.le_refl _) (.int .u64 (d1 : Int))).setCell (p := ⟨w.heap.size, 2, none⟩) (Nat.le_refl _) (.int .u64 (d2 : Int))).setCell (p := ⟨w.heap.size, 3, none⟩) (Nat.le_refl _) (.int .u64 (d3 : Int))).setCell (p := ⟨w.heap.size, 4, none⟩) (Nat.le_refl _) (.int .u64 (d4 : Int))).setCell (p := ⟨w.heap.size, 5, none⟩) (Nat.le_refl _) (.int .i64 n)).setCell (p := ⟨w.heap.size, 6, none⟩) (Nat.le_refl _) (.slice A on.length c)).setCell (p := ⟨w.heap.size, 7, none⟩) (Nat.le_refl _) (.bool f)).setCell (p := ⟨w.heap.size, 8, none⟩) (Nat.le_refl _) (.slice B l.length k))
  have tBF := (((((((((tB.setNew nB (p := ⟨w.heap.size, 0, none⟩) hl0 (.int .u64 (d0 : Int))).setNew nB (p := ⟨w.heap.size, 1, none⟩) hl0 (.int .u64 (d1 : Int))).setNew nB (p := ⟨w.heap.size, 2, none⟩) hl0 (.int .u64 (d2 : Int))).setNew nB (p := ⟨w.heap.size, 3, none⟩) hl0 (.int .u64 (d3 : Int))).setNew nB (p := ⟨w.heap.size, 4, none⟩) hl0 (.int .u64 (d4 : Int))).setNew nB (p := ⟨w.heap.size, 5, none⟩) hl0 (.int .i64 n)).setNew nB (p := ⟨w.heap.size, 6, none⟩) hl0 (.slice A on.length c)).setNew nB (p := ⟨w.heap.size, 7, none⟩) hl0 (.bool f)).setNew nB (p := ⟨w.heap.size, 8, none⟩) hl0 (.slice B l.length k))
  have tTF := (((((((((tT.setNew nT (p := ⟨w.heap.size, 0, none⟩) hl3 (.int .u64 (d0 : Int))).setNew nT (p := ⟨w.heap.size, 1, none⟩) hl3 (.int .u64 (d1 : Int))).setNew nT (p := ⟨w.heap.size, 2, none⟩) hl3 (.int .u64 (d2 : Int))).setNew nT (p := ⟨w.heap.size, 3, none⟩) hl3 (.int .u64 (d3 : Int))).setNew nT (p := ⟨w.heap.size, 4, none⟩) hl3 (.int .u64 (d4 : Int))).setNew nT (p := ⟨w.heap.size, 5, none⟩) hl3 (.int .i64 n)).setNew nT (p := ⟨w.heap.size, 6, none⟩) hl3 (.slice A on.length c)).setNew nT (p := ⟨w.heap.size, 7, none⟩) hl3 (.bool f)).setNew nT (p := ⟨w.heap.size, 8, none⟩) hl3 (.slice B l.length k))
  simp only [List.set_cons_zero, List.set_cons_succ] at RF
  have e0 := RF.cell 0
  have e1 := RF.cell 1
  have e2 := RF.cell 2
  have e3 := RF.cell 3
  have e4 := RF.cell 4
  have e5 := RF.cell 5
  have e6 := RF.cell 6
  have e7 := RF.cell 7
  have e8 := RF.cell 8
  simp only [List.getElem?_cons_succ, List.getElem?_cons_zero] at e0 e1 e2 e3 e4 e5 e6 e7 e8
  generalize (((((((((y4.setCell ⟨w.heap.size, 0, none⟩ (.int .u64 (d0 : Int))).setCell ⟨w.heap.size, 1, none⟩ (.int .u64 (d1 : Int))).setCell ⟨w.heap.size, 2, none⟩ (.int .u64 (d2 : Int))).setCell ⟨w.heap.size, 3, none⟩ (.int .u64 (d3 : Int))).setCell ⟨w.heap.size, 4, none⟩ (.int .u64 (d4 : Int))).setCell ⟨w.heap.size, 5, none⟩ (.int .i64 n)).setCell ⟨w.heap.size, 6, none⟩ (.slice A on.length c)).setCell ⟨w.heap.size, 7, none⟩ (.bool f)).setCell ⟨w.heap.size, 8, none⟩ (.slice B l.length k)) = wf at *
  go_wp2_with fail
  refine bodyPost_ret (v := .tuple #[.agg #[.int .u64 (d0 : Int), .int .u64 (d1 : Int), .int .u64 (d2 : Int), .int .u64 (d3 : Int), .int .u64 (d4 : Int), .int .i64 n, .slice A on.length c, .bool f, .slice B l.length k], .int .i64 0]) (by simp [results, Tryz.results14, go_sem, e0, e1, e2, e3, e4, e5, e6, e7, e8]) rfl ?_
  exact ⟨A, c, B, k, rfl, tBF, tTF, bF, nBw, nTw⟩
end Go.Proofs.YtieheieiolobaaaGreatDoor

namespace Go.Proofs.YtieheieiolobaaaGreatDoor
open Go.RowKit Go.Shelf

set_option maxHeartbeats 4000000 in
set_option maxRecDepth 100000 in
theorem rUnvote_split (s : ByteArray) (w : World) (hd : ByteArray) (ps : List ByteArray) (y : Int) (hs : s.size ≤ 1000000) (hsp : splitOf s.data.toList 40 2 = (hd.data.toList, txts ps, y)) (hy : (y == 0) = false) :
    Calls Tryz.prog 14 #[.string s] w fun e w' => e = .returned (.tuple #[.agg #[.int .u64 0, .int .u64 0, .int .u64 0, .int .u64 0, .int .u64 0, .int .i64 0, .slice none 0 0, .bool false, .slice none 0 0], .int .i64 y]) ∧ Below w.heap.size w w' := by
  have cS := fun W => rSplit_eq s 40 2 hd ps y W hs hsp
  have hyb : (y != 0) = true := by rw [bne_iff_ne]; exact fun e => by rw [e] at hy; cases hy
  clear hs hsp hy
  have RV : RowAt (w.alloc (.cells #[.int .u64 0, .int .u64 0, .int .u64 0, .int .u64 0, .int .u64 0, .int .i64 0, .slice none 0 0, .bool false, .slice none 0 0] 32)) w.heap.size 32 [.int .u64 0, .int .u64 0, .int .u64 0, .int .u64 0, .int .u64 0, .int .i64 0, .slice none 0 0, .bool false, .slice none 0 0] := RowAt.new w 32 #[.int .u64 0, .int .u64 0, .int .u64 0, .int .u64 0, .int .u64 0, .int .i64 0, .slice none 0 0, .bool false, .slice none 0 0]
  have b0 : Below w.heap.size w (w.alloc (.cells #[.int .u64 0, .int .u64 0, .int .u64 0, .int .u64 0, .int .u64 0, .int .i64 0, .slice none 0 0, .bool false, .slice none 0 0] 32)) := (Below.refl _ _).alloc (Nat.le_refl _) _
  go_enter Tryz.func14, Tryz.ntmps14
  go_wp2_with fail
  with_reducible refine (cS _).mono ?_
  rintro e w1 ⟨A, c, rfl, -, b1⟩
  replace RV := RV.on b1
  replace b0 := b0.trans (b1.mono b0.size)
  clear b1 cS
  have v0 := RV.cell 0
  have z0 := RV.frozen 0
  have v1 := RV.cell 1
  have z1 := RV.frozen 1
  have v2 := RV.cell 2
  have z2 := RV.frozen 2
  have v3 := RV.cell 3
  have z3 := RV.frozen 3
  have v4 := RV.cell 4
  have z4 := RV.frozen 4
  have v5 := RV.cell 5
  have z5 := RV.frozen 5
  have v6 := RV.cell 6
  have z6 := RV.frozen 6
  have v7 := RV.cell 7
  have z7 := RV.frozen 7
  have v8 := RV.cell 8
  have z8 := RV.frozen 8
  simp only [List.getElem?_cons_succ, List.getElem?_cons_zero] at v0 v1 v2 v3 v4 v5 v6 v7 v8
  have RF := (((((((((RV.set 0 (.int .u64 0)).set 1 (.int .u64 0)).set 2 (.int .u64 0)).set 3 (.int .u64 0)).set 4 (.int .u64 0)).set 5 (.int .i64 0)).set 6 (.slice none 0 0)).set 7 (.bool false)).set 8 (.slice none 0 0))
  have bF := (((((((((b0.setCell (p := ⟨w.heap.size, 0, none⟩) (Nat.le_refl _) (.int .u64 0)).setCell (p := ⟨w.heap.size, 1, none⟩) (Nat.le_refl _) (.int .u64 0)).setCell (p := ⟨w.heap.size, 2, none⟩) (Nat.le_refl _) (.int .u64 0)).setCell (p := ⟨w.heap.size, 3, none⟩) (Nat.le_refl _) (.int .u64 0)).setCell (p := ⟨w.heap.size, 4, none⟩) (Nat.le_refl _) (.int .u64 0)).setCell (p := ⟨w.heap.size, 5, none⟩) (Nat.le_refl _) (.int .i64 0)).setCell (p := ⟨w.heap.size, 6, none⟩) (Nat.le_refl _) (.slice none 0 0)).setCell (p := ⟨w.heap.size, 7, none⟩) (Nat.le_refl _) (.bool false)).setCell (p := ⟨w.heap.size, 8, none⟩) (Nat.le_refl _) (.slice none 0 0))
  simp only [List.set_cons_zero, List.set_cons_succ] at RF
  have e0 := RF.cell 0
  have e1 := RF.cell 1
  have e2 := RF.cell 2
  have e3 := RF.cell 3
  have e4 := RF.cell 4
  have e5 := RF.cell 5
  have e6 := RF.cell 6
  have e7 := RF.cell 7
  have e8 := RF.cell 8
  simp only [List.getElem?_cons_succ, List.getElem?_cons_zero] at e0 e1 e2 e3 e4 e5 e6 e7 e8
  go_wp2_with fail
  generalize (((((((((w1.setCell ⟨w.heap.size, 0, none⟩ (.int .u64 0)).setCell ⟨w.heap.size, 1, none⟩ (.int .u64 0)).setCell ⟨w.heap.size, 2, none⟩ (.int .u64 0)).setCell ⟨w.heap.size, 3, none⟩ (.int .u64 0)).setCell ⟨w.heap.size, 4, none⟩ (.int .u64 0)).setCell ⟨w.heap.size, 5, none⟩ (.int .i64 0)).setCell ⟨w.heap.size, 6, none⟩ (.slice none 0 0)).setCell ⟨w.heap.size, 7, none⟩ (.bool false)).setCell ⟨w.heap.size, 8, none⟩ (.slice none 0 0)) = wf at *
  exact bodyPost_ret (v := .tuple #[.agg #[.int .u64 0, .int .u64 0, .int .u64 0, .int .u64 0, .int .u64 0, .int .i64 0, .slice none 0 0, .bool false, .slice none 0 0], .int .i64 y]) (by simp [results, Tryz.results14, go_sem, e0, e1, e2, e3, e4, e5, e6, e7, e8]) rfl ⟨rfl, bF⟩
set_option maxHeartbeats 4000000 in
set_option maxRecDepth 100000 in
theorem rUnvote_unl (s : ByteArray) (w : World) (hd p q : ByteArray) (hs : s.size ≤ 1000000) (hsp : splitOf s.data.toList 40 2 = (hd.data.toList, txts [p, q], 0)) (hp : p.size ≤ 1000000) (n y : Int) (on : List Int) (hu : unlistOf p.data.toList 2048 = (n, on, y)) (hy : (y == 0) = false) :
    Calls Tryz.prog 14 #[.string s] w fun e w' => e = .returned (.tuple #[.agg #[.int .u64 0, .int .u64 0, .int .u64 0, .int .u64 0, .int .u64 0, .int .i64 0, .slice none 0 0, .bool false, .slice none 0 0], .int .i64 y]) ∧ Below w.heap.size w w' := by
  have cS := fun W => rSplit_two s 40 hd p q W hs hsp
  have cU := fun W => rUnl_eq p 2048 n y on W hu hp
  have hyb : (y != 0) = true := by rw [bne_iff_ne]; exact fun e => by rw [e] at hy; cases hy
  clear hs hsp hp hu hy
  have RV : RowAt (w.alloc (.cells #[.int .u64 0, .int .u64 0, .int .u64 0, .int .u64 0, .int .u64 0, .int .i64 0, .slice none 0 0, .bool false, .slice none 0 0] 32)) w.heap.size 32 [.int .u64 0, .int .u64 0, .int .u64 0, .int .u64 0, .int .u64 0, .int .i64 0, .slice none 0 0, .bool false, .slice none 0 0] := RowAt.new w 32 #[.int .u64 0, .int .u64 0, .int .u64 0, .int .u64 0, .int .u64 0, .int .i64 0, .slice none 0 0, .bool false, .slice none 0 0]
  have b0 : Below w.heap.size w (w.alloc (.cells #[.int .u64 0, .int .u64 0, .int .u64 0, .int .u64 0, .int .u64 0, .int .i64 0, .slice none 0 0, .bool false, .slice none 0 0] 32)) := (Below.refl _ _).alloc (Nat.le_refl _) _
  go_enter Tryz.func14, Tryz.ntmps14
  go_wp2_with fail
  with_reducible refine (cS _).mono ?_
  rintro e w1 ⟨ad, c1, rfl, had, hc1, k0, k1, b1⟩
  replace RV := RV.on b1
  replace b0 := b0.trans (b1.mono b0.size)
  clear b1 cS
  go_wp2_with fail
  with_reducible refine (cU _).mono ?_
  rintro e w2 ⟨A, c, rfl, -, b2, -⟩
  replace RV := RV.on b2
  replace b0 := b0.trans (b2.mono b0.size)
  clear b2 cU k0 k1
  go_upto_region 5 with (fail)
  have b2 := (Below.refl w2.heap.size w2).alloc (Nat.le_refl _) (.cells #[.int .i64 n, .slice A on.length c] 27)
  replace RV := RV.on b2
  replace b0 := b0.trans (b2.mono b0.size)
  clear b2
  generalize w2.alloc (.cells #[.int .i64 n, .slice A on.length c] 27) = w3 at *
  have v0 := RV.cell 0
  have z0 := RV.frozen 0
  have v1 := RV.cell 1
  have z1 := RV.frozen 1
  have v2 := RV.cell 2
  have z2 := RV.frozen 2
  have v3 := RV.cell 3
  have z3 := RV.frozen 3
  have v4 := RV.cell 4
  have z4 := RV.frozen 4
  have v5 := RV.cell 5
  have z5 := RV.frozen 5
  have v6 := RV.cell 6
  have z6 := RV.frozen 6
  have v7 := RV.cell 7
  have z7 := RV.frozen 7
  have v8 := RV.cell 8
  have z8 := RV.frozen 8
  simp only [List.getElem?_cons_succ, List.getElem?_cons_zero] at v0 v1 v2 v3 v4 v5 v6 v7 v8
  have RF := (((((((((RV.set 0 (.int .u64 0)).set 1 (.int .u64 0)).set 2 (.int .u64 0)).set 3 (.int .u64 0)).set 4 (.int .u64 0)).set 5 (.int .i64 0)).set 6 (.slice none 0 0)).set 7 (.bool false)).set 8 (.slice none 0 0))
  have bF := (((((((((b0.setCell (p := ⟨w.heap.size, 0, none⟩) (Nat.le_refl _) (.int .u64 0)).setCell (p := ⟨w.heap.size, 1, none⟩) (Nat.le_refl _) (.int .u64 0)).setCell (p := ⟨w.heap.size, 2, none⟩) (Nat.le_refl _) (.int .u64 0)).setCell (p := ⟨w.heap.size, 3, none⟩) (Nat.le_refl _) (.int .u64 0)).setCell (p := ⟨w.heap.size, 4, none⟩) (Nat.le_refl _) (.int .u64 0)).setCell (p := ⟨w.heap.size, 5, none⟩) (Nat.le_refl _) (.int .i64 0)).setCell (p := ⟨w.heap.size, 6, none⟩) (Nat.le_refl _) (.slice none 0 0)).setCell (p := ⟨w.heap.size, 7, none⟩) (Nat.le_refl _) (.bool false)).setCell (p := ⟨w.heap.size, 8, none⟩) (Nat.le_refl _) (.slice none 0 0))
  simp only [List.set_cons_zero, List.set_cons_succ] at RF
  have e0 := RF.cell 0
  have e1 := RF.cell 1
  have e2 := RF.cell 2
  have e3 := RF.cell 3
  have e4 := RF.cell 4
  have e5 := RF.cell 5
  have e6 := RF.cell 6
  have e7 := RF.cell 7
  have e8 := RF.cell 8
  simp only [List.getElem?_cons_succ, List.getElem?_cons_zero] at e0 e1 e2 e3 e4 e5 e6 e7 e8
  go_wp2_with fail
  generalize (((((((((w3.setCell ⟨w.heap.size, 0, none⟩ (.int .u64 0)).setCell ⟨w.heap.size, 1, none⟩ (.int .u64 0)).setCell ⟨w.heap.size, 2, none⟩ (.int .u64 0)).setCell ⟨w.heap.size, 3, none⟩ (.int .u64 0)).setCell ⟨w.heap.size, 4, none⟩ (.int .u64 0)).setCell ⟨w.heap.size, 5, none⟩ (.int .i64 0)).setCell ⟨w.heap.size, 6, none⟩ (.slice none 0 0)).setCell ⟨w.heap.size, 7, none⟩ (.bool false)).setCell ⟨w.heap.size, 8, none⟩ (.slice none 0 0)) = wf at *
  exact bodyPost_ret (v := .tuple #[.agg #[.int .u64 0, .int .u64 0, .int .u64 0, .int .u64 0, .int .u64 0, .int .i64 0, .slice none 0 0, .bool false, .slice none 0 0], .int .i64 y]) (by simp [results, Tryz.results14, go_sem, e0, e1, e2, e3, e4, e5, e6, e7, e8]) rfl ⟨rfl, bF⟩
set_option maxHeartbeats 4000000 in
set_option maxRecDepth 100000 in
theorem rUnvote_dec (s : ByteArray) (w : World) (hd p q : ByteArray) (hs : s.size ≤ 1000000) (hsp : splitOf s.data.toList 40 2 = (hd.data.toList, txts [p, q], 0)) (hp : p.size ≤ 1000000) (hq : q.size ≤ 1000000) (n y : Int) (on : List Int) (hu : unlistOf p.data.toList 2048 = (n, on, 0)) (f : Bool) (l : List Pr) (ht : decB q.data.toList = (y, f, l)) (hy : (y == 0) = false) :
    Calls Tryz.prog 14 #[.string s] w fun e w' => e = .returned (.tuple #[.agg #[.int .u64 0, .int .u64 0, .int .u64 0, .int .u64 0, .int .u64 0, .int .i64 0, .slice none 0 0, .bool false, .slice none 0 0], .int .i64 y]) ∧ Below w.heap.size w w' := by
  have cS := fun W => rSplit_two s 40 hd p q W hs hsp
  have cU := fun W => rUnl_eq p 2048 n 0 on W hu hp
  have cT := fun W => rDec_eq q y f l W ht hq
  have hyb : (y != 0) = true := by rw [bne_iff_ne]; exact fun e => by rw [e] at hy; cases hy
  clear hs hsp hp hq hu ht hy
  have RV : RowAt (w.alloc (.cells #[.int .u64 0, .int .u64 0, .int .u64 0, .int .u64 0, .int .u64 0, .int .i64 0, .slice none 0 0, .bool false, .slice none 0 0] 32)) w.heap.size 32 [.int .u64 0, .int .u64 0, .int .u64 0, .int .u64 0, .int .u64 0, .int .i64 0, .slice none 0 0, .bool false, .slice none 0 0] := RowAt.new w 32 #[.int .u64 0, .int .u64 0, .int .u64 0, .int .u64 0, .int .u64 0, .int .i64 0, .slice none 0 0, .bool false, .slice none 0 0]
  have b0 : Below w.heap.size w (w.alloc (.cells #[.int .u64 0, .int .u64 0, .int .u64 0, .int .u64 0, .int .u64 0, .int .i64 0, .slice none 0 0, .bool false, .slice none 0 0] 32)) := (Below.refl _ _).alloc (Nat.le_refl _) _
  go_enter Tryz.func14, Tryz.ntmps14
  go_wp2_with fail
  with_reducible refine (cS _).mono ?_
  rintro e w1 ⟨ad, c1, rfl, had, hc1, k0, k1, b1⟩
  replace RV := RV.on b1
  replace b0 := b0.trans (b1.mono b0.size)
  clear b1 cS
  go_wp2_with fail
  with_reducible refine (cU _).mono ?_
  rintro e w2 ⟨A, c, rfl, -, b2, -⟩
  replace RV := RV.on b2
  replace k1 := Cell.on k1 had b2
  replace had := Nat.lt_of_lt_of_le had b2.size
  replace b0 := b0.trans (b2.mono b0.size)
  clear b2 cU k0
  go_upto_region 7 with (fail)
  have b2 := (Below.refl w2.heap.size w2).alloc (Nat.le_refl _) (.cells #[.int .i64 n, .slice A on.length c] 27)
  replace RV := RV.on b2
  replace k1 := Cell.on k1 had b2
  replace b0 := b0.trans (b2.mono b0.size)
  clear b2 had
  generalize w2.heap.size = g at *
  generalize w2.alloc (.cells #[.int .i64 n, .slice A on.length c] 27) = w3 at *
  go_wp2_with fail
  with_reducible refine (cT _).mono ?_
  rintro e w4 ⟨B, k, rfl, -, b4, -⟩
  replace RV := RV.on b4
  replace b0 := b0.trans (b4.mono b0.size)
  clear b4 cT k1
  go_upto_region 8 with (fail)
  have b2 := (Below.refl w4.heap.size w4).alloc (Nat.le_refl _) (.cells #[.bool f, .slice B l.length k] 30)
  replace RV := RV.on b2
  replace b0 := b0.trans (b2.mono b0.size)
  clear b2
  generalize w4.alloc (.cells #[.bool f, .slice B l.length k] 30) = w5 at *
  have v0 := RV.cell 0
  have z0 := RV.frozen 0
  have v1 := RV.cell 1
  have z1 := RV.frozen 1
  have v2 := RV.cell 2
  have z2 := RV.frozen 2
  have v3 := RV.cell 3
  have z3 := RV.frozen 3
  have v4 := RV.cell 4
  have z4 := RV.frozen 4
  have v5 := RV.cell 5
  have z5 := RV.frozen 5
  have v6 := RV.cell 6
  have z6 := RV.frozen 6
  have v7 := RV.cell 7
  have z7 := RV.frozen 7
  have v8 := RV.cell 8
  have z8 := RV.frozen 8
  simp only [List.getElem?_cons_succ, List.getElem?_cons_zero] at v0 v1 v2 v3 v4 v5 v6 v7 v8
  have RF := (((((((((RV.set 0 (.int .u64 0)).set 1 (.int .u64 0)).set 2 (.int .u64 0)).set 3 (.int .u64 0)).set 4 (.int .u64 0)).set 5 (.int .i64 0)).set 6 (.slice none 0 0)).set 7 (.bool false)).set 8 (.slice none 0 0))
  have bF := (((((((((b0.setCell (p := ⟨w.heap.size, 0, none⟩) (Nat.le_refl _) (.int .u64 0)).setCell (p := ⟨w.heap.size, 1, none⟩) (Nat.le_refl _) (.int .u64 0)).setCell (p := ⟨w.heap.size, 2, none⟩) (Nat.le_refl _) (.int .u64 0)).setCell (p := ⟨w.heap.size, 3, none⟩) (Nat.le_refl _) (.int .u64 0)).setCell (p := ⟨w.heap.size, 4, none⟩) (Nat.le_refl _) (.int .u64 0)).setCell (p := ⟨w.heap.size, 5, none⟩) (Nat.le_refl _) (.int .i64 0)).setCell (p := ⟨w.heap.size, 6, none⟩) (Nat.le_refl _) (.slice none 0 0)).setCell (p := ⟨w.heap.size, 7, none⟩) (Nat.le_refl _) (.bool false)).setCell (p := ⟨w.heap.size, 8, none⟩) (Nat.le_refl _) (.slice none 0 0))
  simp only [List.set_cons_zero, List.set_cons_succ] at RF
  have e0 := RF.cell 0
  have e1 := RF.cell 1
  have e2 := RF.cell 2
  have e3 := RF.cell 3
  have e4 := RF.cell 4
  have e5 := RF.cell 5
  have e6 := RF.cell 6
  have e7 := RF.cell 7
  have e8 := RF.cell 8
  simp only [List.getElem?_cons_succ, List.getElem?_cons_zero] at e0 e1 e2 e3 e4 e5 e6 e7 e8
  go_wp2_with fail
  generalize (((((((((w5.setCell ⟨w.heap.size, 0, none⟩ (.int .u64 0)).setCell ⟨w.heap.size, 1, none⟩ (.int .u64 0)).setCell ⟨w.heap.size, 2, none⟩ (.int .u64 0)).setCell ⟨w.heap.size, 3, none⟩ (.int .u64 0)).setCell ⟨w.heap.size, 4, none⟩ (.int .u64 0)).setCell ⟨w.heap.size, 5, none⟩ (.int .i64 0)).setCell ⟨w.heap.size, 6, none⟩ (.slice none 0 0)).setCell ⟨w.heap.size, 7, none⟩ (.bool false)).setCell ⟨w.heap.size, 8, none⟩ (.slice none 0 0)) = wf at *
  exact bodyPost_ret (v := .tuple #[.agg #[.int .u64 0, .int .u64 0, .int .u64 0, .int .u64 0, .int .u64 0, .int .i64 0, .slice none 0 0, .bool false, .slice none 0 0], .int .i64 y]) (by simp [results, Tryz.results14, go_sem, e0, e1, e2, e3, e4, e5, e6, e7, e8]) rfl ⟨rfl, bF⟩
theorem rUnvote_of {s : ByteArray} (hs : s.size ≤ 1000000) {d0 d1 d2 d3 d4 : Nat} {n : Int} {on : List Int} {f : Bool} {l : List Pr} (h : IsVote s.data.toList d0 d1 d2 d3 d4 n on f l) (W : World) :
    Calls Tryz.prog 14 #[.string s] W (UnvAns d0 d1 d2 d3 d4 n on f l 0 W) := by
  obtain ⟨hd, ehd⟩ := ba_of (wordsB [d0, d1, d2, d3, d4])
  obtain ⟨p, ep⟩ := ba_of (listOf n on)
  obtain ⟨q, eq⟩ := ba_of (encB f l)
  have hp : p.size ≤ 1000000 := by
    have := right_size h.hr
    rw [← list_len, ep]; omega
  have hq : q.size ≤ 1000000 := by
    have := right_len h.ht
    rw [← list_len, eq, encB_length]; omega
  have g0 := h.h0
  have g1 := h.h1
  have g2 := h.h2
  have g3 := h.h3
  have g4 := h.h4
  exact rUnvote_ok s W hd p q hs (by rw [h.split]; simp [txts, ehd, ep, eq]) d0 d1 d2 d3 d4 ehd (by
    intro x hx
    simp only [List.mem_cons, List.not_mem_nil, or_false] at hx
    omega) hp hq n on f l (by rw [ep]; exact h.unlist) (by rw [eq]; exact h.dec)
theorem rUnvote_cases (s : ByteArray) (hs : s.size ≤ 1000000) : (∃ d0 d1 d2 d3 d4 n on f l, IsVote s.data.toList d0 d1 d2 d3 d4 n on f l) ∨ (∃ y, (y == 0) = false ∧ unvErr s.data.toList = y ∧ ∀ w, Calls Tryz.prog 14 #[.string s] w fun e w' => e = .returned (.tuple #[.agg #[.int .u64 0, .int .u64 0, .int .u64 0, .int .u64 0, .int .u64 0, .int .i64 0, .slice none 0 0, .bool false, .slice none 0 0], .int .i64 y]) ∧ Below w.heap.size w w') := by
  rcases splitOf_cases s.data.toList 40 2 with ⟨a, p, h⟩ | ⟨y, hy, h⟩
  · obtain ⟨_, _, _, _, hs5, ha, hp2, hw⟩ := splitOf_sound h
    obtain ⟨hd, rfl⟩ := ba_of a
    obtain ⟨p0, p1, rfl⟩ := two_of hp2
    have h40 : hd.size = 40 := by rw [← list_len, ha]; rfl
    have hl := wholeOf_length hd.data.toList (txts [p0, p1])
    rw [hw] at hl
    have e2 : sumLen (txts [p0, p1]) = p0.data.toList.length + (p1.data.toList.length + 0) := by simp [txts, sumLen]
    rw [e2, list_len p0, list_len p1] at hl
    have l0 : p0.size ≤ 1000000 := by omega
    have l1 : p1.size ≤ 1000000 := by omega
    obtain ⟨N, on, e, hu⟩ : ∃ N on e, unlistOf p0.data.toList 2048 = (N, on, e) := ⟨_, _, _, rfl⟩
    by_cases he : e = 0
    · subst he
      obtain ⟨y, f, l, hd'⟩ : ∃ y f l, decB p1.data.toList = (y, f, l) := ⟨_, _, _, rfl⟩
      by_cases hy : y = 0
      · subst hy
        left
        obtain ⟨u1, u2, u3⟩ := unlist_right hu
        obtain ⟨t1, t2, t3, t4⟩ := enc_dec hd'
        refine ⟨num8 hd, num8 (left8 hd), num8 (left8 (left8 hd)), num8 (left8 (left8 (left8 hd))), num8 (left8 (left8 (left8 (left8 hd)))), N, on, f, l, ?_, num8_lt _, num8_lt _, num8_lt _, num8_lt _, num8_lt _, u1, ?_, t4⟩
        · unfold voteB
          rw [← words5 h40, u3, t1, ← hw]
          simp [txts]
        · unfold rightT
          rw [t2, decide_eq_true t3]; rfl
      · right
        have hy' : (y == 0) = false := by simpa using hy
        refine ⟨y, hy', ?_, fun W => rUnvote_dec s W hd p0 p1 hs h l0 l1 N y on hu f l hd' hy'⟩
        have g0 : (txts [p0, p1]).getD 0 [] = p0.data.toList := by simp [txts]
        have g1 : (txts [p0, p1]).getD 1 [] = p1.data.toList := by simp [txts]
        unfold unvErr
        rw [h, if_pos rfl, g0, g1, hu, hd', if_pos rfl]
    · right
      have hy' : (e == 0) = false := by simpa using he
      refine ⟨e, hy', ?_, fun W => rUnvote_unl s W hd p0 p1 hs h l0 N e on hu hy'⟩
      have g0 : (txts [p0, p1]).getD 0 [] = p0.data.toList := by simp [txts]
      unfold unvErr
      rw [h, if_pos rfl, g0, hu, if_neg he]
  · right
    have hy' : (y == 0) = false := by simpa using hy
    refine ⟨y, hy', ?_, fun W => rUnvote_split s W ⟨#[]⟩ [] y hs (by rw [h]; simp [txts]) hy'⟩
    unfold unvErr
    rw [h, if_neg hy]
end Go.Proofs.YtieheieiolobaaaGreatDoor

namespace Go.Proofs.YtieheieiolobaaaGreatDoor
open Go.RowKit Go.Shelf

set_option maxHeartbeats 4000000 in
set_option maxRecDepth 100000 in
theorem rUnagg_ok (s : ByteArray) (w : World) (hd p q : ByteArray) (hs : s.size ≤ 1000000) (hsp : splitOf s.data.toList 8 2 = (hd.data.toList, txts [p, q], 0)) (a : Nat) (hw1 : hd.data.toList = wordsB [a]) (hb : a < 18446744073709551616) (hp : p.size ≤ 1000000) (g : Bool) (m : List Pr) (ht : decB p.data.toList = (0, g, m)) (d0 d1 d2 d3 d4 : Nat) (n : Int) (on : List Int) (f : Bool) (l : List Pr) (cV : ∀ W, Calls Tryz.prog 14 #[.string q] W (UnvAns d0 d1 d2 d3 d4 n on f l 0 W)) :
    Calls Tryz.prog 16 #[.string s] w fun e w' => ∃ C j A c B k, e = .returned (.tuple #[.agg #[.int .u64 (a : Int), .bool g, .slice C m.length j, .int .u64 (d0 : Int), .int .u64 (d1 : Int), .int .u64 (d2 : Int), .int .u64 (d3 : Int), .int .u64 (d4 : Int), .int .i64 n, .slice A on.length c, .bool f, .slice B l.length k], .int .i64 0]) ∧ Tk w' (.agg #[.bool g, .slice C m.length j]) g m ∧ Bt w' (.agg #[.int .i64 n, .slice A on.length c]) n on ∧ Tk w' (.agg #[.bool f, .slice B l.length k]) f l ∧ Below w.heap.size w w' := by
  have h8 : hd.size = 8 := by rw [← list_len, hw1, wordsB_length]; rfl
  have a0 : ∀ W, Calls Tryz.prog 42 #[.string hd, .int .i64 0] W fun e w' => e = .returned (.int .u64 (a : Int)) ∧ Below W.heap.size W w' := fun W => by
    have := rAt_any hd 0 W (by omega) (by omega)
    rwa [show num8 (hd.extract 0 hd.size) = a from at_word hd 0 [a] 0 hw1 (by simp) (by intro x hx; simp only [List.mem_singleton] at hx; omega)] at this
  have cS := fun W => rSplit_two s 8 hd p q W hs hsp
  have cT := fun W => rDec_eq p 0 g m W ht hp
  clear h8 hs hsp hw1 hb hp ht
  have RV : RowAt (w.alloc (.cells #[.int .u64 0, .bool false, .slice none 0 0, .int .u64 0, .int .u64 0, .int .u64 0, .int .u64 0, .int .u64 0, .int .i64 0, .slice none 0 0, .bool false, .slice none 0 0] 41)) w.heap.size 41 [.int .u64 0, .bool false, .slice none 0 0, .int .u64 0, .int .u64 0, .int .u64 0, .int .u64 0, .int .u64 0, .int .i64 0, .slice none 0 0, .bool false, .slice none 0 0] := RowAt.new w 41 #[.int .u64 0, .bool false, .slice none 0 0, .int .u64 0, .int .u64 0, .int .u64 0, .int .u64 0, .int .u64 0, .int .i64 0, .slice none 0 0, .bool false, .slice none 0 0]
  have b0 : Below w.heap.size w (w.alloc (.cells #[.int .u64 0, .bool false, .slice none 0 0, .int .u64 0, .int .u64 0, .int .u64 0, .int .u64 0, .int .u64 0, .int .i64 0, .slice none 0 0, .bool false, .slice none 0 0] 41)) := (Below.refl _ _).alloc (Nat.le_refl _) _
  go_enter Tryz.func16, Tryz.ntmps16
  go_wp2_with fail
  with_reducible refine (cS _).mono ?_
  rintro e w1 ⟨ad, c1, rfl, had, hc1, k0, k1, b1⟩
  replace RV := RV.on b1
  replace b0 := b0.trans (b1.mono b0.size)
  have lt1 : w.heap.size < w1.heap.size := RV.lt
  clear b1 cS
  go_wp2_with fail
  with_reducible refine (cT _).mono ?_
  rintro e w2 ⟨C, j, rfl, tP, b2, nP⟩
  replace RV := RV.on b2
  replace k1 := Cell.on k1 had b2
  replace had := Nat.lt_of_lt_of_le had b2.size
  have nPw := nP.less b0.size
  replace b0 := b0.trans (b2.mono b0.size)
  have lt2 : w.heap.size < w2.heap.size := RV.lt
  clear b2 cT k0
  go_upto_region 7 with (fail)
  have RA := RowAt.new w2 30 #[.bool g, .slice C m.length j]
  have b2 := (Below.refl w2.heap.size w2).alloc (Nat.le_refl _) (.cells #[.bool g, .slice C m.length j] 30)
  replace RV := RV.on b2
  replace tP := tP.on b2
  replace k1 := Cell.on k1 had b2
  replace had := Nat.lt_of_lt_of_le had b2.size
  replace b0 := b0.trans (b2.mono b0.size)
  clear b2
  generalize w2.heap.size = G at *
  generalize w2.alloc (.cells #[.bool g, .slice C m.length j] 30) = w3 at *
  simp only [Array.toList] at RA
  go_wp2_with fail
  with_reducible refine (cV _).mono ?_
  rintro e w4 ⟨A, c, B, k, rfl, tB, tT, b4, nB, nT⟩
  have hl3 : w.heap.size < w3.heap.size := RV.lt
  replace RV := RV.on b4
  replace RA := RA.on b4
  replace tP := tP.on b4
  replace b0 := b0.trans (b4.mono b0.size)
  have hl4 : w.heap.size < w4.heap.size := RV.lt
  clear b4 cV k1 had
  go_upto_region 10 with (fail)
  have RB := RowAt.new w4 32 #[.int .u64 (d0 : Int), .int .u64 (d1 : Int), .int .u64 (d2 : Int), .int .u64 (d3 : Int), .int .u64 (d4 : Int), .int .i64 n, .slice A on.length c, .bool f, .slice B l.length k]
  have b2 := (Below.refl w4.heap.size w4).alloc (Nat.le_refl _) (.cells #[.int .u64 (d0 : Int), .int .u64 (d1 : Int), .int .u64 (d2 : Int), .int .u64 (d3 : Int), .int .u64 (d4 : Int), .int .i64 n, .slice A on.length c, .bool f, .slice B l.length k] 32)
  replace RV := RV.on b2
  replace RA := RA.on b2
  replace tP := tP.on b2
  replace tB := tB.on b2
  replace tT := tT.on b2
  replace b0 := b0.trans (b2.mono b0.size)
  clear b2
  generalize w4.heap.size = h at *
  generalize w4.alloc (.cells #[.int .u64 (d0 : Int), .int .u64 (d1 : Int), .int .u64 (d2 : Int), .int .u64 (d3 : Int), .int .u64 (d4 : Int), .int .i64 n, .slice A on.length c, .bool f, .slice B l.length k] 32) = w5 at *
  simp only [Array.toList] at RB
  have f0 : w5.cell? ⟨G, 0, none⟩ = some (.bool g) := (by rw [RA.cell]; rfl)
  have f1 : w5.cell? ⟨G, 1, none⟩ = some (.slice C m.length j) := (by rw [RA.cell]; rfl)
  have f2 : w5.cell? ⟨h, 0, none⟩ = some (.int .u64 (d0 : Int)) := (by rw [RB.cell]; rfl)
  have f3 : w5.cell? ⟨h, 1, none⟩ = some (.int .u64 (d1 : Int)) := (by rw [RB.cell]; rfl)
  have f4 : w5.cell? ⟨h, 2, none⟩ = some (.int .u64 (d2 : Int)) := (by rw [RB.cell]; rfl)
  have f5 : w5.cell? ⟨h, 3, none⟩ = some (.int .u64 (d3 : Int)) := (by rw [RB.cell]; rfl)
  have f6 : w5.cell? ⟨h, 4, none⟩ = some (.int .u64 (d4 : Int)) := (by rw [RB.cell]; rfl)
  have f7 : w5.cell? ⟨h, 5, none⟩ = some (.int .i64 n) := (by rw [RB.cell]; rfl)
  have f8 : w5.cell? ⟨h, 6, none⟩ = some (.slice A on.length c) := (by rw [RB.cell]; rfl)
  have f9 : w5.cell? ⟨h, 7, none⟩ = some (.bool f) := (by rw [RB.cell]; rfl)
  have f10 : w5.cell? ⟨h, 8, none⟩ = some (.slice B l.length k) := (by rw [RB.cell]; rfl)
  have g1 : ¬ (w.heap.size = G) := by omega
  have g2 : ¬ (G = w.heap.size) := by omega
  have h1 : ¬ (w.heap.size = h) := by omega
  have h2 : ¬ (h = w.heap.size) := by omega
  have hlA := RA.lt
  have hlB := RB.lt
  have hlV := RV.lt
  go_region_held3 (fun w' => w'.cell? ⟨G, 0, none⟩ = some (.bool g) ∧ w'.cell? ⟨G, 1, none⟩ = some (.slice C m.length j) ∧ w'.cell? ⟨h, 0, none⟩ = some (.int .u64 (d0 : Int)) ∧ w'.cell? ⟨h, 1, none⟩ = some (.int .u64 (d1 : Int)) ∧ w'.cell? ⟨h, 2, none⟩ = some (.int .u64 (d2 : Int)) ∧ w'.cell? ⟨h, 3, none⟩ = some (.int .u64 (d3 : Int)) ∧ w'.cell? ⟨h, 4, none⟩ = some (.int .u64 (d4 : Int)) ∧ w'.cell? ⟨h, 5, none⟩ = some (.int .i64 n) ∧ w'.cell? ⟨h, 6, none⟩ = some (.slice A on.length c) ∧ w'.cell? ⟨h, 7, none⟩ = some (.bool f) ∧ w'.cell? ⟨h, 8, none⟩ = some (.slice B l.length k)) (first | with_reducible exact ⟨f0, f1, f2, f3, f4, f5, f6, f7, f8, f9, f10⟩ | go_keep)
    (first | ((with_reducible refine (a0 _).mono ?_); rintro e y0 ⟨rfl, b1⟩; have B0 : Below w5.heap.size w5 y0 := ((Below.refl w5.heap.size w5).drew).trans b1; clear b1 f0 f1 f2 f3 f4 f5 f6 f7 f8 f9 f10; have f0 : y0.cell? ⟨G, 0, none⟩ = some (.bool g) := (by rw [(RA.below B0 hlA).cell]; rfl); have f1 : y0.cell? ⟨G, 1, none⟩ = some (.slice C m.length j) := (by rw [(RA.below B0 hlA).cell]; rfl); have f2 : y0.cell? ⟨h, 0, none⟩ = some (.int .u64 (d0 : Int)) := (by rw [(RB.below B0 hlB).cell]; rfl); have f3 : y0.cell? ⟨h, 1, none⟩ = some (.int .u64 (d1 : Int)) := (by rw [(RB.below B0 hlB).cell]; rfl); have f4 : y0.cell? ⟨h, 2, none⟩ = some (.int .u64 (d2 : Int)) := (by rw [(RB.below B0 hlB).cell]; rfl); have f5 : y0.cell? ⟨h, 3, none⟩ = some (.int .u64 (d3 : Int)) := (by rw [(RB.below B0 hlB).cell]; rfl); have f6 : y0.cell? ⟨h, 4, none⟩ = some (.int .u64 (d4 : Int)) := (by rw [(RB.below B0 hlB).cell]; rfl); have f7 : y0.cell? ⟨h, 5, none⟩ = some (.int .i64 n) := (by rw [(RB.below B0 hlB).cell]; rfl); have f8 : y0.cell? ⟨h, 6, none⟩ = some (.slice A on.length c) := (by rw [(RB.below B0 hlB).cell]; rfl); have f9 : y0.cell? ⟨h, 7, none⟩ = some (.bool f) := (by rw [(RB.below B0 hlB).cell]; rfl); have f10 : y0.cell? ⟨h, 8, none⟩ = some (.slice B l.length k) := (by rw [(RB.below B0 hlB).cell]; rfl); have RVe := RV.below B0 hlV; have v0 := RVe.cell 0; have z0 := RVe.frozen 0; have v1 := RVe.cell 1; have z1 := RVe.frozen 1; have v2 := RVe.cell 2; have z2 := RVe.frozen 2; have v3 := RVe.cell 3; have z3 := RVe.frozen 3; have v4 := RVe.cell 4; have z4 := RVe.frozen 4; have v5 := RVe.cell 5; have z5 := RVe.frozen 5; have v6 := RVe.cell 6; have z6 := RVe.frozen 6; have v7 := RVe.cell 7; have z7 := RVe.frozen 7; have v8 := RVe.cell 8; have z8 := RVe.frozen 8; have v9 := RVe.cell 9; have z9 := RVe.frozen 9; have v10 := RVe.cell 10; have z10 := RVe.frozen 10; have v11 := RVe.cell 11; have z11 := RVe.frozen 11; simp only [List.getElem?_cons_succ, List.getElem?_cons_zero] at v0 v1 v2 v3 v4 v5 v6 v7 v8 v9 v10 v11))
  replace tP := tP.on B0
  replace tB := tB.on B0
  replace tT := tT.on B0
  replace b0 := b0.trans (B0.mono b0.size)
  have RF := ((((((((((((RVe.set 0 (.int .u64 (a : Int))).set 1 (.bool g)).set 2 (.slice C m.length j)).set 3 (.int .u64 (d0 : Int))).set 4 (.int .u64 (d1 : Int))).set 5 (.int .u64 (d2 : Int))).set 6 (.int .u64 (d3 : Int))).set 7 (.int .u64 (d4 : Int))).set 8 (.int .i64 n)).set 9 (.slice A on.length c)).set 10 (.bool f)).set 11 (.slice B l.length k))
  have bF := ((((((((((((b0.setCell (p := ⟨w.heap.size, 0, none⟩) (Nat.le_refl _) (.int .u64 (a : Int))).setCell (p := ⟨w.heap.size, 1, none⟩) (Nat.le_refl _) (.bool g)).setCell (p := ⟨w.heap.size, 2, none⟩) (Nat.le_refl _) (.slice C m.length j)).setCell (p := ⟨w.heap.size, 3, none⟩) (Nat.le_refl _) (.int .u64 (d0 : Int))).setCell (p := ⟨w.heap.size, 4, none⟩) (Nat.le_refl _) (.int .u64 (d1 : Int))).setCell (p := ⟨w.heap.size, 5, none⟩) (Nat.le_refl _) (.int .u64 (d2 : Int))).setCell (p := ⟨w.heap.size, 6, none⟩) (Nat.le_refl _) (.int .u64 (d3 : Int))).setCell (p := ⟨w.heap.size, 7, none⟩) (Nat.le_refl _) (.int .u64 (d4 : Int))).setCell (p := ⟨w.heap.size, 8, none⟩) (Nat.le_refl _) (.int .i64 n)).setCell (p := ⟨w.heap.size, 9, none⟩) (Nat.le_refl _) (.slice A on.length c)).setCell (p := ⟨w.heap.size, 10, none⟩) (Nat.le_refl _) (.bool f)).setCell (p := ⟨w.heap.size, 11, none⟩) (Nat.le_refl _) (.slice B l.length k))
  have tPF := ((((((((((((tP.setNew nP (p := ⟨w.heap.size, 0, none⟩) lt1 (.int .u64 (a : Int))).setNew nP (p := ⟨w.heap.size, 1, none⟩) lt1 (.bool g)).setNew nP (p := ⟨w.heap.size, 2, none⟩) lt1 (.slice C m.length j)).setNew nP (p := ⟨w.heap.size, 3, none⟩) lt1 (.int .u64 (d0 : Int))).setNew nP (p := ⟨w.heap.size, 4, none⟩) lt1 (.int .u64 (d1 : Int))).setNew nP (p := ⟨w.heap.size, 5, none⟩) lt1 (.int .u64 (d2 : Int))).setNew nP (p := ⟨w.heap.size, 6, none⟩) lt1 (.int .u64 (d3 : Int))).setNew nP (p := ⟨w.heap.size, 7, none⟩) lt1 (.int .u64 (d4 : Int))).setNew nP (p := ⟨w.heap.size, 8, none⟩) lt1 (.int .i64 n)).setNew nP (p := ⟨w.heap.size, 9, none⟩) lt1 (.slice A on.length c)).setNew nP (p := ⟨w.heap.size, 10, none⟩) lt1 (.bool f)).setNew nP (p := ⟨w.heap.size, 11, none⟩) lt1 (.slice B l.length k))
  have tBF := ((((((((((((tB.setNew nB (p := ⟨w.heap.size, 0, none⟩) hl3 (.int .u64 (a : Int))).setNew nB (p := ⟨w.heap.size, 1, none⟩) hl3 (.bool g)).setNew nB (p := ⟨w.heap.size, 2, none⟩) hl3 (.slice C m.length j)).setNew nB (p := ⟨w.heap.size, 3, none⟩) hl3 (.int .u64 (d0 : Int))).setNew nB (p := ⟨w.heap.size, 4, none⟩) hl3 (.int .u64 (d1 : Int))).setNew nB (p := ⟨w.heap.size, 5, none⟩) hl3 (.int .u64 (d2 : Int))).setNew nB (p := ⟨w.heap.size, 6, none⟩) hl3 (.int .u64 (d3 : Int))).setNew nB (p := ⟨w.heap.size, 7, none⟩) hl3 (.int .u64 (d4 : Int))).setNew nB (p := ⟨w.heap.size, 8, none⟩) hl3 (.int .i64 n)).setNew nB (p := ⟨w.heap.size, 9, none⟩) hl3 (.slice A on.length c)).setNew nB (p := ⟨w.heap.size, 10, none⟩) hl3 (.bool f)).setNew nB (p := ⟨w.heap.size, 11, none⟩) hl3 (.slice B l.length k))
  have tTF := ((((((((((((tT.setNew nT (p := ⟨w.heap.size, 0, none⟩) hl3 (.int .u64 (a : Int))).setNew nT (p := ⟨w.heap.size, 1, none⟩) hl3 (.bool g)).setNew nT (p := ⟨w.heap.size, 2, none⟩) hl3 (.slice C m.length j)).setNew nT (p := ⟨w.heap.size, 3, none⟩) hl3 (.int .u64 (d0 : Int))).setNew nT (p := ⟨w.heap.size, 4, none⟩) hl3 (.int .u64 (d1 : Int))).setNew nT (p := ⟨w.heap.size, 5, none⟩) hl3 (.int .u64 (d2 : Int))).setNew nT (p := ⟨w.heap.size, 6, none⟩) hl3 (.int .u64 (d3 : Int))).setNew nT (p := ⟨w.heap.size, 7, none⟩) hl3 (.int .u64 (d4 : Int))).setNew nT (p := ⟨w.heap.size, 8, none⟩) hl3 (.int .i64 n)).setNew nT (p := ⟨w.heap.size, 9, none⟩) hl3 (.slice A on.length c)).setNew nT (p := ⟨w.heap.size, 10, none⟩) hl3 (.bool f)).setNew nT (p := ⟨w.heap.size, 11, none⟩) hl3 (.slice B l.length k))
  simp only [List.set_cons_zero, List.set_cons_succ] at RF
  have e0 := RF.cell 0
  have e1 := RF.cell 1
  have e2 := RF.cell 2
  have e3 := RF.cell 3
  have e4 := RF.cell 4
  have e5 := RF.cell 5
  have e6 := RF.cell 6
  have e7 := RF.cell 7
  have e8 := RF.cell 8
  have e9 := RF.cell 9
  have e10 := RF.cell 10
  have e11 := RF.cell 11
  simp only [List.getElem?_cons_succ, List.getElem?_cons_zero] at e0 e1 e2 e3 e4 e5 e6 e7 e8 e9 e10 e11
  generalize ((((((((((((y0.setCell ⟨w.heap.size, 0, none⟩ (.int .u64 (a : Int))).setCell ⟨w.heap.size, 1, none⟩ (.bool g)).setCell ⟨w.heap.size, 2, none⟩ (.slice C m.length j)).setCell ⟨w.heap.size, 3, none⟩ (.int .u64 (d0 : Int))).setCell ⟨w.heap.size, 4, none⟩ (.int .u64 (d1 : Int))).setCell ⟨w.heap.size, 5, none⟩ (.int .u64 (d2 : Int))).setCell ⟨w.heap.size, 6, none⟩ (.int .u64 (d3 : Int))).setCell ⟨w.heap.size, 7, none⟩ (.int .u64 (d4 : Int))).setCell ⟨w.heap.size, 8, none⟩ (.int .i64 n)).setCell ⟨w.heap.size, 9, none⟩ (.slice A on.length c)).setCell ⟨w.heap.size, 10, none⟩ (.bool f)).setCell ⟨w.heap.size, 11, none⟩ (.slice B l.length k)) = wf at *
  go_wp2_with fail
  refine bodyPost_ret (v := .tuple #[.agg #[.int .u64 (a : Int), .bool g, .slice C m.length j, .int .u64 (d0 : Int), .int .u64 (d1 : Int), .int .u64 (d2 : Int), .int .u64 (d3 : Int), .int .u64 (d4 : Int), .int .i64 n, .slice A on.length c, .bool f, .slice B l.length k], .int .i64 0]) (by simp [results, Tryz.results16, go_sem, e0, e1, e2, e3, e4, e5, e6, e7, e8, e9, e10, e11]) rfl ?_
  exact ⟨C, j, A, c, B, k, rfl, tPF, tBF, tTF, bF⟩
set_option maxHeartbeats 4000000 in
set_option maxRecDepth 100000 in
theorem rUnagg_split (s : ByteArray) (w : World) (hd : ByteArray) (ps : List ByteArray) (y : Int) (hs : s.size ≤ 1000000) (hsp : splitOf s.data.toList 8 2 = (hd.data.toList, txts ps, y)) (hy : (y == 0) = false) :
    Calls Tryz.prog 16 #[.string s] w fun e w' => e = .returned (.tuple #[.agg #[.int .u64 0, .bool false, .slice none 0 0, .int .u64 0, .int .u64 0, .int .u64 0, .int .u64 0, .int .u64 0, .int .i64 0, .slice none 0 0, .bool false, .slice none 0 0], .int .i64 y]) ∧ Below w.heap.size w w' := by
  have cS := fun W => rSplit_eq s 8 2 hd ps y W hs hsp
  have hyb : (y != 0) = true := by rw [bne_iff_ne]; exact fun e => by rw [e] at hy; cases hy
  clear hs hsp hy
  have RV : RowAt (w.alloc (.cells #[.int .u64 0, .bool false, .slice none 0 0, .int .u64 0, .int .u64 0, .int .u64 0, .int .u64 0, .int .u64 0, .int .i64 0, .slice none 0 0, .bool false, .slice none 0 0] 41)) w.heap.size 41 [.int .u64 0, .bool false, .slice none 0 0, .int .u64 0, .int .u64 0, .int .u64 0, .int .u64 0, .int .u64 0, .int .i64 0, .slice none 0 0, .bool false, .slice none 0 0] := RowAt.new w 41 #[.int .u64 0, .bool false, .slice none 0 0, .int .u64 0, .int .u64 0, .int .u64 0, .int .u64 0, .int .u64 0, .int .i64 0, .slice none 0 0, .bool false, .slice none 0 0]
  have b0 : Below w.heap.size w (w.alloc (.cells #[.int .u64 0, .bool false, .slice none 0 0, .int .u64 0, .int .u64 0, .int .u64 0, .int .u64 0, .int .u64 0, .int .i64 0, .slice none 0 0, .bool false, .slice none 0 0] 41)) := (Below.refl _ _).alloc (Nat.le_refl _) _
  go_enter Tryz.func16, Tryz.ntmps16
  go_wp2_with fail
  with_reducible refine (cS _).mono ?_
  rintro e w1 ⟨A, c, rfl, -, b1⟩
  replace RV := RV.on b1
  replace b0 := b0.trans (b1.mono b0.size)
  clear b1 cS
  have v0 := RV.cell 0
  have z0 := RV.frozen 0
  have v1 := RV.cell 1
  have z1 := RV.frozen 1
  have v2 := RV.cell 2
  have z2 := RV.frozen 2
  have v3 := RV.cell 3
  have z3 := RV.frozen 3
  have v4 := RV.cell 4
  have z4 := RV.frozen 4
  have v5 := RV.cell 5
  have z5 := RV.frozen 5
  have v6 := RV.cell 6
  have z6 := RV.frozen 6
  have v7 := RV.cell 7
  have z7 := RV.frozen 7
  have v8 := RV.cell 8
  have z8 := RV.frozen 8
  have v9 := RV.cell 9
  have z9 := RV.frozen 9
  have v10 := RV.cell 10
  have z10 := RV.frozen 10
  have v11 := RV.cell 11
  have z11 := RV.frozen 11
  simp only [List.getElem?_cons_succ, List.getElem?_cons_zero] at v0 v1 v2 v3 v4 v5 v6 v7 v8 v9 v10 v11
  have RF := ((((((((((((RV.set 0 (.int .u64 0)).set 1 (.bool false)).set 2 (.slice none 0 0)).set 3 (.int .u64 0)).set 4 (.int .u64 0)).set 5 (.int .u64 0)).set 6 (.int .u64 0)).set 7 (.int .u64 0)).set 8 (.int .i64 0)).set 9 (.slice none 0 0)).set 10 (.bool false)).set 11 (.slice none 0 0))
  have bF := ((((((((((((b0.setCell (p := ⟨w.heap.size, 0, none⟩) (Nat.le_refl _) (.int .u64 0)).setCell (p := ⟨w.heap.size, 1, none⟩) (Nat.le_refl _) (.bool false)).setCell (p := ⟨w.heap.size, 2, none⟩) (Nat.le_refl _) (.slice none 0 0)).setCell (p := ⟨w.heap.size, 3, none⟩) (Nat.le_refl _) (.int .u64 0)).setCell (p := ⟨w.heap.size, 4, none⟩) (Nat.le_refl _) (.int .u64 0)).setCell (p := ⟨w.heap.size, 5, none⟩) (Nat.le_refl _) (.int .u64 0)).setCell (p := ⟨w.heap.size, 6, none⟩) (Nat.le_refl _) (.int .u64 0)).setCell (p := ⟨w.heap.size, 7, none⟩) (Nat.le_refl _) (.int .u64 0)).setCell (p := ⟨w.heap.size, 8, none⟩) (Nat.le_refl _) (.int .i64 0)).setCell (p := ⟨w.heap.size, 9, none⟩) (Nat.le_refl _) (.slice none 0 0)).setCell (p := ⟨w.heap.size, 10, none⟩) (Nat.le_refl _) (.bool false)).setCell (p := ⟨w.heap.size, 11, none⟩) (Nat.le_refl _) (.slice none 0 0))
  simp only [List.set_cons_zero, List.set_cons_succ] at RF
  have e0 := RF.cell 0
  have e1 := RF.cell 1
  have e2 := RF.cell 2
  have e3 := RF.cell 3
  have e4 := RF.cell 4
  have e5 := RF.cell 5
  have e6 := RF.cell 6
  have e7 := RF.cell 7
  have e8 := RF.cell 8
  have e9 := RF.cell 9
  have e10 := RF.cell 10
  have e11 := RF.cell 11
  simp only [List.getElem?_cons_succ, List.getElem?_cons_zero] at e0 e1 e2 e3 e4 e5 e6 e7 e8 e9 e10 e11
  go_wp2_with fail
  generalize ((((((((((((w1.setCell ⟨w.heap.size, 0, none⟩ (.int .u64 0)).setCell ⟨w.heap.size, 1, none⟩ (.bool false)).setCell ⟨w.heap.size, 2, none⟩ (.slice none 0 0)).setCell ⟨w.heap.size, 3, none⟩ (.int .u64 0)).setCell ⟨w.heap.size, 4, none⟩ (.int .u64 0)).setCell ⟨w.heap.size, 5, none⟩ (.int .u64 0)).setCell ⟨w.heap.size, 6, none⟩ (.int .u64 0)).setCell ⟨w.heap.size, 7, none⟩ (.int .u64 0)).setCell ⟨w.heap.size, 8, none⟩ (.int .i64 0)).setCell ⟨w.heap.size, 9, none⟩ (.slice none 0 0)).setCell ⟨w.heap.size, 10, none⟩ (.bool false)).setCell ⟨w.heap.size, 11, none⟩ (.slice none 0 0)) = wf at *
  exact bodyPost_ret (v := .tuple #[.agg #[.int .u64 0, .bool false, .slice none 0 0, .int .u64 0, .int .u64 0, .int .u64 0, .int .u64 0, .int .u64 0, .int .i64 0, .slice none 0 0, .bool false, .slice none 0 0], .int .i64 y]) (by simp [results, Tryz.results16, go_sem, e0, e1, e2, e3, e4, e5, e6, e7, e8, e9, e10, e11]) rfl ⟨rfl, bF⟩
set_option maxHeartbeats 4000000 in
set_option maxRecDepth 100000 in
theorem rUnagg_tok (s : ByteArray) (w : World) (hd p q : ByteArray) (hs : s.size ≤ 1000000) (hsp : splitOf s.data.toList 8 2 = (hd.data.toList, txts [p, q], 0)) (hp : p.size ≤ 1000000) (y : Int) (g : Bool) (m : List Pr) (ht : decB p.data.toList = (y, g, m)) (hy : (y == 0) = false) :
    Calls Tryz.prog 16 #[.string s] w fun e w' => e = .returned (.tuple #[.agg #[.int .u64 0, .bool false, .slice none 0 0, .int .u64 0, .int .u64 0, .int .u64 0, .int .u64 0, .int .u64 0, .int .i64 0, .slice none 0 0, .bool false, .slice none 0 0], .int .i64 y]) ∧ Below w.heap.size w w' := by
  have cS := fun W => rSplit_two s 8 hd p q W hs hsp
  have cT := fun W => rDec_eq p y g m W ht hp
  have hyb : (y != 0) = true := by rw [bne_iff_ne]; exact fun e => by rw [e] at hy; cases hy
  clear hs hsp hp ht hy
  have RV : RowAt (w.alloc (.cells #[.int .u64 0, .bool false, .slice none 0 0, .int .u64 0, .int .u64 0, .int .u64 0, .int .u64 0, .int .u64 0, .int .i64 0, .slice none 0 0, .bool false, .slice none 0 0] 41)) w.heap.size 41 [.int .u64 0, .bool false, .slice none 0 0, .int .u64 0, .int .u64 0, .int .u64 0, .int .u64 0, .int .u64 0, .int .i64 0, .slice none 0 0, .bool false, .slice none 0 0] := RowAt.new w 41 #[.int .u64 0, .bool false, .slice none 0 0, .int .u64 0, .int .u64 0, .int .u64 0, .int .u64 0, .int .u64 0, .int .i64 0, .slice none 0 0, .bool false, .slice none 0 0]
  have b0 : Below w.heap.size w (w.alloc (.cells #[.int .u64 0, .bool false, .slice none 0 0, .int .u64 0, .int .u64 0, .int .u64 0, .int .u64 0, .int .u64 0, .int .i64 0, .slice none 0 0, .bool false, .slice none 0 0] 41)) := (Below.refl _ _).alloc (Nat.le_refl _) _
  go_enter Tryz.func16, Tryz.ntmps16
  go_wp2_with fail
  with_reducible refine (cS _).mono ?_
  rintro e w1 ⟨ad, c1, rfl, had, hc1, k0, k1, b1⟩
  replace RV := RV.on b1
  replace b0 := b0.trans (b1.mono b0.size)
  clear b1 cS
  go_wp2_with fail
  with_reducible refine (cT _).mono ?_
  rintro e w2 ⟨A, c, rfl, -, b2, -⟩
  replace RV := RV.on b2
  replace b0 := b0.trans (b2.mono b0.size)
  clear b2 cT k0 k1
  go_upto_region 5 with (fail)
  have b2 := (Below.refl w2.heap.size w2).alloc (Nat.le_refl _) (.cells #[.bool g, .slice A m.length c] 30)
  replace RV := RV.on b2
  replace b0 := b0.trans (b2.mono b0.size)
  clear b2
  generalize w2.alloc (.cells #[.bool g, .slice A m.length c] 30) = w3 at *
  have v0 := RV.cell 0
  have z0 := RV.frozen 0
  have v1 := RV.cell 1
  have z1 := RV.frozen 1
  have v2 := RV.cell 2
  have z2 := RV.frozen 2
  have v3 := RV.cell 3
  have z3 := RV.frozen 3
  have v4 := RV.cell 4
  have z4 := RV.frozen 4
  have v5 := RV.cell 5
  have z5 := RV.frozen 5
  have v6 := RV.cell 6
  have z6 := RV.frozen 6
  have v7 := RV.cell 7
  have z7 := RV.frozen 7
  have v8 := RV.cell 8
  have z8 := RV.frozen 8
  have v9 := RV.cell 9
  have z9 := RV.frozen 9
  have v10 := RV.cell 10
  have z10 := RV.frozen 10
  have v11 := RV.cell 11
  have z11 := RV.frozen 11
  simp only [List.getElem?_cons_succ, List.getElem?_cons_zero] at v0 v1 v2 v3 v4 v5 v6 v7 v8 v9 v10 v11
  have RF := ((((((((((((RV.set 0 (.int .u64 0)).set 1 (.bool false)).set 2 (.slice none 0 0)).set 3 (.int .u64 0)).set 4 (.int .u64 0)).set 5 (.int .u64 0)).set 6 (.int .u64 0)).set 7 (.int .u64 0)).set 8 (.int .i64 0)).set 9 (.slice none 0 0)).set 10 (.bool false)).set 11 (.slice none 0 0))
  have bF := ((((((((((((b0.setCell (p := ⟨w.heap.size, 0, none⟩) (Nat.le_refl _) (.int .u64 0)).setCell (p := ⟨w.heap.size, 1, none⟩) (Nat.le_refl _) (.bool false)).setCell (p := ⟨w.heap.size, 2, none⟩) (Nat.le_refl _) (.slice none 0 0)).setCell (p := ⟨w.heap.size, 3, none⟩) (Nat.le_refl _) (.int .u64 0)).setCell (p := ⟨w.heap.size, 4, none⟩) (Nat.le_refl _) (.int .u64 0)).setCell (p := ⟨w.heap.size, 5, none⟩) (Nat.le_refl _) (.int .u64 0)).setCell (p := ⟨w.heap.size, 6, none⟩) (Nat.le_refl _) (.int .u64 0)).setCell (p := ⟨w.heap.size, 7, none⟩) (Nat.le_refl _) (.int .u64 0)).setCell (p := ⟨w.heap.size, 8, none⟩) (Nat.le_refl _) (.int .i64 0)).setCell (p := ⟨w.heap.size, 9, none⟩) (Nat.le_refl _) (.slice none 0 0)).setCell (p := ⟨w.heap.size, 10, none⟩) (Nat.le_refl _) (.bool false)).setCell (p := ⟨w.heap.size, 11, none⟩) (Nat.le_refl _) (.slice none 0 0))
  simp only [List.set_cons_zero, List.set_cons_succ] at RF
  have e0 := RF.cell 0
  have e1 := RF.cell 1
  have e2 := RF.cell 2
  have e3 := RF.cell 3
  have e4 := RF.cell 4
  have e5 := RF.cell 5
  have e6 := RF.cell 6
  have e7 := RF.cell 7
  have e8 := RF.cell 8
  have e9 := RF.cell 9
  have e10 := RF.cell 10
  have e11 := RF.cell 11
  simp only [List.getElem?_cons_succ, List.getElem?_cons_zero] at e0 e1 e2 e3 e4 e5 e6 e7 e8 e9 e10 e11
  go_wp2_with fail
  generalize ((((((((((((w3.setCell ⟨w.heap.size, 0, none⟩ (.int .u64 0)).setCell ⟨w.heap.size, 1, none⟩ (.bool false)).setCell ⟨w.heap.size, 2, none⟩ (.slice none 0 0)).setCell ⟨w.heap.size, 3, none⟩ (.int .u64 0)).setCell ⟨w.heap.size, 4, none⟩ (.int .u64 0)).setCell ⟨w.heap.size, 5, none⟩ (.int .u64 0)).setCell ⟨w.heap.size, 6, none⟩ (.int .u64 0)).setCell ⟨w.heap.size, 7, none⟩ (.int .u64 0)).setCell ⟨w.heap.size, 8, none⟩ (.int .i64 0)).setCell ⟨w.heap.size, 9, none⟩ (.slice none 0 0)).setCell ⟨w.heap.size, 10, none⟩ (.bool false)).setCell ⟨w.heap.size, 11, none⟩ (.slice none 0 0)) = wf at *
  exact bodyPost_ret (v := .tuple #[.agg #[.int .u64 0, .bool false, .slice none 0 0, .int .u64 0, .int .u64 0, .int .u64 0, .int .u64 0, .int .u64 0, .int .i64 0, .slice none 0 0, .bool false, .slice none 0 0], .int .i64 y]) (by simp [results, Tryz.results16, go_sem, e0, e1, e2, e3, e4, e5, e6, e7, e8, e9, e10, e11]) rfl ⟨rfl, bF⟩
set_option maxHeartbeats 4000000 in
set_option maxRecDepth 100000 in
theorem rUnagg_vote (s : ByteArray) (w : World) (hd p q : ByteArray) (hs : s.size ≤ 1000000) (hsp : splitOf s.data.toList 8 2 = (hd.data.toList, txts [p, q], 0)) (hp : p.size ≤ 1000000) (g : Bool) (m : List Pr) (ht : decB p.data.toList = (0, g, m)) (y : Int) (hy : (y == 0) = false) (cV : ∀ w, Calls Tryz.prog 14 #[.string q] w fun e w' => e = .returned (.tuple #[.agg #[.int .u64 0, .int .u64 0, .int .u64 0, .int .u64 0, .int .u64 0, .int .i64 0, .slice none 0 0, .bool false, .slice none 0 0], .int .i64 y]) ∧ Below w.heap.size w w') :
    Calls Tryz.prog 16 #[.string s] w fun e w' => e = .returned (.tuple #[.agg #[.int .u64 0, .bool false, .slice none 0 0, .int .u64 0, .int .u64 0, .int .u64 0, .int .u64 0, .int .u64 0, .int .i64 0, .slice none 0 0, .bool false, .slice none 0 0], .int .i64 y]) ∧ Below w.heap.size w w' := by
  have cS := fun W => rSplit_two s 8 hd p q W hs hsp
  have cT := fun W => rDec_eq p 0 g m W ht hp
  have hyb : (y != 0) = true := by rw [bne_iff_ne]; exact fun e => by rw [e] at hy; cases hy
  clear hs hsp hp ht hy
  have RV : RowAt (w.alloc (.cells #[.int .u64 0, .bool false, .slice none 0 0, .int .u64 0, .int .u64 0, .int .u64 0, .int .u64 0, .int .u64 0, .int .i64 0, .slice none 0 0, .bool false, .slice none 0 0] 41)) w.heap.size 41 [.int .u64 0, .bool false, .slice none 0 0, .int .u64 0, .int .u64 0, .int .u64 0, .int .u64 0, .int .u64 0, .int .i64 0, .slice none 0 0, .bool false, .slice none 0 0] := RowAt.new w 41 #[.int .u64 0, .bool false, .slice none 0 0, .int .u64 0, .int .u64 0, .int .u64 0, .int .u64 0, .int .u64 0, .int .i64 0, .slice none 0 0, .bool false, .slice none 0 0]
  have b0 : Below w.heap.size w (w.alloc (.cells #[.int .u64 0, .bool false, .slice none 0 0, .int .u64 0, .int .u64 0, .int .u64 0, .int .u64 0, .int .u64 0, .int .i64 0, .slice none 0 0, .bool false, .slice none 0 0] 41)) := (Below.refl _ _).alloc (Nat.le_refl _) _
  go_enter Tryz.func16, Tryz.ntmps16
  go_wp2_with fail
  with_reducible refine (cS _).mono ?_
  rintro e w1 ⟨ad, c1, rfl, had, hc1, k0, k1, b1⟩
  replace RV := RV.on b1
  replace b0 := b0.trans (b1.mono b0.size)
  clear b1 cS
  go_wp2_with fail
  with_reducible refine (cT _).mono ?_
  rintro e w2 ⟨A, c, rfl, -, b2, -⟩
  replace RV := RV.on b2
  replace k1 := Cell.on k1 had b2
  replace had := Nat.lt_of_lt_of_le had b2.size
  replace b0 := b0.trans (b2.mono b0.size)
  clear b2 cT k0
  go_upto_region 7 with (fail)
  have b2 := (Below.refl w2.heap.size w2).alloc (Nat.le_refl _) (.cells #[.bool g, .slice A m.length c] 30)
  replace RV := RV.on b2
  replace k1 := Cell.on k1 had b2
  replace b0 := b0.trans (b2.mono b0.size)
  clear b2 had
  generalize w2.heap.size = G at *
  generalize w2.alloc (.cells #[.bool g, .slice A m.length c] 30) = w3 at *
  go_wp2_with fail
  with_reducible refine (cV _).mono ?_
  rintro e w4 ⟨rfl, b4⟩
  replace RV := RV.on b4
  replace b0 := b0.trans (b4.mono b0.size)
  clear b4 cV k1
  go_upto_region 8 with (fail)
  have b2 := (Below.refl w4.heap.size w4).alloc (Nat.le_refl _) (.cells #[.int .u64 0, .int .u64 0, .int .u64 0, .int .u64 0, .int .u64 0, .int .i64 0, .slice none 0 0, .bool false, .slice none 0 0] 32)
  replace RV := RV.on b2
  replace b0 := b0.trans (b2.mono b0.size)
  clear b2
  generalize w4.alloc (.cells #[.int .u64 0, .int .u64 0, .int .u64 0, .int .u64 0, .int .u64 0, .int .i64 0, .slice none 0 0, .bool false, .slice none 0 0] 32) = w5 at *
  have v0 := RV.cell 0
  have z0 := RV.frozen 0
  have v1 := RV.cell 1
  have z1 := RV.frozen 1
  have v2 := RV.cell 2
  have z2 := RV.frozen 2
  have v3 := RV.cell 3
  have z3 := RV.frozen 3
  have v4 := RV.cell 4
  have z4 := RV.frozen 4
  have v5 := RV.cell 5
  have z5 := RV.frozen 5
  have v6 := RV.cell 6
  have z6 := RV.frozen 6
  have v7 := RV.cell 7
  have z7 := RV.frozen 7
  have v8 := RV.cell 8
  have z8 := RV.frozen 8
  have v9 := RV.cell 9
  have z9 := RV.frozen 9
  have v10 := RV.cell 10
  have z10 := RV.frozen 10
  have v11 := RV.cell 11
  have z11 := RV.frozen 11
  simp only [List.getElem?_cons_succ, List.getElem?_cons_zero] at v0 v1 v2 v3 v4 v5 v6 v7 v8 v9 v10 v11
  have RF := ((((((((((((RV.set 0 (.int .u64 0)).set 1 (.bool false)).set 2 (.slice none 0 0)).set 3 (.int .u64 0)).set 4 (.int .u64 0)).set 5 (.int .u64 0)).set 6 (.int .u64 0)).set 7 (.int .u64 0)).set 8 (.int .i64 0)).set 9 (.slice none 0 0)).set 10 (.bool false)).set 11 (.slice none 0 0))
  have bF := ((((((((((((b0.setCell (p := ⟨w.heap.size, 0, none⟩) (Nat.le_refl _) (.int .u64 0)).setCell (p := ⟨w.heap.size, 1, none⟩) (Nat.le_refl _) (.bool false)).setCell (p := ⟨w.heap.size, 2, none⟩) (Nat.le_refl _) (.slice none 0 0)).setCell (p := ⟨w.heap.size, 3, none⟩) (Nat.le_refl _) (.int .u64 0)).setCell (p := ⟨w.heap.size, 4, none⟩) (Nat.le_refl _) (.int .u64 0)).setCell (p := ⟨w.heap.size, 5, none⟩) (Nat.le_refl _) (.int .u64 0)).setCell (p := ⟨w.heap.size, 6, none⟩) (Nat.le_refl _) (.int .u64 0)).setCell (p := ⟨w.heap.size, 7, none⟩) (Nat.le_refl _) (.int .u64 0)).setCell (p := ⟨w.heap.size, 8, none⟩) (Nat.le_refl _) (.int .i64 0)).setCell (p := ⟨w.heap.size, 9, none⟩) (Nat.le_refl _) (.slice none 0 0)).setCell (p := ⟨w.heap.size, 10, none⟩) (Nat.le_refl _) (.bool false)).setCell (p := ⟨w.heap.size, 11, none⟩) (Nat.le_refl _) (.slice none 0 0))
  simp only [List.set_cons_zero, List.set_cons_succ] at RF
  have e0 := RF.cell 0
  have e1 := RF.cell 1
  have e2 := RF.cell 2
  have e3 := RF.cell 3
  have e4 := RF.cell 4
  have e5 := RF.cell 5
  have e6 := RF.cell 6
  have e7 := RF.cell 7
  have e8 := RF.cell 8
  have e9 := RF.cell 9
  have e10 := RF.cell 10
  have e11 := RF.cell 11
  simp only [List.getElem?_cons_succ, List.getElem?_cons_zero] at e0 e1 e2 e3 e4 e5 e6 e7 e8 e9 e10 e11
  go_wp2_with fail
  generalize ((((((((((((w5.setCell ⟨w.heap.size, 0, none⟩ (.int .u64 0)).setCell ⟨w.heap.size, 1, none⟩ (.bool false)).setCell ⟨w.heap.size, 2, none⟩ (.slice none 0 0)).setCell ⟨w.heap.size, 3, none⟩ (.int .u64 0)).setCell ⟨w.heap.size, 4, none⟩ (.int .u64 0)).setCell ⟨w.heap.size, 5, none⟩ (.int .u64 0)).setCell ⟨w.heap.size, 6, none⟩ (.int .u64 0)).setCell ⟨w.heap.size, 7, none⟩ (.int .u64 0)).setCell ⟨w.heap.size, 8, none⟩ (.int .i64 0)).setCell ⟨w.heap.size, 9, none⟩ (.slice none 0 0)).setCell ⟨w.heap.size, 10, none⟩ (.bool false)).setCell ⟨w.heap.size, 11, none⟩ (.slice none 0 0)) = wf at *
  exact bodyPost_ret (v := .tuple #[.agg #[.int .u64 0, .bool false, .slice none 0 0, .int .u64 0, .int .u64 0, .int .u64 0, .int .u64 0, .int .u64 0, .int .i64 0, .slice none 0 0, .bool false, .slice none 0 0], .int .i64 y]) (by simp [results, Tryz.results16, go_sem, e0, e1, e2, e3, e4, e5, e6, e7, e8, e9, e10, e11]) rfl ⟨rfl, bF⟩
theorem rUnagg_of {s : ByteArray} (hs : s.size ≤ 1000000) {a : Nat} {g : Bool} {m : List Pr} {d0 d1 d2 d3 d4 : Nat} {n : Int} {on : List Int} {f : Bool} {l : List Pr} (h : IsAgg s.data.toList a g m d0 d1 d2 d3 d4 n on f l) (W : World) :
    Calls Tryz.prog 16 #[.string s] W fun e w' => ∃ C j A c B k, e = .returned (.tuple #[.agg #[.int .u64 (a : Int), .bool g, .slice C m.length j, .int .u64 (d0 : Int), .int .u64 (d1 : Int), .int .u64 (d2 : Int), .int .u64 (d3 : Int), .int .u64 (d4 : Int), .int .i64 n, .slice A on.length c, .bool f, .slice B l.length k], .int .i64 0]) ∧ Tk w' (.agg #[.bool g, .slice C m.length j]) g m ∧ Bt w' (.agg #[.int .i64 n, .slice A on.length c]) n on ∧ Tk w' (.agg #[.bool f, .slice B l.length k]) f l ∧ Below W.heap.size W w' := by
  obtain ⟨hd, ehd⟩ := ba_of (wordsB [a])
  obtain ⟨p, ep⟩ := ba_of (encB g m)
  obtain ⟨q, eq⟩ := ba_of (voteB [d0, d1, d2, d3, d4] n on f l)
  have hp : p.size ≤ 1000000 := by
    have := right_len h.hm
    rw [← list_len, ep, encB_length]; omega
  have hq : q.size ≤ 1000000 := by
    have := h.len
    rw [← list_len, eq]; omega
  have hv := h.v
  rw [← eq] at hv
  have hv2 : IsVote q.data.toList d0 d1 d2 d3 d4 n on f l := hv
  exact rUnagg_ok s W hd p q hs (by rw [h.split]; simp [txts, ehd, ep, eq]) a ehd h.ha hp g m (by rw [ep]; exact h.dec) d0 d1 d2 d3 d4 n on f l (rUnvote_of hq hv2)
theorem rUnagg_cases (s : ByteArray) (hs : s.size ≤ 1000000) : (∃ a h m d0 d1 d2 d3 d4 n on f l, IsAgg s.data.toList a h m d0 d1 d2 d3 d4 n on f l) ∨ (∃ y, (y == 0) = false ∧ unaggErr s.data.toList = y ∧ ∀ w, Calls Tryz.prog 16 #[.string s] w fun e w' => e = .returned (.tuple #[.agg #[.int .u64 0, .bool false, .slice none 0 0, .int .u64 0, .int .u64 0, .int .u64 0, .int .u64 0, .int .u64 0, .int .i64 0, .slice none 0 0, .bool false, .slice none 0 0], .int .i64 y]) ∧ Below w.heap.size w w') := by
  rcases splitOf_cases s.data.toList 8 2 with ⟨a, p, h⟩ | ⟨y, hy, h⟩
  · obtain ⟨_, _, _, _, hs5, ha, hp2, hw⟩ := splitOf_sound h
    obtain ⟨hd, rfl⟩ := ba_of a
    obtain ⟨p0, p1, rfl⟩ := two_of hp2
    have h8 : hd.size = 8 := by rw [← list_len, ha]; rfl
    have hl := wholeOf_length hd.data.toList (txts [p0, p1])
    rw [hw] at hl
    have e2 : sumLen (txts [p0, p1]) = p0.data.toList.length + (p1.data.toList.length + 0) := by simp [txts, sumLen]
    rw [e2, list_len p0, list_len p1] at hl
    have l0 : p0.size ≤ 1000000 := by omega
    have l1 : p1.size ≤ 1000000 := by omega
    obtain ⟨y, g, m, hd'⟩ : ∃ y f l, decB p0.data.toList = (y, f, l) := ⟨_, _, _, rfl⟩
    have g0 : (txts [p0, p1]).getD 0 [] = p0.data.toList := by simp [txts]
    have g1 : (txts [p0, p1]).getD 1 [] = p1.data.toList := by simp [txts]
    by_cases hy : y = 0
    · subst hy
      rcases rUnvote_cases p1 l1 with ⟨d0, d1, d2, d3, d4, n, on, f, l, hv⟩ | ⟨y, hy, hye, hV⟩
      · left
        obtain ⟨t1, t2, t3, t4⟩ := enc_dec hd'
        have ev := hv.eq
        refine ⟨num8 hd, g, m, d0, d1, d2, d3, d4, n, on, f, l, ?_, num8_lt _, ?_, t4, ev ▸ hv, ?_⟩
        · unfold aggB
          rw [← words1 h8, t1, ← ev, ← hw]
          simp [txts]
        · unfold rightT
          rw [t2, decide_eq_true t3]; rfl
        · have e3 : (txts [p0, p1]).length = 2 := by simp [txts]
          have e4 : p0.size = 1 + 16 * m.length := by rw [← list_len, ← t1, encB_length]
          have e5 : s.data.toList.length = s.size := list_len s
          rw [← ev, list_len]
          omega
      · right
        refine ⟨y, hy, ?_, fun W => rUnagg_vote s W hd p0 p1 hs h l0 g m hd' y hy hV⟩
        unfold unaggErr
        rw [h, if_pos rfl, g0, g1, hd', if_pos rfl, hye]
    · right
      have hy' : (y == 0) = false := by simpa using hy
      refine ⟨y, hy', ?_, fun W => rUnagg_tok s W hd p0 p1 hs h l0 y g m hd' hy'⟩
      unfold unaggErr
      rw [h, if_pos rfl, g0, hd', if_neg hy]
  · right
    have hy' : (y == 0) = false := by simpa using hy
    refine ⟨y, hy', ?_, fun W => rUnagg_split s W ⟨#[]⟩ [] y hs (by rw [h]; simp [txts]) hy'⟩
    unfold unaggErr
    rw [h, if_neg hy]
/-- Unvote, the program's and the document's. -/
theorem unvote_both (s : ByteArray) (hs : s.size ≤ 1000000) : ∃ (d0 d1 d2 d3 d4 : Nat) (n : Int) (on : List Int) (f : Bool) (l : List Pr) (E : Int), on.length ≤ 1000000 ∧ l.length ≤ 1000000 ∧ (∀ W, Calls Tryz.prog 13 #[.string s] W fun e w' => ∃ A c B k, e = .returned (.tuple #[.agg #[.int .u64 (d0 : Int), .int .u64 (d1 : Int), .int .u64 (d2 : Int), .int .u64 (d3 : Int), .int .u64 (d4 : Int), .int .i64 n, .slice A on.length c, .bool f, .slice B l.length k], .int .i64 E]) ∧ Bt w' (.agg #[.int .i64 n, .slice A on.length c]) n on ∧ Tk w' (.agg #[.bool f, .slice B l.length k]) f l ∧ Below W.heap.size W w') ∧ (∀ W, Calls Tryz.prog 14 #[.string s] W fun e w' => ∃ A c B k, e = .returned (.tuple #[.agg #[.int .u64 (d0 : Int), .int .u64 (d1 : Int), .int .u64 (d2 : Int), .int .u64 (d3 : Int), .int .u64 (d4 : Int), .int .i64 n, .slice A on.length c, .bool f, .slice B l.length k], .int .i64 E]) ∧ Bt w' (.agg #[.int .i64 n, .slice A on.length c]) n on ∧ Tk w' (.agg #[.bool f, .slice B l.length k]) f l ∧ Below W.heap.size W w') := by
  have key : ∀ {d0 d1 d2 d3 d4 : Nat} {n : Int} {on : List Int} {f : Bool} {l : List Pr}, IsVote s.data.toList d0 d1 d2 d3 d4 n on f l → ∃ (d0 d1 d2 d3 d4 : Nat) (n : Int) (on : List Int) (f : Bool) (l : List Pr) (E : Int), on.length ≤ 1000000 ∧ l.length ≤ 1000000 ∧ (∀ W, Calls Tryz.prog 13 #[.string s] W fun e w' => ∃ A c B k, e = .returned (.tuple #[.agg #[.int .u64 (d0 : Int), .int .u64 (d1 : Int), .int .u64 (d2 : Int), .int .u64 (d3 : Int), .int .u64 (d4 : Int), .int .i64 n, .slice A on.length c, .bool f, .slice B l.length k], .int .i64 E]) ∧ Bt w' (.agg #[.int .i64 n, .slice A on.length c]) n on ∧ Tk w' (.agg #[.bool f, .slice B l.length k]) f l ∧ Below W.heap.size W w') ∧ (∀ W, Calls Tryz.prog 14 #[.string s] W fun e w' => ∃ A c B k, e = .returned (.tuple #[.agg #[.int .u64 (d0 : Int), .int .u64 (d1 : Int), .int .u64 (d2 : Int), .int .u64 (d3 : Int), .int .u64 (d4 : Int), .int .i64 n, .slice A on.length c, .bool f, .slice B l.length k], .int .i64 E]) ∧ Bt w' (.agg #[.int .i64 n, .slice A on.length c]) n on ∧ Tk w' (.agg #[.bool f, .slice B l.length k]) f l ∧ Below W.heap.size W w') := by
    intro d0 d1 d2 d3 d4 n on f l h
    refine ⟨d0, d1, d2, d3, d4, n, on, f, l, 0, ?_, ?_, fun W => Unvote_ok h W, fun W => (rUnvote_of hs h W).mono ?_⟩
    · obtain ⟨h1, h2, h3⟩ := (rightB_iff _ _).1 h.hr
      have := rise_len on 0 n h2 h3
      omega
    · have := right_len h.ht
      omega
    · rintro e w' ⟨A, c, B, k, he, h1, h2, h3, -, -⟩
      exact ⟨A, c, B, k, he, h1, h2, h3⟩
  rcases rUnvote_cases s hs with ⟨d0, d1, d2, d3, d4, n, on, f, l, h⟩ | ⟨y, hy, hye, hR⟩
  · exact key h
  · rcases readVote_cases s with ⟨d0, d1, d2, d3, d4, n, on, f, l, h⟩ | ⟨z, hz, hze, hV⟩
    · exact key h
    · rw [hye] at hze
      subst hze
      refine ⟨0, 0, 0, 0, 0, 0, [], false, [], y, by simp, by simp, fun W => (Unvote_no y s W hV).mono ?_, fun W => (hR W).mono ?_⟩
      · rintro e w' ⟨he, hb⟩
        exact ⟨none, 0, none, 0, he, Bt.empty _ _, Tk.empty _, hb⟩
      · rintro e w' ⟨he, hb⟩
        exact ⟨none, 0, none, 0, he, Bt.empty _ _, Tk.empty _, hb⟩
/-- Unaggregate, the program's and the document's. -/
theorem unagg_both (s : ByteArray) (hs : s.size ≤ 1000000) : ∃ (a : Nat) (g : Bool) (m : List Pr) (d0 d1 d2 d3 d4 : Nat) (n : Int) (on : List Int) (f : Bool) (l : List Pr) (E : Int), m.length ≤ 1000000 ∧ on.length ≤ 1000000 ∧ l.length ≤ 1000000 ∧ (∀ W, Calls Tryz.prog 15 #[.string s] W fun e w' => ∃ C j A c B k, e = .returned (.tuple #[.agg #[.int .u64 (a : Int), .bool g, .slice C m.length j, .int .u64 (d0 : Int), .int .u64 (d1 : Int), .int .u64 (d2 : Int), .int .u64 (d3 : Int), .int .u64 (d4 : Int), .int .i64 n, .slice A on.length c, .bool f, .slice B l.length k], .int .i64 E]) ∧ Tk w' (.agg #[.bool g, .slice C m.length j]) g m ∧ Bt w' (.agg #[.int .i64 n, .slice A on.length c]) n on ∧ Tk w' (.agg #[.bool f, .slice B l.length k]) f l ∧ Below W.heap.size W w') ∧ (∀ W, Calls Tryz.prog 16 #[.string s] W fun e w' => ∃ C j A c B k, e = .returned (.tuple #[.agg #[.int .u64 (a : Int), .bool g, .slice C m.length j, .int .u64 (d0 : Int), .int .u64 (d1 : Int), .int .u64 (d2 : Int), .int .u64 (d3 : Int), .int .u64 (d4 : Int), .int .i64 n, .slice A on.length c, .bool f, .slice B l.length k], .int .i64 E]) ∧ Tk w' (.agg #[.bool g, .slice C m.length j]) g m ∧ Bt w' (.agg #[.int .i64 n, .slice A on.length c]) n on ∧ Tk w' (.agg #[.bool f, .slice B l.length k]) f l ∧ Below W.heap.size W w') := by
  have key : ∀ {a : Nat} {g : Bool} {m : List Pr} {d0 d1 d2 d3 d4 : Nat} {n : Int} {on : List Int} {f : Bool} {l : List Pr}, IsAgg s.data.toList a g m d0 d1 d2 d3 d4 n on f l → ∃ (a : Nat) (g : Bool) (m : List Pr) (d0 d1 d2 d3 d4 : Nat) (n : Int) (on : List Int) (f : Bool) (l : List Pr) (E : Int), m.length ≤ 1000000 ∧ on.length ≤ 1000000 ∧ l.length ≤ 1000000 ∧ (∀ W, Calls Tryz.prog 15 #[.string s] W fun e w' => ∃ C j A c B k, e = .returned (.tuple #[.agg #[.int .u64 (a : Int), .bool g, .slice C m.length j, .int .u64 (d0 : Int), .int .u64 (d1 : Int), .int .u64 (d2 : Int), .int .u64 (d3 : Int), .int .u64 (d4 : Int), .int .i64 n, .slice A on.length c, .bool f, .slice B l.length k], .int .i64 E]) ∧ Tk w' (.agg #[.bool g, .slice C m.length j]) g m ∧ Bt w' (.agg #[.int .i64 n, .slice A on.length c]) n on ∧ Tk w' (.agg #[.bool f, .slice B l.length k]) f l ∧ Below W.heap.size W w') ∧ (∀ W, Calls Tryz.prog 16 #[.string s] W fun e w' => ∃ C j A c B k, e = .returned (.tuple #[.agg #[.int .u64 (a : Int), .bool g, .slice C m.length j, .int .u64 (d0 : Int), .int .u64 (d1 : Int), .int .u64 (d2 : Int), .int .u64 (d3 : Int), .int .u64 (d4 : Int), .int .i64 n, .slice A on.length c, .bool f, .slice B l.length k], .int .i64 E]) ∧ Tk w' (.agg #[.bool g, .slice C m.length j]) g m ∧ Bt w' (.agg #[.int .i64 n, .slice A on.length c]) n on ∧ Tk w' (.agg #[.bool f, .slice B l.length k]) f l ∧ Below W.heap.size W w') := by
    intro a g m d0 d1 d2 d3 d4 n on f l h
    refine ⟨a, g, m, d0, d1, d2, d3, d4, n, on, f, l, 0, ?_, ?_, ?_, fun W => Unaggregate_ok h W, fun W => rUnagg_of hs h W⟩
    · have := right_len h.hm
      omega
    · obtain ⟨h1, h2, h3⟩ := (rightB_iff _ _).1 h.v.hr
      have := rise_len on 0 n h2 h3
      omega
    · have := right_len h.v.ht
      omega
  rcases rUnagg_cases s hs with ⟨a, g, m, d0, d1, d2, d3, d4, n, on, f, l, h⟩ | ⟨y, hy, hye, hR⟩
  · exact key h
  · rcases readAgg_cases s with ⟨a, g, m, d0, d1, d2, d3, d4, n, on, f, l, h⟩ | ⟨z, hz, hze, hV⟩
    · exact key h
    · rw [hye] at hze
      subst hze
      refine ⟨0, false, [], 0, 0, 0, 0, 0, 0, [], false, [], y, by simp, by simp, by simp, fun W => (Unaggregate_no y s W hV).mono ?_, fun W => (hR W).mono ?_⟩
      · rintro e w' ⟨he, hb⟩
        exact ⟨none, 0, none, 0, none, 0, he, Tk.empty _, Bt.empty _ _, Tk.empty _, hb⟩
      · rintro e w' ⟨he, hb⟩
        exact ⟨none, 0, none, 0, none, 0, he, Tk.empty _, Bt.empty _ _, Tk.empty _, hb⟩
end Go.Proofs.YtieheieiolobaaaGreatDoor

namespace Go.Proofs.YtieheieiolobaaaGreatDoor
open Go.RowKit

set_option maxHeartbeats 2000000 in
set_option maxRecDepth 100000 in
theorem turned_fix (s : ByteArray) (x : Int) (c : UInt8) (hx : I64 x) (hs : s.size ≤ 1000000) :
    ∃ t : ByteArray, t.size = s.size ∧ ∀ w, Calls Tryz.prog 11 #[.string s, .int .i64 x, .int .u8 (c.toNat : Int)] w fun e w' => e = .returned (.string t) ∧ Below w.heap.size w w' := by
  rcases Nat.eq_zero_or_pos s.size with h0 | hpos
  · have hz : ((s.size : Int) == 0) = true := by rw [beq_iff_eq]; omega
    clear h0
    refine ⟨s, rfl, fun w => ?_⟩
    go_enter Tryz.func11, Tryz.ntmps11
    go_wp2
    go_ret
    exact ⟨rfl, Below.refl _ _⟩
  · have hz : ((s.size : Int) == 0) = false := by rw [beq_eq_false_iff_ne]; omega
    have hP := fun W => pick6_any x (s.size : Int) W hx (by omega) (by omega)
    have hk := pickN_lt x (s.size : Int) (by omega)
    generalize pickN x (s.size : Int) = k at hP hk
    have hk' : k < s.size := by omega
    have k0 : (0 : Int) ≤ (k : Int) := by omega
    have k1 : (k : Int) ≤ (s.size : Int) := by omega
    have k2 : (k : Int) + 1 ≤ (s.size : Int) := by omega
    refine ⟨s.extract 0 k ++ ⟨#[c]⟩ ++ s.extract (k + 1) s.size, by rw [ByteArray.size_append, ByteArray.size_append, ByteArray.size_extract, ByteArray.size_extract]; show _ + 1 + _ = _; omega, fun w => ?_⟩
    go_enter Tryz.func11, Tryz.ntmps11
    go_wp2_with ((with_reducible refine (hP _).mono ?_); rintro e w1 ⟨rfl, rfl⟩)
    have q0 : IntKind.i64.wrap ((k : Int) + 1) = (k : Int) + 1 := IntWalk.i64_in _ (by omega)
    have q1 : 0 ≤ (k : Int) + 1 := by omega
    have q2 : ((k : Int) + 1).toNat = k + 1 := by omega
    have hcv := run_convert_bytes_back (P := Tryz.prog) (w.alloc (.cells #[.int .u8 (c.toNat : Int)] 5)).drew 63 9 5 ⟨w.heap.size, 0, none⟩ 1 [c] Tryz.underlying63 Tryz.underlying5 Tryz.underlying9 (fun j hj => by
      have hj1 : j < 1 := hj
      obtain rfl : j = 0 := by omega
      simp [Addr.add])
    simp only [List.length_cons, List.length_nil, Nat.zero_add] at hcv
    go_region_with (fail)
    all_goals
      go_wp2
      go_ret
      exact ⟨rfl, ((Below.refl _ _).alloc (Nat.le_refl _) _).drew⟩
end Go.Proofs.YtieheieiolobaaaGreatDoor
