/- The walk of the law ChurnOne. -/
import Derived.Test.YtkbihgflfldllaaDoorCLawBackW
namespace Go.Proofs.YtkbihgflfldllaaDoor
open Go.RowKit

theorem one_byte (w : World) (g : Nat) (b : UInt8) (h : w.cell? ⟨g, 0, none⟩ = some (.int .u8 (b.toNat : Int))) :
    (convert 35 9 (.slice (some ⟨g, 0, none⟩) 1 1)).run Tryd.prog w = .ok (.string ⟨#[b]⟩) w := by
  have := run_convert_bytes_back (P := Tryd.prog) w 35 9 5 ⟨g, 0, none⟩ 1 [b] Tryd.underlying35 Tryd.underlying5 Tryd.underlying9 (fun j hj => by
    have hj0 : j = 0 := by simp at hj; omega
    subst hj0
    simpa [Addr.add] using h)
  simpa using this
theorem set_bytes (t : ByteArray) (k : Nat) (c : UInt8) (hk : k < t.size) : (t.extract 0 k ++ ⟨#[c]⟩ ++ t.extract (k + 1) t.size).data.toList = t.data.toList.set k c := by
  have hk2 : k < t.data.toList.length := by simpa using hk
  rw [List.set_eq_take_append_cons_drop, if_pos hk2]
  simp
  exact List.take_of_length_le (by simp)
theorem fold3 (x y z : Nat) {w W : World} (hA : At w W) : Calls Tryd.prog 15 #[.slice (some ⟨W.heap.size, 0, none⟩) 3 3] (W.alloc (.cells #[.int .u64 x, .int .u64 y, .int .u64 z] 22)) fun e w' => e = .returned (.int .u64 (foldB [x, y, z])) ∧ At w w' := by
  refine at_fold [x, y, z] _ _ rfl (by simp) ?_ (hA.alloc _)
  exact Elems.row (xs := [x, y, z]) (RowAt.new W 22 #[.int .u64 x, .int .u64 y, .int .u64 z])



set_option maxHeartbeats 2000000 in
set_option maxRecDepth 100000 in
theorem one_pos_way (h j k g : Nat) (s t U : ByteArray) (c : UInt8) (w : World) (hh : h < 18446744073709551616) (hs : s.size ≤ 9223372036854775807) (ht : t.size ≤ 200) (hj : j < 9223372036854775808) (hkm : (j : Int) % (t.size : Int) = (k : Int)) (hkt : k < t.size) (hT : Tab w)
    (hU : t.extract 0 k ++ ⟨#[c]⟩ ++ t.extract (k + 1) t.size = U) (hUz : U.size ≤ 200) (hg : bits .xor .u64 (h : Int) (IntKind.u64.wrap (IntKind.u64.wrap (c.toNat : Int) * 2 ^ (8 * (k % 8)))) = (g : Int))
    (a b p q f1 f2 : Nat) (eqs eqw : Bool) (ha : moreH h t.data.toList = a) (hb : moreH h U.data.toList = b) (hp : moreH 14695981039346656037 t.data.toList = p) (hq : moreH 14695981039346656037 U.data.toList = q) (hf1 : foldB [1, h, 2] = f1) (hf2 : foldB [1, g, 2] = f2)
    (e1 : (t.toList == U.toList) = eqs) (e2 : ((a : Int) == (b : Int)) = eqs) (e3 : ((p : Int) == (q : Int)) = eqs) (e4 : ((h : Int) == (g : Int)) = eqw) (e5 : ((f1 : Int) == (f2 : Int)) = eqw)
    (way : ((200 < s.size) = True ∧ s.extract 0 200 = t) ∨ ((200 < s.size) = False ∧ s = t)) :
    Calls Tryd.prog 6 #[.int .u64 h, .string s, .int .i64 ((j : Int)), .int .u8 (c.toNat : Int)] w fun e w' => e = .returned (.bool true) ∧ At w w' := by
  have A0 := At.refl hT
  have c1 : ∀ W, At w W → Calls Tryd.prog 9 #[.int .u64 h, .string t] W fun e w' => e = .returned (.int .u64 a) ∧ At w w' := fun W hA => at_more h t a ha hh (by omega) hA
  have c2 : ∀ W, At w W → Calls Tryd.prog 9 #[.int .u64 h, .string U] W fun e w' => e = .returned (.int .u64 b) ∧ At w w' := fun W hA => at_more h U b hb hh (by omega) hA
  have c3 : ∀ W, At w W → Calls Tryd.prog 13 #[.string t] W fun e w' => e = .returned (.int .u64 p) ∧ At w w' := fun W hA => at_sum t p hp (by omega) hA
  have c4 : ∀ W, At w W → Calls Tryd.prog 13 #[.string U] W fun e w' => e = .returned (.int .u64 q) ∧ At w w' := fun W hA => at_sum U q hq (by omega) hA
  have c5 : ∀ W, At w W → Calls Tryd.prog 15 #[.slice (some ⟨W.heap.size, 0, none⟩) 3 3] (W.alloc (.cells #[.int .u64 1, .int .u64 h, .int .u64 2] 22)) fun e w' => e = .returned (.int .u64 f1) ∧ At w w' := fun W hA => by rw [← hf1]; exact fold3 1 h 2 hA
  have c6 : ∀ W, At w W → Calls Tryd.prog 15 #[.slice (some ⟨W.heap.size, 0, none⟩) 3 3] (W.alloc (.cells #[.int .u64 1, .int .u64 g, .int .u64 2] 22)) fun e w' => e = .returned (.int .u64 f2) ∧ At w w' := fun W hA => by rw [← hf2]; exact fold3 1 g 2 hA
  have hz0 : ((t.size : Int) == 0) = false := by rw [beq_eq_false_iff_ne]; omega
  have hj0 : ((j : Int) < 0) = False := eq_false (by omega)
  have hi2 : k ≤ t.size := by omega
  have hi3 : k + 1 ≤ t.size := by omega
  have hi4 : (k : Int) + 1 ≤ (t.size : Int) := by omega
  have hs1 : (t.extract 0 k).size ≤ 200 := by rw [ByteArray.size_extract]; omega
  have hs2 : (t.extract (k + 1) t.size).size ≤ 200 := by rw [ByteArray.size_extract]; omega
  have HU := Lib.hid hU
  clear ha hb hp hq hf1 hf2 hU
  rcases way with ⟨hz, he⟩ | ⟨hz, he⟩
  · have hmin : min 200 s.size = t.size := by rw [← he, ByteArray.size_extract]; have := of_eq_true hz; omega
    go_enter Tryd.func6, Tryd.ntmps6
    go_wp2_with (with_reducible refine (at_awake (by assumption)).mono ?_; rintro e w1 ⟨rfl, A1⟩)
    all_goals (try (exfalso; have := of_eq_true hz; omega))
    have hob := one_byte (w1.alloc (.cells #[.int .u8 (c.toNat : Int)] 5)).drew w1.heap.size c (by simp [go_sem])
    go_region
    rw [HU.out]
    have A2 : At w (w1.alloc (.cells #[.int .u8 (c.toNat : Int)] 5)).drew := (A1.alloc _).drew
    clear hob
    generalize (w1.alloc (.cells #[.int .u8 (c.toNat : Int)] 5)).drew = w2 at *
    clear hs1 hs2 hi2 hi3 hi4 HU A1
    go_wp2_with (first
      | (with_reducible refine (c1 _ (by assumption)).mono ?_; rintro e w1 ⟨rfl, A1⟩)
      | (with_reducible refine (c2 _ (by assumption)).mono ?_; rintro e w1 ⟨rfl, A1⟩)
      | (with_reducible refine (c3 _ (by assumption)).mono ?_; rintro e w1 ⟨rfl, A1⟩)
      | (with_reducible refine (c4 _ (by assumption)).mono ?_; rintro e w1 ⟨rfl, A1⟩)
      | (with_reducible refine (c5 _ (by assumption)).mono ?_; rintro e w1 ⟨rfl, A1⟩)
      | (with_reducible refine (c6 _ (by assumption)).mono ?_; rintro e w1 ⟨rfl, A1⟩))
    go_ret
    exact ⟨rfl, by assumption⟩
  · subst he
    go_enter Tryd.func6, Tryd.ntmps6
    go_wp2_with (with_reducible refine (at_awake (by assumption)).mono ?_; rintro e w1 ⟨rfl, A1⟩)
    all_goals (try (exfalso; have := of_eq_false hz; omega))
    have hob := one_byte (w1.alloc (.cells #[.int .u8 (c.toNat : Int)] 5)).drew w1.heap.size c (by simp [go_sem])
    go_region
    rw [HU.out]
    have A2 : At w (w1.alloc (.cells #[.int .u8 (c.toNat : Int)] 5)).drew := (A1.alloc _).drew
    clear hob
    generalize (w1.alloc (.cells #[.int .u8 (c.toNat : Int)] 5)).drew = w2 at *
    clear hs1 hs2 hi2 hi3 hi4 HU A1
    go_wp2_with (first
      | (with_reducible refine (c1 _ (by assumption)).mono ?_; rintro e w1 ⟨rfl, A1⟩)
      | (with_reducible refine (c2 _ (by assumption)).mono ?_; rintro e w1 ⟨rfl, A1⟩)
      | (with_reducible refine (c3 _ (by assumption)).mono ?_; rintro e w1 ⟨rfl, A1⟩)
      | (with_reducible refine (c4 _ (by assumption)).mono ?_; rintro e w1 ⟨rfl, A1⟩)
      | (with_reducible refine (c5 _ (by assumption)).mono ?_; rintro e w1 ⟨rfl, A1⟩)
      | (with_reducible refine (c6 _ (by assumption)).mono ?_; rintro e w1 ⟨rfl, A1⟩))
    go_ret
    exact ⟨rfl, by assumption⟩

set_option maxHeartbeats 2000000 in
set_option maxRecDepth 100000 in
theorem one_neg_way (h j k g : Nat) (s t U : ByteArray) (c : UInt8) (w : World) (hh : h < 18446744073709551616) (hs : s.size ≤ 9223372036854775807) (ht : t.size ≤ 200) (hj : j < 9223372036854775808) (hkm : (j : Int) % (t.size : Int) = (k : Int)) (hkt : k < t.size) (hT : Tab w)
    (hU : t.extract 0 k ++ ⟨#[c]⟩ ++ t.extract (k + 1) t.size = U) (hUz : U.size ≤ 200) (hg : bits .xor .u64 (h : Int) (IntKind.u64.wrap (IntKind.u64.wrap (c.toNat : Int) * 2 ^ (8 * (k % 8)))) = (g : Int))
    (a b p q f1 f2 : Nat) (eqs eqw : Bool) (ha : moreH h t.data.toList = a) (hb : moreH h U.data.toList = b) (hp : moreH 14695981039346656037 t.data.toList = p) (hq : moreH 14695981039346656037 U.data.toList = q) (hf1 : foldB [1, h, 2] = f1) (hf2 : foldB [1, g, 2] = f2)
    (e1 : (t.toList == U.toList) = eqs) (e2 : ((a : Int) == (b : Int)) = eqs) (e3 : ((p : Int) == (q : Int)) = eqs) (e4 : ((h : Int) == (g : Int)) = eqw) (e5 : ((f1 : Int) == (f2 : Int)) = eqw)
    (way : ((200 < s.size) = True ∧ s.extract 0 200 = t) ∨ ((200 < s.size) = False ∧ s = t)) :
    Calls Tryd.prog 6 #[.int .u64 h, .string s, .int .i64 (-(j : Int) - 1), .int .u8 (c.toNat : Int)] w fun e w' => e = .returned (.bool true) ∧ At w w' := by
  have A0 := At.refl hT
  have c1 : ∀ W, At w W → Calls Tryd.prog 9 #[.int .u64 h, .string t] W fun e w' => e = .returned (.int .u64 a) ∧ At w w' := fun W hA => at_more h t a ha hh (by omega) hA
  have c2 : ∀ W, At w W → Calls Tryd.prog 9 #[.int .u64 h, .string U] W fun e w' => e = .returned (.int .u64 b) ∧ At w w' := fun W hA => at_more h U b hb hh (by omega) hA
  have c3 : ∀ W, At w W → Calls Tryd.prog 13 #[.string t] W fun e w' => e = .returned (.int .u64 p) ∧ At w w' := fun W hA => at_sum t p hp (by omega) hA
  have c4 : ∀ W, At w W → Calls Tryd.prog 13 #[.string U] W fun e w' => e = .returned (.int .u64 q) ∧ At w w' := fun W hA => at_sum U q hq (by omega) hA
  have c5 : ∀ W, At w W → Calls Tryd.prog 15 #[.slice (some ⟨W.heap.size, 0, none⟩) 3 3] (W.alloc (.cells #[.int .u64 1, .int .u64 h, .int .u64 2] 22)) fun e w' => e = .returned (.int .u64 f1) ∧ At w w' := fun W hA => by rw [← hf1]; exact fold3 1 h 2 hA
  have c6 : ∀ W, At w W → Calls Tryd.prog 15 #[.slice (some ⟨W.heap.size, 0, none⟩) 3 3] (W.alloc (.cells #[.int .u64 1, .int .u64 g, .int .u64 2] 22)) fun e w' => e = .returned (.int .u64 f2) ∧ At w w' := fun W hA => by rw [← hf2]; exact fold3 1 g 2 hA
  have hz0 : ((t.size : Int) == 0) = false := by rw [beq_eq_false_iff_ne]; omega
  have hj0 : (-(j : Int) - 1 < 0) = True := eq_true (by omega)
  have hj1 : -(j : Int) - 1 + 1 = -(j : Int) := by omega
  have hi2 : k ≤ t.size := by omega
  have hi3 : k + 1 ≤ t.size := by omega
  have hi4 : (k : Int) + 1 ≤ (t.size : Int) := by omega
  have hs1 : (t.extract 0 k).size ≤ 200 := by rw [ByteArray.size_extract]; omega
  have hs2 : (t.extract (k + 1) t.size).size ≤ 200 := by rw [ByteArray.size_extract]; omega
  have HU := Lib.hid hU
  clear ha hb hp hq hf1 hf2 hU
  rcases way with ⟨hz, he⟩ | ⟨hz, he⟩
  · have hmin : min 200 s.size = t.size := by rw [← he, ByteArray.size_extract]; have := of_eq_true hz; omega
    go_enter Tryd.func6, Tryd.ntmps6
    go_wp2_with (with_reducible refine (at_awake (by assumption)).mono ?_; rintro e w1 ⟨rfl, A1⟩)
    all_goals (try (exfalso; have := of_eq_true hz; omega))
    have hob := one_byte (w1.alloc (.cells #[.int .u8 (c.toNat : Int)] 5)).drew w1.heap.size c (by simp [go_sem])
    go_region
    rw [HU.out]
    have A2 : At w (w1.alloc (.cells #[.int .u8 (c.toNat : Int)] 5)).drew := (A1.alloc _).drew
    clear hob
    generalize (w1.alloc (.cells #[.int .u8 (c.toNat : Int)] 5)).drew = w2 at *
    clear hs1 hs2 hi2 hi3 hi4 HU A1
    go_wp2_with (first
      | (with_reducible refine (c1 _ (by assumption)).mono ?_; rintro e w1 ⟨rfl, A1⟩)
      | (with_reducible refine (c2 _ (by assumption)).mono ?_; rintro e w1 ⟨rfl, A1⟩)
      | (with_reducible refine (c3 _ (by assumption)).mono ?_; rintro e w1 ⟨rfl, A1⟩)
      | (with_reducible refine (c4 _ (by assumption)).mono ?_; rintro e w1 ⟨rfl, A1⟩)
      | (with_reducible refine (c5 _ (by assumption)).mono ?_; rintro e w1 ⟨rfl, A1⟩)
      | (with_reducible refine (c6 _ (by assumption)).mono ?_; rintro e w1 ⟨rfl, A1⟩))
    go_ret
    exact ⟨rfl, by assumption⟩
  · subst he
    go_enter Tryd.func6, Tryd.ntmps6
    go_wp2_with (with_reducible refine (at_awake (by assumption)).mono ?_; rintro e w1 ⟨rfl, A1⟩)
    all_goals (try (exfalso; have := of_eq_false hz; omega))
    have hob := one_byte (w1.alloc (.cells #[.int .u8 (c.toNat : Int)] 5)).drew w1.heap.size c (by simp [go_sem])
    go_region
    rw [HU.out]
    have A2 : At w (w1.alloc (.cells #[.int .u8 (c.toNat : Int)] 5)).drew := (A1.alloc _).drew
    clear hob
    generalize (w1.alloc (.cells #[.int .u8 (c.toNat : Int)] 5)).drew = w2 at *
    clear hs1 hs2 hi2 hi3 hi4 HU A1
    go_wp2_with (first
      | (with_reducible refine (c1 _ (by assumption)).mono ?_; rintro e w1 ⟨rfl, A1⟩)
      | (with_reducible refine (c2 _ (by assumption)).mono ?_; rintro e w1 ⟨rfl, A1⟩)
      | (with_reducible refine (c3 _ (by assumption)).mono ?_; rintro e w1 ⟨rfl, A1⟩)
      | (with_reducible refine (c4 _ (by assumption)).mono ?_; rintro e w1 ⟨rfl, A1⟩)
      | (with_reducible refine (c5 _ (by assumption)).mono ?_; rintro e w1 ⟨rfl, A1⟩)
      | (with_reducible refine (c6 _ (by assumption)).mono ?_; rintro e w1 ⟨rfl, A1⟩))
    go_ret
    exact ⟨rfl, by assumption⟩

set_option maxHeartbeats 1000000 in
theorem one_none_way (h : Nat) (x : Int) (s : ByteArray) (c : Int) (w : World) (hs : s.size = 0) (hT : Tab w) :
    Calls Tryd.prog 6 #[.int .u64 h, .string s, .int .i64 x, .int .u8 c] w fun e w' => e = .returned (.bool true) ∧ At w w' := by
  have A0 := At.refl hT
  obtain rfl : s = ByteArray.empty := ByteArray.size_eq_zero_iff.1 hs
  go_enter Tryd.func6, Tryd.ntmps6
  go_wp2_with (with_reducible refine (at_awake (by assumption)).mono ?_; rintro e w1 ⟨rfl, A1⟩)
  go_ret
  exact ⟨rfl, by assumption⟩

theorem bytes_ext {x y : ByteArray} (h : x.data.toList = y.data.toList) : x = y := by
  apply ByteArray.ext
  exact Array.toList_inj.1 h

theorem cone_calls (a0 : Int) (w0 : (Lit.int .u64 a0).wf = true) (a1 : ByteArray) (w1 : a1.size ≤ maxLen) (a2 : Int) (w2 : (Lit.int .i64 a2).wf = true) (a3 : Int) (w3 : (Lit.int .u8 a3).wf = true) (w : World) (hT : Tab w) :
    Calls Tryd.prog 6 #[.int .u64 a0, .string a1, .int .i64 a2, .int .u8 a3] w fun e w' => e = .returned (.bool true) ∧ Below w.heap.size w w' := by
  obtain ⟨h, rfl, hh⟩ := u64_of_wf w0
  obtain ⟨l1, l2⟩ := i64_of_wf w2
  obtain ⟨c0, rfl, hc⟩ := u8_of_wf w3
  obtain ⟨c, rfl⟩ : ∃ c : UInt8, c0 = c.toNat := ⟨UInt8.ofNat c0, by rw [UInt8.toNat_ofNat']; omega⟩
  obtain ⟨t, ht, way⟩ := cut_way a1 200
  refine Calls.mono (?_ : Calls _ _ _ _ fun e w' => e = .returned (.bool true) ∧ At w w') fun e w' ⟨he, hA⟩ => ⟨he, hA.2⟩
  by_cases h0 : a1.size = 0
  · exact one_none_way h a2 a1 c.toNat w h0 hT
  have ht0 : 0 < t.size := by
    rcases way with ⟨hz, he⟩ | ⟨hz, he⟩
    · rw [← he, ByteArray.size_extract]; have := of_eq_true hz; omega
    · subst he; omega
  have main : ∀ j : Nat, ∃ k g : Nat, ∃ U : ByteArray, (j : Int) % (t.size : Int) = (k : Int) ∧ k < t.size ∧ t.extract 0 k ++ ⟨#[c]⟩ ++ t.extract (k + 1) t.size = U ∧ U.size ≤ 200 ∧
      bits .xor .u64 (h : Int) (IntKind.u64.wrap (IntKind.u64.wrap (c.toNat : Int) * 2 ^ (8 * (k % 8)))) = (g : Int) ∧ (∀ x, x < 18446744073709551616 → (moreH x t.data.toList = moreH x U.data.toList ↔ t = U)) ∧ (foldB [1, h, 2] = foldB [1, g, 2] ↔ h = g) := by
    intro j
    have hk : j % t.size < t.size := Nat.mod_lt _ ht0
    have h8 : j % t.size % 8 < 8 := Nat.mod_lt _ (by decide)
    have hx : c.toNat * 256 ^ (j % t.size % 8) < 18446744073709551616 := by
      have h1 : 256 ^ (j % t.size % 8) ≤ 256 ^ 7 := Nat.pow_le_pow_right (by omega) (by omega)
      have h3 : (256 : Nat) ^ 7 = 72057594037927936 := by decide
      have h4 : c.toNat * 256 ^ (j % t.size % 8) ≤ 255 * 256 ^ 7 := Nat.mul_le_mul (by have := c.toNat_lt; omega) h1
      omega
    refine ⟨j % t.size, h ^^^ (c.toNat * 256 ^ (j % t.size % 8)), _, (Int.natCast_emod _ _).symm, hk, rfl, ?_, ?_, ?_, ?_⟩
    · rw [ByteArray.size_append, ByteArray.size_append, ByteArray.size_extract, ByteArray.size_extract, show (⟨#[c]⟩ : ByteArray).size = 1 from rfl]; omega
    · rw [byte_shift c _ h8, u64_xor_nat _ _ hh hx]
    · intro x hx
      rw [set_bytes t _ c hk, more_set hx]
      constructor
      · intro e; exact bytes_ext (by rw [set_bytes t _ c hk]; exact e)
      · intro e; rw [← set_bytes t _ c hk, ← e]
    · exact fold_mid h c.toNat _ 1 2 hh (by have := c.toNat_lt; omega) h8 (xor_lt64 hh hx)
  have fin : ∀ j : Nat, j < 9223372036854775808 → ∀ x : Int, (x = j ∨ x = -(j : Int) - 1) → Calls Tryd.prog 6 #[.int .u64 h, .string a1, .int .i64 x, .int .u8 (c.toNat : Int)] w fun e w' => e = .returned (.bool true) ∧ At w w' := by
    intro j hj x hx
    obtain ⟨k, g, U, hkm, hkt, hU, hUz, hg, hm, hf⟩ := main j
    have b1 : ∀ (x : Nat), x < 18446744073709551616 → (((moreH x t.data.toList : Nat) : Int) == ((moreH x U.data.toList : Nat) : Int)) = decide (t = U) := fun x hx => by
      rw [Bool.eq_iff_iff, beq_iff_eq, decide_eq_true_iff, ← hm x hx]; omega
    have b2 : (((foldB [1, h, 2] : Nat) : Int) == ((foldB [1, g, 2] : Nat) : Int)) = decide (h = g) := by
      rw [Bool.eq_iff_iff, beq_iff_eq, decide_eq_true_iff, ← hf]; omega
    have b3 : ((h : Int) == (g : Int)) = decide (h = g) := by
      rw [Bool.eq_iff_iff, beq_iff_eq, decide_eq_true_iff]; omega
    have b4 : (t.toList == U.toList) = decide (t = U) := by
      rw [Bool.eq_iff_iff, beq_iff_eq, decide_eq_true_iff, ByteArray.toList_eq, ByteArray.toList_eq]
      exact ⟨bytes_ext, fun e => by rw [e]⟩
    rcases hx with rfl | rfl
    · exact one_pos_way h j k g a1 t U c w hh w1 ht hj hkm hkt hT hU hUz hg _ _ _ _ _ _ _ _ rfl rfl rfl rfl rfl rfl b4 (b1 h hh) (b1 _ (by decide)) b3 b2 way
    · exact one_neg_way h j k g a1 t U c w hh w1 ht hj hkm hkt hT hU hUz hg _ _ _ _ _ _ _ _ rfl rfl rfl rfl rfl rfl b4 (b1 h hh) (b1 _ (by decide)) b3 b2 way
  by_cases hn : a2 < 0
  · exact fin (-(a2 + 1)).toNat (by omega) a2 (.inr (by omega))
  · exact fin a2.toNat (by omega) a2 (.inl (by omega))
end Go.Proofs.YtkbihgflfldllaaDoor
