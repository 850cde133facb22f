/- Plain facts on bits in bytes, and on rising lists (no program). -/
import Derived.Laws.BitsAllLaws
import Derived.Laws.BitsLemmas
import Derived.WalkKit
namespace Go.Proofs.YtjipibpcnheniaaDoor
open Go.RowKit

/-! ### rising lists -/
theorem rise_mem_head {a : Int} {l : List Int} (h : (a :: l).Pairwise (· < ·)) {x : Int} (hx : x ∈ l) : a < x := (List.pairwise_cons.1 h).1 x hx

theorem rise_ext : ∀ {a b : List Int}, a.Pairwise (· < ·) → b.Pairwise (· < ·) → (∀ x, x ∈ a ↔ x ∈ b) → a = b
  | [], [], _, _, _ => rfl
  | [], y :: b, _, _, h => absurd ((h y).2 (by simp)) (by simp)
  | x :: a, [], _, _, h => absurd ((h x).1 (by simp)) (by simp)
  | x :: a, y :: b, ha, hb, h => by
    have hxy : x = y := by
      have h1 := (h x).1 (by simp)
      have h2 := (h y).2 (by simp)
      simp only [List.mem_cons] at h1 h2
      rcases h1 with e | h1
      · exact e
      · rcases h2 with e | h2
        · exact e.symm
        · have := rise_mem_head hb h1
          have := rise_mem_head ha h2
          omega
    subst hxy
    congr 1
    refine rise_ext (List.pairwise_cons.1 ha).2 (List.pairwise_cons.1 hb).2 fun z => ?_
    constructor
    · intro hz
      have := rise_mem_head ha hz
      have h3 := (h z).1 (by simp [hz])
      simp only [List.mem_cons] at h3
      rcases h3 with e | h3
      · omega
      · exact h3
    · intro hz
      have := rise_mem_head hb hz
      have h3 := (h z).2 (by simp [hz])
      simp only [List.mem_cons] at h3
      rcases h3 with e | h3
      · omega
      · exact h3

/-- Do numbers rise, from above 'last' on, all below n? -/
def risesFrom (n : Int) : Int → List Int → Bool
  | _, [] => true
  | last, i :: l => decide (last < i) && decide (i < n) && risesFrom n i l

theorem risesFrom_iff (n : Int) : ∀ (last : Int) (l : List Int), risesFrom n last l = true ↔ l.Pairwise (· < ·) ∧ ∀ x ∈ l, last < x ∧ x < n
  | last, [] => by simp [risesFrom]
  | last, i :: l => by
    simp only [risesFrom, Bool.and_eq_true, decide_eq_true_eq, risesFrom_iff n i l, List.pairwise_cons, List.mem_cons, forall_eq_or_imp]
    constructor
    · rintro ⟨⟨h1, h2⟩, h3, h4⟩
      exact ⟨⟨fun x hx => (h4 x hx).1, h3⟩, ⟨h1, h2⟩, fun x hx => ⟨Int.lt_trans h1 (h4 x hx).1, (h4 x hx).2⟩⟩
    · rintro ⟨⟨h1, h2⟩, ⟨h3, h4⟩, h5⟩
      exact ⟨⟨h3, h4⟩, h2, fun x hx => ⟨h1 x hx, (h5 x hx).2⟩⟩

def fitsB (n : Int) : Bool := decide (0 ≤ n) && decide (n ≤ 2048)
theorem fitsB_iff (n : Int) : fitsB n = true ↔ 0 ≤ n ∧ n ≤ 2048 := by simp [fitsB]
/-- Are bits right? -/
def rightB (n : Int) (on : List Int) : Bool := fitsB n && risesFrom n (-1) on
theorem rightB_iff (n : Int) (on : List Int) : rightB n on = true ↔ (0 ≤ n ∧ n ≤ 2048) ∧ on.Pairwise (· < ·) ∧ ∀ x ∈ on, 0 ≤ x ∧ x < n := by
  simp only [rightB, Bool.and_eq_true, fitsB_iff, risesFrom_iff]
  constructor
  · rintro ⟨h1, h2, h3⟩; exact ⟨h1, h2, fun x hx => ⟨by have := (h3 x hx).1; omega, (h3 x hx).2⟩⟩
  · rintro ⟨h1, h2, h3⟩; exact ⟨h1, h2, fun x hx => ⟨by have := (h3 x hx).1; omega, (h3 x hx).2⟩⟩

/-! ### bits in bytes -/
/-- Is bit j of bytes set? -/
def bitAt (l : List UInt8) (j : Nat) : Bool := (l.getD (j / 8) 0).toNat.testBit (j % 8)
/-- Bytes, with bit i set. -/
def putBit (l : List UInt8) (i : Nat) : List UInt8 := l.set (i / 8) (UInt8.ofNat ((l.getD (i / 8) 0).toNat ||| 2 ^ (i % 8)))
def putBits (l : List UInt8) (on : List Int) : List UInt8 := on.foldl (fun l i => putBit l i.toNat) l

theorem or_lt_256 (a b : Nat) (ha : a < 256) (hb : b < 256) : a ||| b < 256 := Nat.or_lt_two_pow (n := 8) ha hb
theorem pow_lt_256 (k : Nat) (h : k < 8) : 2 ^ k < 256 := by
  have : 2 ^ k ≤ 2 ^ 7 := Nat.pow_le_pow_right (by omega) (by omega)
  omega

theorem putBit_length (l : List UInt8) (i : Nat) : (putBit l i).length = l.length := by simp [putBit]
theorem putBits_length : ∀ (on : List Int) (l : List UInt8), (putBits l on).length = l.length
  | [], l => rfl
  | i :: on, l => by
    show (putBits (putBit l i.toNat) on).length = _
    rw [putBits_length on, putBit_length]
theorem putBits_snoc (l : List UInt8) (on : List Int) (i : Int) : putBits l (on ++ [i]) = putBit (putBits l on) i.toNat := by simp [putBits]
theorem putBits_append (l : List UInt8) (a b : List Int) : putBits l (a ++ b) = putBits (putBits l a) b := by simp [putBits]

theorem bitAt_putBit (l : List UInt8) (i j : Nat) (hi : i / 8 < l.length) : bitAt (putBit l i) j = (bitAt l j || decide (i = j)) := by
  have hlt : (l.getD (i / 8) 0).toNat ||| 2 ^ (i % 8) < 256 := or_lt_256 _ _ (UInt8.toNat_lt _) (pow_lt_256 _ (by omega))
  unfold bitAt putBit
  by_cases h : i / 8 = j / 8
  · have e1 : (l.set (i / 8) (UInt8.ofNat ((l.getD (i / 8) 0).toNat ||| 2 ^ (i % 8)))).getD (j / 8) 0 = UInt8.ofNat ((l.getD (i / 8) 0).toNat ||| 2 ^ (i % 8)) := by
      rw [← h, List.getD_eq_getElem?_getD, List.getElem?_set_self hi]; rfl
    rw [e1, UInt8.toNat_ofNat_of_lt' hlt, Nat.testBit_or, Nat.testBit_two_pow, h]
    congr 1
    by_cases hij : i = j
    · subst hij; simp
    · have : ¬ i % 8 = j % 8 := by omega
      simp [this, hij]
  · have e1 : (l.set (i / 8) (UInt8.ofNat ((l.getD (i / 8) 0).toNat ||| 2 ^ (i % 8)))).getD (j / 8) 0 = l.getD (j / 8) 0 := by
      rw [List.getD_eq_getElem?_getD, List.getElem?_set_ne h, List.getD_eq_getElem?_getD]
    rw [e1]
    have : ¬ i = j := by intro e; subst e; exact h rfl
    simp [this]

theorem bitAt_putBits : ∀ (on : List Int) (l : List UInt8) (j : Nat), (∀ x ∈ on, 0 ≤ x ∧ x.toNat / 8 < l.length) → bitAt (putBits l on) j = (bitAt l j || decide ((j : Int) ∈ on))
  | [], l, j, _ => by simp [putBits]
  | i :: on, l, j, h => by
    have hi := h i (by simp)
    show bitAt (putBits (putBit l i.toNat) on) j = _
    rw [bitAt_putBits on _ j (fun x hx => by rw [putBit_length]; exact h x (by simp [hx])), bitAt_putBit l _ j hi.2, Bool.or_assoc]
    congr 1
    have e : (i.toNat = j) = ((j : Int) = i) := by apply propext; omega
    by_cases hj : (j : Int) = i
    · simp [e, hj]
    · have h2 : ¬ i.toNat = j := by rw [e]; exact hj
      simp [h2, hj]

theorem bitAt_zeros (n j : Nat) : bitAt (List.replicate n 0) j = false := by
  unfold bitAt
  have : (List.replicate n (0 : UInt8)).getD (j / 8) 0 = 0 := by
    rw [List.getD_eq_getElem?_getD, List.getElem?_replicate]
    split <;> rfl
  rw [this]; simp

theorem bitAt_out (l : List UInt8) (j : Nat) (h : 8 * l.length ≤ j) : bitAt l j = false := by
  unfold bitAt
  have : l.getD (j / 8) 0 = 0 := by
    rw [List.getD_eq_getElem?_getD, List.getElem?_eq_none (by omega)]; rfl
  rw [this]; simp
theorem bitAt_lt {l : List UInt8} {j : Nat} (h : bitAt l j = true) : j < 8 * l.length := by
  rcases Nat.lt_or_ge j (8 * l.length) with k | k
  · exact k
  · rw [bitAt_out l j k] at h; cases h

theorem byte_ext {a b : UInt8} (h : ∀ i, i < 8 → a.toNat.testBit i = b.toNat.testBit i) : a = b := by
  apply UInt8.toNat_inj.1
  apply Nat.eq_of_testBit_eq
  intro i
  rcases Nat.lt_or_ge i 8 with k | k
  · exact h i k
  · have e : (256 : Nat) ≤ 2 ^ i := by
      have : 2 ^ 8 ≤ 2 ^ i := Nat.pow_le_pow_right (by omega) k
      omega
    rw [Nat.testBit_lt_two_pow (Nat.lt_of_lt_of_le (UInt8.toNat_lt a) e), Nat.testBit_lt_two_pow (Nat.lt_of_lt_of_le (UInt8.toNat_lt b) e)]

theorem bytes_ext_bits {a b : List UInt8} (hl : a.length = b.length) (h : ∀ j, bitAt a j = bitAt b j) : a = b := by
  apply List.ext_getElem hl
  intro k h1 h2
  apply byte_ext
  intro i hi
  have := h (8 * k + i)
  unfold bitAt at this
  rw [show (8 * k + i) / 8 = k by omega, show (8 * k + i) % 8 = i by omega, List.getD_eq_getElem?_getD, List.getD_eq_getElem?_getD, List.getElem?_eq_getElem h1, List.getElem?_eq_getElem h2] at this
  exact this

/-- The numbers below k of the bits that are set in bytes, rising. -/
def onsTo (l : List UInt8) (k : Nat) : List Int := ((List.range k).filter (bitAt l)).map (fun j : Nat => (j : Int))
def onsOf (l : List UInt8) : List Int := onsTo l (8 * l.length)

theorem onsTo_succ_on {l : List UInt8} {k : Nat} (h : bitAt l k = true) : onsTo l (k + 1) = onsTo l k ++ [(k : Int)] := by
  simp [onsTo, List.range_succ, List.filter_append, h]
theorem onsTo_succ_off {l : List UInt8} {k : Nat} (h : bitAt l k = false) : onsTo l (k + 1) = onsTo l k := by
  simp [onsTo, List.range_succ, List.filter_append, h]
theorem mem_onsTo {l : List UInt8} {k : Nat} {x : Int} : x ∈ onsTo l k ↔ 0 ≤ x ∧ x < k ∧ bitAt l x.toNat = true := by
  simp only [onsTo, List.mem_map, List.mem_filter, List.mem_range]
  constructor
  · rintro ⟨j, ⟨h1, h2⟩, rfl⟩; exact ⟨by omega, by omega, by simpa using h2⟩
  · rintro ⟨h1, h2, h3⟩; exact ⟨x.toNat, ⟨by omega, h3⟩, by omega⟩
theorem onsTo_rises (l : List UInt8) (k : Nat) : (onsTo l k).Pairwise (· < ·) := by
  unfold onsTo
  rw [List.pairwise_map]
  exact (List.Pairwise.filter _ List.pairwise_lt_range).imp fun h => by omega
theorem onsTo_length (l : List UInt8) (k : Nat) : (onsTo l k).length ≤ k := by
  unfold onsTo
  rw [List.length_map]
  exact Nat.le_trans (List.length_filter_le _ _) (by simp)
theorem mem_onsOf {l : List UInt8} {x : Int} : x ∈ onsOf l ↔ 0 ≤ x ∧ bitAt l x.toNat = true := by
  unfold onsOf
  rw [mem_onsTo]
  constructor
  · rintro ⟨h1, _, h3⟩; exact ⟨h1, h3⟩
  · rintro ⟨h1, h3⟩; exact ⟨h1, by have := bitAt_lt h3; omega, h3⟩
theorem onsOf_rises (l : List UInt8) : (onsOf l).Pairwise (· < ·) := onsTo_rises _ _

/-- Of a rising list of numbers whose bits are just those that are set: it is what is told. -/
theorem onsOf_eq {l : List UInt8} {on : List Int} (hr : on.Pairwise (· < ·)) (h0 : ∀ x ∈ on, 0 ≤ x) (h : ∀ j : Nat, bitAt l j = decide ((j : Int) ∈ on)) : onsOf l = on := by
  refine rise_ext (onsOf_rises l) hr fun x => ?_
  rw [mem_onsOf]
  constructor
  · rintro ⟨h1, h2⟩
    rw [h] at h2
    have e : ((x.toNat : Nat) : Int) = x := by omega
    rw [e] at h2
    simpa using h2
  · intro hx
    have h1 := h0 x hx
    have e : ((x.toNat : Nat) : Int) = x := by omega
    exact ⟨h1, by rw [h, e]; simpa using hx⟩

/-! ### the bytes of bits -/
def listOf (n : Int) (on : List Int) : List UInt8 := putBit (putBits (List.replicate (n.toNat / 8 + 1) 0) on) n.toNat
def vecOf (n : Int) (on : List Int) : List UInt8 := putBits (List.replicate ((n.toNat + 7) / 8) 0) on
theorem listOf_length (n : Int) (on : List Int) : (listOf n on).length = n.toNat / 8 + 1 := by simp [listOf, putBit_length, putBits_length]
theorem vecOf_length (n : Int) (on : List Int) : (vecOf n on).length = (n.toNat + 7) / 8 := by simp [vecOf, putBits_length]
theorem bitAt_listOf {n : Int} {on : List Int} (h : rightB n on = true) (j : Nat) : bitAt (listOf n on) j = (decide ((j : Int) ∈ on) || decide (n.toNat = j)) := by
  obtain ⟨⟨h1, h2⟩, _, h4⟩ := (rightB_iff n on).1 h
  unfold listOf
  rw [bitAt_putBit _ _ _ (by rw [putBits_length, List.length_replicate]; omega), bitAt_putBits on _ _ (fun x hx => ⟨(h4 x hx).1, by have := h4 x hx; rw [List.length_replicate]; omega⟩), bitAt_zeros, Bool.false_or]
theorem bitAt_vecOf {n : Int} {on : List Int} (h : rightB n on = true) (j : Nat) : bitAt (vecOf n on) j = decide ((j : Int) ∈ on) := by
  obtain ⟨⟨h1, h2⟩, _, h4⟩ := (rightB_iff n on).1 h
  unfold vecOf
  rw [bitAt_putBits on _ _ (fun x hx => ⟨(h4 x hx).1, by have := h4 x hx; rw [List.length_replicate]; omega⟩), bitAt_zeros, Bool.false_or]
theorem onsOf_vecOf {n : Int} {on : List Int} (h : rightB n on = true) : onsOf (vecOf n on) = on := by
  obtain ⟨_, h3, h4⟩ := (rightB_iff n on).1 h
  exact onsOf_eq h3 (fun x hx => (h4 x hx).1) (bitAt_vecOf h)
theorem onsOf_listOf {n : Int} {on : List Int} (h : rightB n on = true) : onsOf (listOf n on) = on ++ [n] := by
  obtain ⟨⟨h1, h2⟩, h3, h4⟩ := (rightB_iff n on).1 h
  refine onsOf_eq ?_ ?_ ?_
  · rw [List.pairwise_append]
    exact ⟨h3, by simp, fun a ha b hb => by simp at hb; subst hb; exact (h4 a ha).2⟩
  · intro x hx
    simp only [List.mem_append, List.mem_singleton] at hx
    rcases hx with hx | rfl
    · exact (h4 x hx).1
    · exact h1
  · intro j
    rw [bitAt_listOf h]
    by_cases hj : (j : Int) ∈ on
    · simp [hj]
    · have e : (n.toNat = j) = ((j : Int) = n) := by apply propext; omega
      simp [hj, e]

/-- How many bits a byte's number has. -/
def bitLen8 (b : UInt8) : Nat := if b.toNat = 0 then 0 else Nat.log2 b.toNat + 1
/-- The number of the highest bit that is set in the last byte. -/
def endAt (l : List UInt8) : Int := 8 * ((l.length : Int) - 1) + (bitLen8 (l.getD (l.length - 1) 0) : Int) - 1

/-- Unlist, told of bytes. -/
def unlistOf (s : List UInt8) (most : Int) : Int × List Int × Int :=
  if s = [] ∨ s.getD (s.length - 1) 0 = 0 then (0, [], 2)
  else if most < endAt s ∨ 2048 < endAt s then (0, [], 4)
  else (endAt s, (onsOf s).dropLast, 0)
/-- Unvector, told of bytes. -/
def unvecOf (s : List UInt8) (n : Int) : Int × List Int × Int :=
  if fitsB n = false then (0, [], 1)
  else if (s.length : Int) ≠ (n + 7) / 8 then (0, [], 2)
  else if (onsOf s).any (fun i => decide (n ≤ i)) then (0, [], 2)
  else (n, onsOf s, 0)

theorem testBit_top (b : Nat) (hb : b ≠ 0) : b.testBit (Nat.log2 b) = true := by
  have := Nat.log2_self_le hb
  have h2 := @Nat.lt_log2_self b
  rw [Nat.testBit_eq_decide_div_mod_eq, decide_eq_true_eq]
  have h3 : b / 2 ^ b.log2 = 1 := by
    apply Nat.div_eq_of_lt_le
    · simpa using this
    · rw [Nat.pow_succ] at h2; omega
  rw [h3]
theorem testBit_above (b i : Nat) (h : Nat.log2 b < i) : b.testBit i = false := by
  by_cases hb : b = 0
  · subst hb; simp
  · apply Nat.testBit_lt_two_pow
    have h2 := @Nat.lt_log2_self b
    exact Nat.lt_of_lt_of_le h2 (Nat.pow_le_pow_right (by omega) h)

/-- Of bytes whose last one is not 0: the last bit that is set. -/
theorem end_top {l : List UInt8} (h0 : l ≠ []) (h1 : l.getD (l.length - 1) 0 ≠ 0) : 0 ≤ endAt l ∧ bitAt l (endAt l).toNat = true ∧ (∀ j : Nat, endAt l < j → bitAt l j = false) ∧ (endAt l).toNat / 8 + 1 = l.length := by
  have hlen : 0 < l.length := List.length_pos_iff.2 h0
  have hb : (l.getD (l.length - 1) 0).toNat ≠ 0 := by
    intro e; apply h1; apply UInt8.toNat_inj.1; simpa using e
  have hlog : Nat.log2 (l.getD (l.length - 1) 0).toNat < 8 := by
    have := UInt8.toNat_lt (l.getD (l.length - 1) 0)
    rcases Nat.lt_or_ge (Nat.log2 (l.getD (l.length - 1) 0).toNat) 8 with k | k
    · exact k
    · have h2 := Nat.log2_self_le hb
      have h3 : 2 ^ 8 ≤ 2 ^ Nat.log2 (l.getD (l.length - 1) 0).toNat := Nat.pow_le_pow_right (by omega) k
      omega
  have he : endAt l = ((8 * (l.length - 1) + Nat.log2 (l.getD (l.length - 1) 0).toNat : Nat) : Int) := by
    unfold endAt bitLen8
    rw [if_neg hb]; omega
  rw [he]
  refine ⟨by omega, ?_, ?_, ?_⟩
  · rw [Int.toNat_natCast]
    unfold bitAt
    rw [show (8 * (l.length - 1) + Nat.log2 (l.getD (l.length - 1) 0).toNat) / 8 = l.length - 1 by omega, show (8 * (l.length - 1) + Nat.log2 (l.getD (l.length - 1) 0).toNat) % 8 = Nat.log2 (l.getD (l.length - 1) 0).toNat by omega]
    exact testBit_top _ hb
  · intro j hj
    rcases Nat.lt_or_ge j (8 * l.length) with k | k
    · unfold bitAt
      rw [show j / 8 = l.length - 1 by omega]
      exact testBit_above _ _ (by omega)
    · exact bitAt_out l j k
  · omega

theorem onsOf_end {l : List UInt8} (h0 : l ≠ []) (h1 : l.getD (l.length - 1) 0 ≠ 0) : onsOf l = (onsOf l).dropLast ++ [endAt l] := by
  obtain ⟨e0, e1, e2, _⟩ := end_top h0 h1
  have hm : endAt l ∈ onsOf l := mem_onsOf.2 ⟨e0, e1⟩
  have hne : onsOf l ≠ [] := List.ne_nil_of_mem hm
  have hlast : (onsOf l).getLast hne = endAt l := by
    have hin : (onsOf l).getLast hne ∈ onsOf l := List.getLast_mem hne
    obtain ⟨g0, g1⟩ := mem_onsOf.1 hin
    have hle : (onsOf l).getLast hne ≤ endAt l := by
      rcases Int.lt_or_le (endAt l) ((onsOf l).getLast hne) with k | k
      · rw [e2 _ (by omega)] at g1; cases g1
      · exact k
    have hge : endAt l ≤ (onsOf l).getLast hne := by
      have hp := onsOf_rises l
      rw [← List.dropLast_concat_getLast hne, List.pairwise_append] at hp
      rw [← List.dropLast_concat_getLast hne, List.mem_append, List.mem_singleton] at hm
      rcases hm with hm | hm
      · exact Int.le_of_lt (hp.2.2 _ hm _ (by simp))
      · omega
    omega
  conv => lhs; rw [← List.dropLast_concat_getLast hne, hlast]
theorem drop_mem {l : List UInt8} (h0 : l ≠ []) (h1 : l.getD (l.length - 1) 0 ≠ 0) : (onsOf l).dropLast.Pairwise (· < ·) ∧ ∀ x, x ∈ (onsOf l).dropLast ↔ (0 ≤ x ∧ bitAt l x.toNat = true ∧ x < endAt l) := by
  have hp := onsOf_rises l
  have he := onsOf_end h0 h1
  have hm : ∀ x, x ∈ onsOf l ↔ (x ∈ (onsOf l).dropLast ∨ x = endAt l) := by
    intro x
    conv => lhs; rw [he]
    simp
  rw [he, List.pairwise_append] at hp
  refine ⟨hp.1, fun x => ?_⟩
  constructor
  · intro hx
    obtain ⟨g0, g1⟩ := mem_onsOf.1 ((hm x).2 (.inl hx))
    exact ⟨g0, g1, hp.2.2 x hx _ (by simp)⟩
  · rintro ⟨g0, g1, g2⟩
    rcases (hm x).1 (mem_onsOf.2 ⟨g0, g1⟩) with k | k
    · exact k
    · omega

theorem unlist_list {n : Int} {on : List Int} (h : rightB n on = true) (most : Int) : unlistOf (listOf n on) most = if most < n then (0, [], 4) else (n, on, 0) := by
  obtain ⟨⟨h1, h2⟩, h3, h4⟩ := (rightB_iff n on).1 h
  have hl := listOf_length n on
  have h0 : listOf n on ≠ [] := by intro e; rw [e] at hl; simp at hl
  have hn : bitAt (listOf n on) n.toNat = true := by rw [bitAt_listOf h]; simp
  have hz : (listOf n on).getD ((listOf n on).length - 1) 0 ≠ 0 := by
    intro e
    unfold bitAt at hn
    rw [hl, Nat.add_sub_cancel] at e
    rw [e] at hn
    simp at hn
  obtain ⟨e0, e1, e2, e3⟩ := end_top h0 hz
  have hend : endAt (listOf n on) = n := by
    have hle : endAt (listOf n on) ≤ n := by
      rw [bitAt_listOf h] at e1
      simp only [Bool.or_eq_true, decide_eq_true_eq] at e1
      rcases e1 with k | k
      · have := (h4 _ k).2; omega
      · omega
    rcases Int.lt_or_le (endAt (listOf n on)) n with k | k
    · have := e2 n.toNat (by omega)
      rw [hn] at this; cases this
    · omega
  unfold unlistOf
  rw [if_neg (by intro e; rcases e with e | e; exact h0 e; exact hz e), hend, onsOf_listOf h]
  by_cases hm : most < n
  · rw [if_pos (.inl hm), if_pos hm]
  · rw [if_neg (by omega), if_neg hm]; simp
theorem unvec_vec {n : Int} {on : List Int} (h : rightB n on = true) : unvecOf (vecOf n on) n = (n, on, 0) := by
  obtain ⟨⟨h1, h2⟩, h3, h4⟩ := (rightB_iff n on).1 h
  unfold unvecOf
  rw [if_neg (by rw [(fitsB_iff n).2 ⟨h1, h2⟩]; simp), if_neg (by rw [vecOf_length]; omega), onsOf_vecOf h, if_neg]
  simp only [List.any_eq_true, decide_eq_true_eq, not_exists, not_and]
  intro x hx hx2
  have := h4 x hx
  omega
theorem unlist_right {s : List UInt8} {most : Int} {n : Int} {on : List Int} (h : unlistOf s most = (n, on, 0)) : rightB n on = true ∧ n ≤ most ∧ listOf n on = s := by
  unfold unlistOf at h
  by_cases c1 : s = [] ∨ s.getD (s.length - 1) 0 = 0
  · rw [if_pos c1] at h; simp at h
  rw [if_neg c1] at h
  by_cases c2 : most < endAt s ∨ 2048 < endAt s
  · rw [if_pos c2] at h; simp at h
  rw [if_neg c2] at h
  simp only [Prod.mk.injEq] at h
  obtain ⟨rfl, rfl, _⟩ := h
  have h0 : s ≠ [] := fun e => c1 (.inl e)
  have h1 : s.getD (s.length - 1) 0 ≠ 0 := fun e => c1 (.inr e)
  obtain ⟨e0, e1, e2, e3⟩ := end_top h0 h1
  obtain ⟨p, hm⟩ := drop_mem h0 h1
  have hr : rightB (endAt s) (onsOf s).dropLast = true := (rightB_iff _ _).2 ⟨⟨e0, by omega⟩, p, fun x hx => ⟨((hm x).1 hx).1, ((hm x).1 hx).2.2⟩⟩
  refine ⟨hr, by omega, ?_⟩
  refine bytes_ext_bits (by rw [listOf_length, e3]) fun j => ?_
  rw [bitAt_listOf hr]
  have e : ((j : Int).toNat) = j := by omega
  have hj := hm (j : Int)
  rw [e] at hj
  by_cases c : (j : Int) < endAt s
  · have c3 : ¬ (endAt s).toNat = j := by omega
    by_cases cb : bitAt s j = true
    · simp [hj.2 ⟨by omega, cb, c⟩, cb]
    · have : ¬ (j : Int) ∈ (onsOf s).dropLast := fun k => cb (hj.1 k).2.1
      simp [this, c3, cb]
  · have c4 : ¬ (j : Int) ∈ (onsOf s).dropLast := fun k => c (hj.1 k).2.2
    by_cases c5 : (endAt s).toNat = j
    · subst c5; simp [e1]
    · rw [e2 j (by omega)]; simp [c4, c5]
theorem unvec_right {s : List UInt8} {k n : Int} {on : List Int} (h : unvecOf s k = (n, on, 0)) : rightB n on = true ∧ n = k ∧ vecOf n on = s := by
  unfold unvecOf at h
  by_cases c1 : fitsB k = false
  · rw [if_pos c1] at h; simp at h
  rw [if_neg c1] at h
  by_cases c2 : (s.length : Int) ≠ (k + 7) / 8
  · rw [if_pos c2] at h; simp at h
  rw [if_neg c2] at h
  by_cases c3 : (onsOf s).any (fun i => decide (k ≤ i)) = true
  · rw [if_pos c3] at h; simp at h
  rw [if_neg c3] at h
  simp only [Prod.mk.injEq] at h
  obtain ⟨rfl, rfl, _⟩ := h
  have hf := (fitsB_iff k).1 (by simpa using c1)
  have hr : rightB k (onsOf s) = true := (rightB_iff _ _).2 ⟨hf, onsOf_rises s, fun x hx => ⟨(mem_onsOf.1 hx).1, by
    rcases Int.lt_or_le x k with q | q
    · exact q
    · exact absurd (List.any_eq_true.2 ⟨x, hx, by simpa using q⟩) c3⟩⟩
  refine ⟨hr, rfl, ?_⟩
  refine bytes_ext_bits (by rw [vecOf_length]; omega) fun j => ?_
  rw [bitAt_vecOf hr]
  have e : ((j : Int).toNat) = j := by omega
  have hj := mem_onsOf (l := s) (x := (j : Int))
  rw [e] at hj
  by_cases cb : bitAt s j = true
  · simp [hj.2 ⟨by omega, cb⟩, cb]
  · have : ¬ (j : Int) ∈ onsOf s := fun k => cb (hj.1 k).2
    simp [this, cb]
theorem unlist_err {s : List UInt8} {most : Int} {n e : Int} {on : List Int} (h : unlistOf s most = (n, on, e)) (he : e ≠ 0) : n = 0 ∧ on = [] := by
  unfold unlistOf at h
  split at h
  · simp at h; exact ⟨h.1.symm, h.2.1⟩
  split at h
  · simp at h; exact ⟨h.1.symm, h.2.1⟩
  · simp only [Prod.mk.injEq] at h; exact absurd h.2.2.symm he
theorem unvec_err {s : List UInt8} {k n e : Int} {on : List Int} (h : unvecOf s k = (n, on, e)) (he : e ≠ 0) : n = 0 ∧ on = [] := by
  unfold unvecOf at h
  split at h
  · simp at h; exact ⟨h.1.symm, h.2.1⟩
  split at h
  · simp at h; exact ⟨h.1.symm, h.2.1⟩
  split at h
  · simp at h; exact ⟨h.1.symm, h.2.1⟩
  · simp only [Prod.mk.injEq] at h; exact absurd h.2.2.symm he
theorem listOf_inj {n m : Int} {a b : List Int} (ha : rightB n a = true) (hb : rightB m b = true) (h : listOf n a = listOf m b) : n = m ∧ a = b := by
  have e1 := unlist_list ha 2048
  rw [h, unlist_list hb 2048] at e1
  have h1 := ((rightB_iff n a).1 ha).1
  have h2 := ((rightB_iff m b).1 hb).1
  rw [if_neg (by omega), if_neg (by omega)] at e1
  simp only [Prod.mk.injEq] at e1
  exact ⟨e1.1.symm, e1.2.1.symm⟩
theorem vecOf_inj {n : Int} {a b : List Int} (ha : rightB n a = true) (hb : rightB n b = true) (h : vecOf n a = vecOf n b) : a = b := by
  rw [← onsOf_vecOf ha, ← onsOf_vecOf hb, h]
end Go.Proofs.YtjipibpcnheniaaDoor
