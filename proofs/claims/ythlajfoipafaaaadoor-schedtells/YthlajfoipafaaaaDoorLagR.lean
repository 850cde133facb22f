/- lag.Median.
   Plain facts on medians.
   Plain facts on the words of whole numbers, and on Ticks.
   Plain facts on Scale.
   The document's own answer for layer 3: the small functions. -/
import Derived.Test.YthlajfoipafaaaaDoorLagD
import Derived.Deep.LoopGhost
import Derived.WalkMore
namespace Go.Proofs.YthlajfoipafaaaaDoor
open Go.RowKit Ieee

def cntB (p : Nat → Bool) (l : List Nat) : Nat := (l.filter p).length
def okW (l : List Nat) (x : Nat) : Bool := decide (cntB (fun y => lessW y x) l ≤ 1) && decide (cntB (fun y => lessW x y) l ≤ 1)
def midW (l : List Nat) : Nat := (l.find? (okW l)).getD 0

theorem cntB_step (p : Nat → Bool) (l : List Nat) (t : Nat) (ht : t < l.length) : cntB p (l.take (t + 1)) = cntB p (l.take t) + (p (l.getD t 0)).toNat := by
  unfold cntB
  rw [List.take_succ_eq_append_getElem ht, List.filter_append, List.length_append, List.getD_eq_getElem?_getD, List.getElem?_eq_getElem ht, Option.getD_some]
  cases h : p l[t] <;> simp [h]
theorem cntB_take (p : Nat → Bool) (l : List Nat) (t : Nat) : cntB p (l.take t) ≤ cntB p l := by
  unfold cntB
  exact ((List.take_sublist t l).filter p).length_le
theorem find_drop (l : List Nat) (p : Nat → Bool) (o : Nat) (ho : o < l.length) : (l.drop o).find? p = if p (l.getD o 0) then some (l.getD o 0) else (l.drop (o + 1)).find? p := by
  rw [List.drop_eq_getElem_cons ho, List.find?_cons, List.getD_eq_getElem?_getD, List.getElem?_eq_getElem ho, Option.getD_some]
  cases h : p l[o] <;> rfl
theorem okW_no1 {l : List Nat} {x : Nat} (t : Nat) (h : 1 < cntB (fun y => lessW y x) (l.take t)) : okW l x = false := by
  have := cntB_take (fun y => lessW y x) l t
  unfold okW
  rw [decide_eq_false (by omega)]; rfl
theorem okW_no2 {l : List Nat} {x : Nat} (t : Nat) (h : 1 < cntB (fun y => lessW x y) (l.take t)) : okW l x = false := by
  have := cntB_take (fun y => lessW x y) l t
  unfold okW
  rw [decide_eq_false (p := cntB (fun y => lessW x y) l ≤ 1) (by omega), Bool.and_false]

def medW (a b c : Nat) : Nat := plainW (midW [a, b, c])
theorem midW_lt {a b c : Nat} (ha : a < 18446744073709551616) (hb : b < 18446744073709551616) (hc : c < 18446744073709551616) : midW [a, b, c] < 18446744073709551616 := by
  unfold midW
  cases h : [a, b, c].find? (okW [a, b, c]) with
  | none => decide
  | some x =>
    have := List.mem_of_find?_eq_some h
    simp only [List.mem_cons, List.not_mem_nil, or_false] at this
    rcases this with rfl | rfl | rfl
    · exact ha
    · exact hb
    · exact hc
end Go.Proofs.YthlajfoipafaaaaDoor

namespace Go.Proofs.YthlajfoipafaaaaDoor

theorem cnt3 (p : Nat → Bool) (a b c : Nat) : cntB p [a, b, c] = (p a).toNat + (p b).toNat + (p c).toNat := by
  unfold cntB
  cases h1 : p a <;> cases h2 : p b <;> cases h3 : p c <;> simp [h1, h2, h3]

/- of three numbers, that in the middle -/
def midN (x y z : Nat) : Nat := max (min x y) (min (max x y) z)
def okN (x y z v : Nat) : Prop := (if x < v then 1 else 0) + (if y < v then 1 else 0) + (if z < v then 1 else 0) ≤ 1 ∧ (if v < x then 1 else 0) + (if v < y then 1 else 0) + (if v < z then 1 else 0) ≤ 1
theorem okN_iff (x y z v : Nat) (h : v = x ∨ v = y ∨ v = z) : okN x y z v ↔ v = midN x y z := by
  unfold okN midN
  rcases Nat.lt_trichotomy x y with h1 | h1 | h1 <;> rcases Nat.lt_trichotomy y z with h2 | h2 | h2 <;> rcases h with h | h | h <;> (repeat' split) <;> omega
theorem okW_rank (a b c x : Nat) : okW [a, b, c] x = true ↔ okN (rankW a) (rankW b) (rankW c) (rankW x) := by
  unfold okW okN
  rw [cnt3, cnt3]
  simp only [Bool.and_eq_true, decide_eq_true_eq, lessW, Bool.toNat, Bool.cond_decide]
theorem midN_one (x y z : Nat) : midN x y z = x ∨ midN x y z = y ∨ midN x y z = z := by unfold midN; omega

theorem midW_spec (a b c : Nat) : rankW (midW [a, b, c]) = midN (rankW a) (rankW b) (rankW c) ∧ midW [a, b, c] ∈ [a, b, c] := by
  unfold midW
  cases h : [a, b, c].find? (okW [a, b, c]) with
  | none =>
    exfalso
    rw [List.find?_eq_none] at h
    have h1 := h a (by simp)
    have h2 := h b (by simp)
    have h3 := h c (by simp)
    rw [okW_rank, okN_iff _ _ _ _ (by simp)] at h1 h2 h3
    rcases midN_one (rankW a) (rankW b) (rankW c) with e | e | e
    · exact h1 e.symm
    · exact h2 e.symm
    · exact h3 e.symm
  | some x =>
    have hm := List.mem_of_find?_eq_some h
    have ho := List.find?_some h
    rw [okW_rank, okN_iff _ _ _ _ (by simp only [List.mem_cons, List.not_mem_nil, or_false] at hm; rcases hm with rfl | rfl | rfl <;> simp)] at ho
    exact ⟨ho, hm⟩

theorem medW_rank (a b c : Nat) : rankW (medW a b c) = midN (rankW a) (rankW b) (rankW c) := by
  unfold medW
  rw [rankW_plain, (midW_spec a b c).1]
theorem medW_lt {a b c : Nat} (ha : a < 18446744073709551616) (hb : b < 18446744073709551616) (hc : c < 18446744073709551616) : medW a b c < 18446744073709551616 := plainW_lt (midW_lt ha hb hc)
theorem medW_plain (a b c : Nat) : plainW (medW a b c) = medW a b c := plainW_idem _
/- one of the same rank is the same -/
theorem medW_eq {a b c : Nat} (ha : a < 18446744073709551616) (hb : b < 18446744073709551616) (hc : c < 18446744073709551616) {x : Nat} (hx : x < 18446744073709551616) (h : rankW x = midN (rankW a) (rankW b) (rankW c)) : medW a b c = plainW x := by
  rw [← medW_plain]
  exact rankW_inj (medW_lt ha hb hc) hx ((medW_rank a b c).trans h.symm)
theorem medW_ne {a b c x : Nat} (hx : rankW x ≠ midN (rankW a) (rankW b) (rankW c)) : medW a b c ≠ plainW x := by
  intro e
  apply hx
  rw [← medW_rank, e, rankW_plain]
theorem medW_cnt (a b c : Nat) : cntB (fun y => lessW y (medW a b c)) [a, b, c] ≤ 1 ∧ cntB (fun y => lessW (medW a b c) y) [a, b, c] ≤ 1 := by
  have h := (okN_iff (rankW a) (rankW b) (rankW c) (rankW (medW a b c)) (by rw [medW_rank]; exact midN_one _ _ _)).2 (medW_rank a b c)
  have h2 := (okW_rank a b c (medW a b c)).2 h
  unfold okW at h2
  simpa using h2
end Go.Proofs.YthlajfoipafaaaaDoor

namespace Go.Proofs.YthlajfoipafaaaaDoor
open Ieee

theorem pw_succ (k : Nat) : pw (k + 1) = pw k * 2 := Nat.pow_succ 2 k
theorem valN_full {M : Nat} (j : Nat) (h1 : 4503599627370496 ≤ M) (h2 : M < 9007199254740992) : valN (j * 4503599627370496 + M) = M * pw j := by
  have e : j * 4503599627370496 + M = (j + 1) * 4503599627370496 + (M - 4503599627370496) := by omega
  have e2 : 4503599627370496 + (M - 4503599627370496) = M := by omega
  rw [e, valN_of j (by omega), e2]

theorem of_val (s : Bool) {n : Nat} (h : n ≤ 9007199254740992) : ∃ r, double.nearest s n 0 = wordZ s r ∧ valN r = n * U ∧ r < 9218868437227405312 := by
  rcases (by omega : n = 0 ∨ (0 < n ∧ n < 9007199254740992) ∨ n = 9007199254740992) with rfl | ⟨h1, h2⟩ | rfl
  · exact ⟨0, rfl, by rw [Nat.zero_mul]; rfl, by decide⟩
  · obtain ⟨M, j, hM1, hM2, hj1, hj2, hM, hn⟩ := nearest_int s h1 h2
    refine ⟨_, hn, ?_, by omega⟩
    rw [valN_full j hM1 hM2, hM, Nat.mul_assoc, U_eq (i := 1074 - j) (j := j) (by omega)]
    rfl
  · have e := nearest_shift s (m := 4503599627370496) 1 1 (by decide)
    have e1 : (1 : Int) - ((1 : Nat) : Int) = 0 := by rfl
    have e2 : 4503599627370496 * 2 ^ 1 = 9007199254740992 := by rfl
    rw [e1, e2] at e
    have e3 : (1 : Int) = -1074 + ((1075 : Nat) : Int) := by rfl
    refine ⟨1075 * 4503599627370496 + 4503599627370496, ?_, ?_, by decide⟩
    · rw [e, e3, nearest_full s 1075 (by decide) (by decide), Nat.min_eq_left (by decide)]
    · rw [valN_full 1075 (by decide) (by decide)]
      have e4 := pw_succ 1074
      rw [show 1074 + 1 = 1075 from rfl] at e4
      unfold U
      rw [e4]
      generalize pw 1074 = z
      omega

theorem of_word (n : Int) (h1 : -9007199254740992 ≤ n) (h2 : n ≤ 9007199254740992) :
    ∃ r, valN r = n.natAbs * U ∧ r < 9218868437227405312 ∧ (n = 0 ↔ r = 0) ∧ ofW n = (if n < 0 then 9223372036854775808 + r else r) ∧ rankW (ofW n) = (if n < 0 then 9223372036854775807 - r else 9223372036854775808 + r) := by
  obtain ⟨r, hr, hv, hlt⟩ := of_val (decide (n < 0)) (n := n.natAbs) (by omega)
  have hU := U_pos
  have hz : n = 0 ↔ r = 0 := by
    rw [valN_zero, hv]
    constructor
    · intro h; subst h; simp
    · intro h
      rcases Nat.mul_eq_zero.1 h with g | g
      · omega
      · omega
  have hw : ofW n = (if n < 0 then 9223372036854775808 + r else r) := by
    show plainW (double.nearest (decide (n < 0)) n.natAbs 0) = _
    rw [hr]
    unfold plainW
    rw [wordZ_mod _ (by omega), if_neg (by omega)]
    by_cases z : r = 0
    · rw [if_pos z, if_neg (by omega), z]
    · rw [if_neg z]
      unfold wordZ
      by_cases g : n < 0 <;> simp [g]
  refine ⟨r, hv, hlt, hz, hw, ?_⟩
  unfold rankW
  have hp : plainW (ofW n) = ofW n := plainW_idem _
  rw [hp, hw]
  by_cases g : n < 0
  · rw [if_pos g, if_pos (by omega), if_pos g]; omega
  · rw [if_neg g, if_neg (by omega), if_neg g]; omega
theorem ofW_lt (n : Int) : ofW n < 18446744073709551616 := plainW_lt (floatOfInt_lt n)
theorem ofW_plain (n : Int) : plainW (ofW n) = ofW n := plainW_idem _

theorem of_rank_lt (x y : Int) (hx1 : -9007199254740992 ≤ x) (hx2 : x ≤ 9007199254740992) (hy1 : -9007199254740992 ≤ y) (hy2 : y ≤ 9007199254740992) : rankW (ofW x) < rankW (ofW y) ↔ x < y := by
  obtain ⟨r, hr, hrl, hrz, -, hr2⟩ := of_word x hx1 hx2
  obtain ⟨q, hq, hql, hqz, -, hq2⟩ := of_word y hy1 hy2
  have hU := U_pos
  have a1 : r < q ↔ x.natAbs < y.natAbs := by rw [← valN_lt_iff, hr, hq]; exact Nat.mul_lt_mul_right hU
  have a2 : q < r ↔ y.natAbs < x.natAbs := by rw [← valN_lt_iff, hr, hq]; exact Nat.mul_lt_mul_right hU
  rw [hr2, hq2]
  by_cases g1 : x < 0 <;> by_cases g2 : y < 0 <;> simp only [g1, g2, if_true, if_false] <;> omega
theorem of_less (x y : Int) (hx1 : -9007199254740992 ≤ x) (hx2 : x ≤ 9007199254740992) (hy1 : -9007199254740992 ≤ y) (hy2 : y ≤ 9007199254740992) : lessW (ofW x) (ofW y) = decide (x < y) := by
  unfold lessW
  exact decide_eq_decide.2 (of_rank_lt x y hx1 hx2 hy1 hy2)
theorem of_inj (x y : Int) (hx1 : -9007199254740992 ≤ x) (hx2 : x ≤ 9007199254740992) (hy1 : -9007199254740992 ≤ y) (hy2 : y ≤ 9007199254740992) : ofW x = ofW y ↔ x = y := by
  constructor
  · intro h
    have h1 := of_rank_lt x y hx1 hx2 hy1 hy2
    have h2 := of_rank_lt y x hy1 hy2 hx1 hx2
    rw [h] at h1 h2
    omega
  · intro h; rw [h]

theorem ceilD_whole (a : Nat) : ceilD (a * U) U = a := by
  have hU := U_pos
  apply Nat.le_antisymm
  · exact (ceilD_le hU).2 (Nat.le_refl _)
  · have := (ceilD_le (n := a * U) hU).1 (Nat.le_refl _)
    exact Nat.le_of_mul_le_mul_right this hU

theorem ticks_of (a : Nat) (h : a ≤ 1099511627776) : ticksW (ofW a) = a ∧ ticksE (ofW a) = 0 ∧ ticksW (ofW (-(a : Int))) = 0 ∧ ticksE (ofW (-(a : Int))) = 0 := by
  obtain ⟨r, hr, hrl, hrz, hw, -⟩ := of_word a (by omega) (by omega)
  obtain ⟨q, hq, hql, hqz, hw2, -⟩ := of_word (-(a : Int)) (by omega) (by omega)
  rw [if_neg (by omega)] at hw
  have hn : nanW r = false := by simp [nanW]; omega
  have hle : r ≤ 4787326403894837248 := by
    rw [← valN_le_iff, hr, valN_tick]
    exact Nat.mul_le_mul_right _ (by omega)
  have hn2 : nanW (ofW (-(a : Int))) = false := by rw [hw2]; simp [nanW]; split <;> omega
  refine ⟨?_, ?_, ?_, ?_⟩
  · rw [hw]
    unfold ticksW
    rw [hn, if_neg (by simp)]
    by_cases z : r = 0
    · rw [if_pos (.inr z)]; omega
    · rw [if_neg (by omega), if_neg (by omega), hr]
      exact ceilD_whole a
  · rw [hw]; unfold ticksE; rw [hn]; rfl
  · unfold ticksW
    rw [hn2, if_neg (by simp), if_pos]
    rw [hw2]
    by_cases z : a = 0
    · right; rw [if_neg (by omega)]; omega
    · left; rw [if_pos (by omega)]; omega
  · unfold ticksE; rw [hn2]; rfl

/- Ticks of a word that is no NaN's -/
theorem ticks_cases {w : Nat} (hw : w < 18446744073709551616) (hn : nanW w = false) :
    (rankW w ≤ 9223372036854775808 ∧ ticksW w = 0) ∨ (rankW w = 9223372036854775808 + w ∧ 0 < w ∧ w ≤ 4787326403894837248 ∧ ticksW w = ceilD (valN w) U) ∨ (rankW w = 9223372036854775808 + w ∧ 4787326403894837248 < w ∧ ticksW w = 1099511627776) := by
  have hn' := hn
  simp only [nanW, decide_eq_false_iff_not] at hn'
  unfold ticksW
  rw [hn, if_neg (by simp)]
  by_cases z : 9223372036854775808 ≤ w ∨ w = 0
  · left
    rw [if_pos z]
    refine ⟨?_, rfl⟩
    unfold rankW plainW
    rw [if_neg hn']
    split <;> split <;> omega
  · right
    have hr : rankW w = 9223372036854775808 + w := by
      unfold rankW plainW
      rw [if_neg hn']
      split <;> split <;> omega
    rw [if_neg z]
    by_cases g : 4787326403894837248 < w
    · right; exact ⟨hr, g, by rw [if_pos g]⟩
    · left; exact ⟨hr, by omega, by omega, by rw [if_neg g]⟩
theorem ticks_le {w : Nat} (hw : w < 18446744073709551616) (hn : nanW w = false) : ticksW w ≤ 1099511627776 := by
  rcases ticks_cases hw hn with ⟨-, h⟩ | ⟨-, -, h1, h⟩ | ⟨-, -, h⟩
  · omega
  · rw [h, ceilD_le U_pos, ← valN_tick]
    exact valN_le_iff.2 h1
  · omega
theorem ticks_zero {w : Nat} (hw : w < 18446744073709551616) (hn : nanW w = false) : ticksW w = 0 ↔ lessW 0 w = false := by
  have r0 : rankW 0 = 9223372036854775808 := rfl
  unfold lessW
  rw [r0, decide_eq_false_iff_not]
  rcases ticks_cases hw hn with ⟨h1, h⟩ | ⟨h1, h2, h3, h⟩ | ⟨h1, h2, h⟩
  · omega
  · have := ceilD_pos U_pos (valN_pos h2)
    omega
  · omega
theorem ticks_below {w : Nat} (hw : w < 18446744073709551616) (hn : nanW w = false) (h : 0 < ticksW w) : lessW (ofW ((ticksW w : Int) - 1)) w = true := by
  have hle := ticks_le hw hn
  obtain ⟨r, hr, hrl, hrz, -, hr2⟩ := of_word ((ticksW w : Int) - 1) (by omega) (by omega)
  rw [if_neg (by omega)] at hr2
  have ha : ((ticksW w : Int) - 1).natAbs = ticksW w - 1 := by omega
  rw [ha] at hr
  have hU := U_pos
  unfold lessW
  rw [decide_eq_true_eq, hr2]
  rcases ticks_cases hw hn with ⟨h1, h2⟩ | ⟨h1, h2, h3, h4⟩ | ⟨h1, h2, h3⟩
  · omega
  · rw [h1]
    have : r < w := by
      rw [← valN_lt_iff, hr]
      have := (@ceilD_le (valN w) U (ticksW w - 1) hU)
      omega
    omega
  · rw [h1]
    have : r < w := by
      refine Nat.lt_trans ?_ h2
      rw [← valN_lt_iff, hr, valN_tick]
      exact Nat.mul_lt_mul_of_pos_right (by omega) hU
    omega
theorem ticks_above {w : Nat} (hw : w < 18446744073709551616) (hn : nanW w = false) (h : ticksW w < 1099511627776) : lessW (ofW (ticksW w : Int)) w = false := by
  obtain ⟨r, hr, hrl, hrz, -, hr2⟩ := of_word (ticksW w : Int) (by omega) (by omega)
  rw [if_neg (by omega)] at hr2
  have hU := U_pos
  unfold lessW
  rw [decide_eq_false_iff_not, hr2]
  rcases ticks_cases hw hn with ⟨h1, h2⟩ | ⟨h1, h2, h3, h4⟩ | ⟨h1, h2, h3⟩
  · omega
  · rw [h1]
    have : w ≤ r := by
      rw [← valN_le_iff, hr]
      have := (@ceilD_le (valN w) U (ticksW w) hU)
      simp only [Int.natAbs_natCast]
      omega
    omega
  · omega
theorem ticks_mono {a b : Nat} (ha : a < 18446744073709551616) (hb : b < 18446744073709551616) (na : nanW a = false) (nb : nanW b = false) (h : lessW a b = true) : ticksW a ≤ ticksW b := by
  have hU := U_pos
  have hla := ticks_le ha na
  unfold lessW at h
  rw [decide_eq_true_eq] at h
  rcases ticks_cases ha na with ⟨h1, h2⟩ | ⟨h1, h2, h3, h4⟩ | ⟨h1, h2, h3⟩
  · omega
  · rcases ticks_cases hb nb with ⟨g1, g2⟩ | ⟨g1, g2, g3, g4⟩ | ⟨g1, g2, g3⟩
    · omega
    · rw [h4, g4, ceilD_le hU]
      have h5 : valN a < valN b := valN_lt (by omega)
      have h6 := (ceilD_le (n := valN b) hU).1 (Nat.le_refl _)
      omega
    · omega
  · rcases ticks_cases hb nb with ⟨g1, g2⟩ | ⟨g1, g2, g3, g4⟩ | ⟨g1, g2, g3⟩ <;> omega
end Go.Proofs.YthlajfoipafaaaaDoor

namespace Go.Proofs.YthlajfoipafaaaaDoor
open Ieee

theorem nearest_self {w : Nat} (hw : w < 18446744073709551616) (h0 : 0 < w % 9223372036854775808) (h1 : w % 9223372036854775808 < 9218868437227405312) :
    ∃ m p, double.read w = .number (negW w) m p ∧ 0 < m ∧ double.nearest (negW w) m p = w := by
  by_cases g : w % 9223372036854775808 < 4503599627370496
  · refine ⟨w % 9223372036854775808, -1074, by rw [read_word hw, if_pos g], h0, ?_⟩
    have e := nearest_low (negW w) (M := w % 9223372036854775808) 0 h0 (by omega)
    have e0 : (-1074 : Int) - ((0 : Nat) : Int) = -1074 := by rfl
    rw [e0] at e
    rw [e, rne_zero, wordZ_of hw]
  · obtain ⟨M, j, hN, hx⟩ := normal_self hw (by omega) h1
    obtain ⟨h1, h2, h3, -, m, p, hr, hm, hq⟩ := hN
    refine ⟨m, p, hr, hm, ?_⟩
    have := hq 0
    rw [Int.add_zero] at this
    rw [this, Int.add_zero, Int.add_zero, nearest_full _ _ h1 h2, Nat.min_eq_left (by omega)]
    exact hx.symm

theorem scale_special {w : Nat} (k : Int) (hw : w < 18446744073709551616) (h : w % 9223372036854775808 = 0 ∨ 9218868437227405312 ≤ w % 9223372036854775808) : scaleW w k = plainW w := by
  unfold scaleW ldexpW
  rw [read_word hw]
  rcases h with h | h
  · rw [if_pos (by omega)]
    simp [h]
  · rw [if_neg (by omega), if_neg (by omega)]
    by_cases g : w % 9223372036854775808 = 9218868437227405312
    · rw [if_pos g]
    · rw [if_neg g]
theorem scale_zero {w : Nat} (hw : w < 18446744073709551616) : scaleW w 0 = plainW w := by
  by_cases h : w % 9223372036854775808 = 0 ∨ 9218868437227405312 ≤ w % 9223372036854775808
  · exact scale_special 0 hw h
  · obtain ⟨m, p, hr, hm, hn⟩ := nearest_self hw (by omega) (by omega)
    unfold scaleW ldexpW
    rw [hr]
    show plainW (if m = 0 then w else double.nearest (negW w) m (p + 0)) = plainW w
    rw [if_neg (by omega), Int.add_zero, hn]
theorem scale_plain {w : Nat} (k : Int) (hw : w < 18446744073709551616) : scaleW (plainW w) k = scaleW w k := by
  by_cases h : w % 9223372036854775808 = 0 ∨ 9218868437227405312 < w % 9223372036854775808
  · have h2 : plainW w % 9223372036854775808 = 0 ∨ 9218868437227405312 ≤ plainW w % 9223372036854775808 := by
      unfold plainW
      rcases h with h | h
      · rw [if_neg (by omega), if_pos h]; left; rfl
      · rw [if_pos h]; right; decide
    rw [scale_special k hw (by omega), scale_special k (plainW_lt hw) h2, plainW_idem]
  · have : plainW w = w := by unfold plainW; rw [if_neg (by omega), if_neg (by omega)]
    rw [this]
/- a normal one, scaled to a normal one -/
theorem scale_normal (s : Bool) {M j j' : Nat} (k : Int) (h1 : 4503599627370496 ≤ M) (h2 : M < 9007199254740992) (hj : j < 2046) (hj' : j' < 2046) (hk1 : -2200 ≤ k) (hk2 : k ≤ 2200) (he : (j' : Int) = j + k) :
    scaleW (wordZ s (j * 4503599627370496 + M)) k = wordZ s (j' * 4503599627370496 + M) := by
  unfold scaleW ldexpW
  rw [read_full s j h1 h2 hj]
  show plainW (if M = 0 then _ else double.nearest s M (-1074 + (j : Int) + min (max k (-2200)) 2200)) = _
  have e : -1074 + (j : Int) + min (max k (-2200)) 2200 = -1074 + (j' : Int) := by omega
  rw [if_neg (by omega), e, nearest_full s j' h1 h2, Nat.min_eq_left (by omega)]
  unfold plainW
  rw [wordZ_mod s (by omega), if_neg (by omega), if_neg (by omega)]
theorem normal_word {w : Nat} (hw : w < 18446744073709551616) (h0 : 4503599627370496 ≤ w % 9223372036854775808) (h1 : w % 9223372036854775808 < 9218868437227405312) :
    ∃ s M j, 4503599627370496 ≤ M ∧ M < 9007199254740992 ∧ j < 2046 ∧ w = wordZ s (j * 4503599627370496 + M) ∧ w / 4503599627370496 % 2048 = j + 1 ∧ plainW w = w := by
  obtain ⟨M, j, hN, hx⟩ := normal_self hw h0 h1
  refine ⟨negW w, M, j, hN.lo, hN.hi, hN.le, hx, ?_, by unfold plainW; rw [if_neg (by omega), if_neg (by omega)]⟩
  have h2 := hN.lo
  have h3 := hN.hi
  have h4 := hN.le
  rw [hx]
  unfold wordZ
  split <;> omega
theorem scale_of {m s : Nat} (hm : m < 1073741824) (hs : s < 30) : scaleW (ofW m) s = ofW ((m * 2 ^ s : Nat) : Int) := by
  rcases Nat.eq_zero_or_pos m with z | z
  · subst z
    rw [Nat.zero_mul]
    have e : ofW ((0 : Nat) : Int) = 0 := by rfl
    rw [e, scale_special (w := 0) _ (by decide) (.inl rfl)]; rfl
  · obtain ⟨M, j, hM1, hM2, hj1, hj2, hM, hn⟩ := nearest_int false z (by omega)
    have hd : ¬ ((m : Int) < 0) := by omega
    have hd2 : ¬ (((m * 2 ^ s : Nat) : Int) < 0) := by omega
    have e1 : ofW (m : Int) = wordZ false (j * 4503599627370496 + M) := by
      show plainW (double.nearest (decide ((m : Int) < 0)) (m : Int).natAbs 0) = _
      rw [decide_eq_false hd, Int.natAbs_natCast, hn]
      unfold plainW
      rw [wordZ_mod false (by omega), if_neg (by omega), if_neg (by omega)]
    have e2 : ofW ((m * 2 ^ s : Nat) : Int) = wordZ false ((j + s) * 4503599627370496 + M) := by
      show plainW (double.nearest (decide (((m * 2 ^ s : Nat) : Int) < 0)) (((m * 2 ^ s : Nat) : Int)).natAbs 0) = _
      rw [decide_eq_false hd2, Int.natAbs_natCast]
      have a1 := nearest_shift false (m := m) s s z
      rw [Int.sub_self] at a1
      have a2 := nearest_shift false (m := m) (1074 - j) s z
      rw [a1, ← a2, ← hM]
      have a3 : (s : Int) - ((1074 - j : Nat) : Int) = -1074 + ((j + s : Nat) : Int) := by omega
      rw [a3, nearest_full false (j + s) hM1 hM2, Nat.min_eq_left (by omega)]
      unfold plainW
      rw [wordZ_mod false (by omega), if_neg (by omega), if_neg (by omega)]
    rw [e1, e2]
    exact scale_normal false s hM1 hM2 (by omega) (by omega) (by omega) (by omega) (by omega)
end Go.Proofs.YthlajfoipafaaaaDoor

namespace Go.Proofs.YthlajfoipafaaaaDoor
open Go.RowKit Ieee

theorem size_any (x : Nat) (w : World) (hx : x < 18446744073709551616) : Calls Tryd.prog 52 #[.int .u64 (x : Int)] w fun e w' => e = .returned (.int .u64 ((x % 9223372036854775808 : Nat) : Int)) ∧ w = w' := by
  go_enter Tryd.func52, Tryd.ntmps52
  go_wp2
  go_ret
  exact ⟨rfl, rfl⟩

theorem rPlain_any (x : Nat) (w : World) (hx : x < 18446744073709551616) : Calls Tryd.prog 37 #[.int .u64 (x : Int)] w fun e w' => e = .returned (.int .u64 (plainW x : Nat)) ∧ w = w' := by
  have hs := fun W => size_any x W hx
  have HP : Hid (plainW x = if 9218868437227405312 < x % 9223372036854775808 then 9221120237041090561 else if x % 9223372036854775808 = 0 then 0 else x) := rfl
  generalize x % 9223372036854775808 = r at *
  by_cases h1 : 9218868437227405312 < r
  · have g1 : (9218868437227405312 < (r : Int)) = True := eq_true (by omega)
    have g1' : (9218868437227405312 < r) = True := eq_true (by omega)
    have HR : Hid (plainW x = 9221120237041090561) := by show _ = _; rw [HP.out, if_pos h1]
    clear HP h1
    go_enter Tryd.func37, Tryd.ntmps37
    go_wp2_with (first | (with_reducible refine (hs _).mono ?_; rintro e w2 ⟨rfl, rfl⟩))
    go_ret
    exact ⟨by rw [HR.out]; rfl, rfl⟩
  · have g1 : (9218868437227405312 < (r : Int)) = False := eq_false (by omega)
    have g1' : (9218868437227405312 < r) = False := eq_false (by omega)
    by_cases h2 : r = 0
    · have g2 : ((r : Int) == 0) = true := by simp; omega
      have HR : Hid (plainW x = 0) := by show _ = _; rw [HP.out, if_neg h1, if_pos h2]
      clear HP h1 h2
      go_enter Tryd.func37, Tryd.ntmps37
      go_wp2_with (first | (with_reducible refine (hs _).mono ?_; rintro e w2 ⟨rfl, rfl⟩))
      go_ret
      exact ⟨by rw [HR.out]; rfl, rfl⟩
    · have g2 : ((r : Int) == 0) = false := by simp; omega
      have HR : Hid (plainW x = x) := by show _ = _; rw [HP.out, if_neg h1, if_neg h2]
      clear HP h1 h2
      go_enter Tryd.func37, Tryd.ntmps37
      go_wp2_with (first | (with_reducible refine (hs _).mono ?_; rintro e w2 ⟨rfl, rfl⟩))
      go_ret
      exact ⟨by rw [HR.out]; rfl, rfl⟩

theorem u64_not {p : Nat} (h : p < 18446744073709551616) : bits .xor .u64 IntKind.u64.max (p : Int) = ((18446744073709551615 - p : Nat) : Int) := by
  show IntKind.u64.wrap ((BitVec.ofInt 64 ((18446744073709551615 : Nat) : Int) ^^^ BitVec.ofInt 64 (p : Int)).toNat : Int) = _
  have e : BitVec.ofInt 64 ((18446744073709551615 : Nat) : Int) = BitVec.allOnes 64 := by rfl
  rw [e, BitVec.allOnes_xor, BitVec.toNat_not, ofInt_nat64 h]
  exact wrap_u64_nat (by omega)

end Go.Proofs.YthlajfoipafaaaaDoor
