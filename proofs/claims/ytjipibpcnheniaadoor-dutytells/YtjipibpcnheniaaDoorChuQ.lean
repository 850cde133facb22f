/- Plain facts on bytes and numbers (no program).
   Plain facts on sums of bytes (no program).
   Plain facts on sums of words, and on bytes that are unlike in one place (no program). -/
import Derived.Laws.BitsAllLaws
import Derived.Laws.BitsLemmas
import Derived.WalkKit
namespace Go.Proofs.YtjipibpcnheniaaDoor
open Go.RowKit

def leNum : List UInt8 → Nat
  | [] => 0
  | b :: l => b.toNat + 256 * leNum l

theorem leNum_lt : ∀ l : List UInt8, leNum l < 256 ^ l.length
  | [] => by simp [leNum]
  | b :: l => by
    have h := leNum_lt l
    have hb := b.toNat_lt
    simp only [leNum, List.length_cons, Nat.pow_succ]
    omega

theorem leNum_lt64 (l : List UInt8) (h : l.length ≤ 8) : leNum l < 18446744073709551616 := by
  have h1 := leNum_lt l
  have h2 : 256 ^ l.length ≤ 256 ^ 8 := Nat.pow_le_pow_right (by omega) h
  have h3 : (256 : Nat) ^ 8 = 18446744073709551616 := by decide
  omega

theorem leNum_snoc : ∀ (l : List UInt8) (b : UInt8), leNum (l ++ [b]) = leNum l + b.toNat * 256 ^ l.length
  | [], b => by simp [leNum]
  | c :: l, b => by
    have h := leNum_snoc l b
    simp only [List.cons_append, leNum, List.length_cons, Nat.pow_succ, h]
    rw [Nat.mul_add, Nat.add_assoc, ← Nat.mul_assoc, ← Nat.mul_assoc, Nat.mul_comm 256 b.toNat, Nat.mul_assoc, Nat.mul_comm 256 (256 ^ l.length), ← Nat.mul_assoc]

theorem pow_8 (k : Nat) : 2 ^ (8 * k) = 256 ^ k := by rw [Nat.pow_mul]

theorem take_snoc (s : ByteArray) (k : Nat) (h : k < s.size) : s.data.toList.take (k + 1) = s.data.toList.take k ++ [s[k]] := by
  rw [List.take_succ_eq_append_getElem (by simpa using h)]; rfl
theorem take_len (s : ByteArray) (k : Nat) (h : k ≤ s.size) : (s.data.toList.take k).length = k := by
  rw [List.length_take]; simp; omega

theorem wrap_u64_small (n : Int) (h : 0 ≤ n) (h' : n < 18446744073709551616) : IntKind.u64.wrap n = n := by
  rw [IntKind.wrap_u64]; omega

theorem byte_shift (b : UInt8) (k : Nat) (hk : k < 8) :
    IntKind.u64.wrap (IntKind.u64.wrap (b.toNat : Int) * 2 ^ (8 * k)) = ((b.toNat * 256 ^ k : Nat) : Int) := by
  have hb := b.toNat_lt
  have h1 : IntKind.u64.wrap (b.toNat : Int) = (b.toNat : Int) := wrap_u64_small _ (by omega) (by omega)
  have h2 : b.toNat * 256 ^ k < 18446744073709551616 := by
    have : 256 ^ k ≤ 256 ^ 7 := Nat.pow_le_pow_right (by omega) (by omega)
    have h3 : (256 : Nat) ^ 7 = 72057594037927936 := by decide
    have h4 : b.toNat * 256 ^ k ≤ 255 * 256 ^ 7 := Nat.mul_le_mul (by omega) this
    omega
  have h5 : ((b.toNat : Int) * 2 ^ (8 * k)) = ((b.toNat * 256 ^ k : Nat) : Int) := by
    rw [← pow_8]; push_cast; rfl
  rw [h1, h5, wrap_u64_small _ (by omega) (by omega)]

theorem or_step (l : List UInt8) (b : UInt8) (k : Nat) (hl : l.length = k) (hk : k < 8) :
    bits .or .u64 (leNum l : Int) (IntKind.u64.wrap (IntKind.u64.wrap (b.toNat : Int) * 2 ^ (8 * k))) = (leNum (l ++ [b]) : Int) := by
  rw [byte_shift b k hk]
  have h1 := leNum_lt l
  have h2 := leNum_lt64 (l ++ [b]) (by simp; omega)
  rw [leNum_snoc] at h2 ⊢
  subst hl
  rw [u64_or_nat _ _ (by omega) (by omega), Nat.or_comm, nat_join (8 * l.length) (b.toNat * 256 ^ l.length) (leNum l)]
  · rw [Nat.add_comm]
  · rw [pow_8]; simp
  · rw [pow_8]; exact h1

theorem add_step (l : List UInt8) (b : UInt8) (k : Nat) (hl : l.length = k) (hk : k < 8) :
    IntKind.u64.wrap ((leNum l : Int) + IntKind.u64.wrap (IntKind.u64.wrap (b.toNat : Int) * 2 ^ (8 * k))) = (leNum (l ++ [b]) : Int) := by
  rw [byte_shift b k hk]
  have h2 := leNum_lt64 (l ++ [b]) (by simp; omega)
  rw [leNum_snoc] at h2 ⊢
  subst hl
  rw [wrap_u64_small _ (by omega) (by omega)]
  omega

/-- The n lowest bytes of w, the lowest one first. -/
def leBytes (w : Nat) : Nat → List UInt8
  | 0 => []
  | n + 1 => UInt8.ofNat w :: leBytes (w / 256) n

theorem leBytes_length : ∀ (n w : Nat), (leBytes w n).length = n
  | 0, _ => rfl
  | n + 1, w => by simp [leBytes, leBytes_length n]

theorem leNum_leBytes : ∀ (n w : Nat), leNum (leBytes w n) = w % 256 ^ n
  | 0, w => by simp [leBytes, leNum, Nat.mod_one]
  | n + 1, w => by
    simp only [leBytes, leNum, leNum_leBytes n, UInt8.toNat_ofNat']
    have e : (256 : Nat) ^ (n + 1) = 256 * 256 ^ n := by rw [Nat.pow_succ, Nat.mul_comm]
    rw [e, Nat.mod_mul]

theorem leBytes_leNum : ∀ (l : List UInt8), leBytes (leNum l) l.length = l
  | [] => rfl
  | b :: l => by
    have hb := b.toNat_lt
    simp only [leNum, List.length_cons, leBytes]
    have h1 : (b.toNat + 256 * leNum l) / 256 = leNum l := by omega
    have h2 : UInt8.ofNat (b.toNat + 256 * leNum l) = b := by
      apply UInt8.toNat_inj.mp
      simp
    rw [h1, h2, leBytes_leNum l]

theorem leBytes_get (w n i : Nat) (h : i < n) : (leBytes w n)[i]? = some (UInt8.ofNat (w / 256 ^ i)) := by
  induction n generalizing w i with
  | zero => omega
  | succ n ih =>
    cases i with
    | zero => simp [leBytes]
    | succ i =>
      simp only [leBytes, List.getElem?_cons_succ]
      rw [ih (w / 256) i (by omega), Nat.div_div_eq_div_mul, Nat.pow_succ, Nat.mul_comm]

theorem leBytes_snoc (w : Nat) : ∀ n, leBytes w (n + 1) = leBytes w n ++ [UInt8.ofNat (w / 256 ^ n)] := by
  intro n
  induction n generalizing w with
  | zero => simp [leBytes]
  | succ n ih =>
    rw [leBytes, ih (w / 256), leBytes, List.cons_append, Nat.div_div_eq_div_mul]
    rw [Nat.pow_succ 256 n, Nat.mul_comm 256]

/-- Bytes as the model's values. -/
def byteVals (l : List UInt8) : List Value := l.map fun b => .int .u8 (b.toNat : Int)
theorem byteVals_length (l : List UInt8) : (byteVals l).length = l.length := by simp [byteVals]

theorem put_cell (x n k : Nat) (hk : k < n) : (byteVals (leBytes x k) ++ List.replicate (n - k) (Value.int .u8 0))[k]? = some (.int .u8 0) := by
  have hl : (byteVals (leBytes x k)).length = k := by rw [byteVals_length, leBytes_length]
  rw [List.getElem?_append_right (by omega), hl, Nat.sub_self, List.getElem?_replicate, if_pos (by omega)]

theorem put_step (x n k : Nat) (hk : k < n) :
    (byteVals (leBytes x k) ++ List.replicate (n - k) (Value.int .u8 0)).set k (.int .u8 ((x : Int) / 2 ^ (8 * k) % 256)) =
      byteVals (leBytes x (k + 1)) ++ List.replicate (n - (k + 1)) (Value.int .u8 0) := by
  have e : n - k = (n - (k + 1)) + 1 := by omega
  have hl : (byteVals (leBytes x k)).length = k := by rw [byteVals_length, leBytes_length]
  rw [e, List.replicate_succ, List.set_append_right _ _ (by omega), hl, Nat.sub_self, List.set_cons_zero, leBytes_snoc]
  have hv : ((x : Int) / 2 ^ (8 * k) % 256) = ((UInt8.ofNat (x / 256 ^ k)).toNat : Int) := by
    have e2 : ((x / 2 ^ (8 * k) : Nat) : Int) = (x : Int) / 2 ^ (8 * k) := by rw [Int.natCast_ediv, Int.natCast_pow]; rfl
    rw [UInt8.toNat_ofNat', ← pow_8, ← e2]
    generalize x / 2 ^ (8 * k) = y
    omega
  rw [hv]
  simp [byteVals]
end Go.Proofs.YtjipibpcnheniaaDoor

namespace Go.Proofs.YtjipibpcnheniaaDoor

/- one byte's step, and what undoes it -/
def stepH (h c : Nat) : Nat := (h ^^^ c) * 1099511628211 % 18446744073709551616
def unstepH (h c : Nat) : Nat := (h * 14886173955864302971 % 18446744073709551616) ^^^ c
def moreH (h : Nat) : List UInt8 → Nat
  | [] => h
  | b :: l => moreH (stepH h b.toNat) l
def backH (h : Nat) : List UInt8 → Nat
  | [] => h
  | b :: l => unstepH (backH h l) b.toNat

theorem byte_lt64 (b : UInt8) : b.toNat < 18446744073709551616 := by have := UInt8.toNat_lt b; omega
theorem xor_lt64 {a b : Nat} (ha : a < 18446744073709551616) (hb : b < 18446744073709551616) : a ^^^ b < 18446744073709551616 := Nat.xor_lt_two_pow (n := 64) ha hb
theorem xor_cancel (a b : Nat) : (a ^^^ b) ^^^ b = a := by rw [Nat.xor_assoc, Nat.xor_self, Nat.xor_zero]
theorem stepH_lt (h c : Nat) : stepH h c < 18446744073709551616 := Nat.mod_lt _ (by decide)
theorem unstepH_lt (h : Nat) {c : Nat} (hc : c < 18446744073709551616) : unstepH h c < 18446744073709551616 := xor_lt64 (Nat.mod_lt _ (by decide)) hc
theorem mul_inv (x : Nat) : x * 1099511628211 % 18446744073709551616 * 14886173955864302971 % 18446744073709551616 = x % 18446744073709551616 := by
  have e : 1099511628211 * 14886173955864302971 = 1 + 18446744073709551616 * 887285111055 := by decide
  rw [Nat.mod_mul_mod, Nat.mul_assoc, e, Nat.mul_add, Nat.mul_one, ← Nat.mul_assoc, Nat.mul_comm x, Nat.mul_assoc, Nat.add_mul_mod_self_left]
theorem inv_mul (x : Nat) : x * 14886173955864302971 % 18446744073709551616 * 1099511628211 % 18446744073709551616 = x % 18446744073709551616 := by
  have e : 14886173955864302971 * 1099511628211 = 1 + 18446744073709551616 * 887285111055 := by decide
  rw [Nat.mod_mul_mod, Nat.mul_assoc, e, Nat.mul_add, Nat.mul_one, ← Nat.mul_assoc, Nat.mul_comm x, Nat.mul_assoc, Nat.add_mul_mod_self_left]
theorem unstep_step {h c : Nat} (hh : h < 18446744073709551616) (hc : c < 18446744073709551616) : unstepH (stepH h c) c = h := by
  unfold unstepH stepH
  rw [mul_inv, Nat.mod_eq_of_lt (xor_lt64 hh hc), xor_cancel]
theorem step_unstep {h c : Nat} (hh : h < 18446744073709551616) : stepH (unstepH h c) c = h := by
  unfold unstepH stepH
  rw [xor_cancel, inv_mul, Nat.mod_eq_of_lt hh]
theorem step_inj {h g c : Nat} (hh : h < 18446744073709551616) (hg : g < 18446744073709551616) (hc : c < 18446744073709551616) (e : stepH h c = stepH g c) : h = g := by
  rw [← unstep_step hh hc, e, unstep_step hg hc]
theorem step_byte {h c d : Nat} (hh : h < 18446744073709551616) (hc : c < 18446744073709551616) (hd : d < 18446744073709551616) (e : stepH h c = stepH h d) : c = d := by
  have e1 : stepH h c * 14886173955864302971 % 18446744073709551616 = h ^^^ c := by unfold stepH; rw [mul_inv, Nat.mod_eq_of_lt (xor_lt64 hh hc)]
  have e2 : stepH h d * 14886173955864302971 % 18446744073709551616 = h ^^^ d := by unfold stepH; rw [mul_inv, Nat.mod_eq_of_lt (xor_lt64 hh hd)]
  have e3 : h ^^^ c = h ^^^ d := by rw [← e1, e, e2]
  have e4 : h ^^^ (h ^^^ c) = h ^^^ (h ^^^ d) := by rw [e3]
  rwa [← Nat.xor_assoc, ← Nat.xor_assoc, Nat.xor_self, Nat.zero_xor, Nat.zero_xor] at e4

theorem moreH_lt {h : Nat} (hh : h < 18446744073709551616) : ∀ l, moreH h l < 18446744073709551616
  | [] => hh
  | b :: l => moreH_lt (stepH_lt h b.toNat) l
theorem backH_lt {h : Nat} (hh : h < 18446744073709551616) : ∀ l, backH h l < 18446744073709551616
  | [] => hh
  | b :: _ => unstepH_lt _ (byte_lt64 b)
theorem moreH_append (h : Nat) : ∀ a b, moreH h (a ++ b) = moreH (moreH h a) b := by
  intro a
  induction a generalizing h with
  | nil => intro b; rfl
  | cons c a ih => intro b; exact ih (stepH h c.toNat) b
theorem backH_append (h : Nat) : ∀ a b, backH h (a ++ b) = backH (backH h b) a
  | [], b => rfl
  | c :: a, b => by show unstepH (backH h (a ++ b)) c.toNat = unstepH (backH (backH h b) a) c.toNat; rw [backH_append h a b]
theorem back_more {h : Nat} (hh : h < 18446744073709551616) : ∀ l, backH (moreH h l) l = h := by
  intro l
  induction l generalizing h with
  | nil => rfl
  | cons b l ih =>
    show unstepH (backH (moreH (stepH h b.toNat) l) l) b.toNat = h
    rw [ih (stepH_lt _ _), unstep_step hh (byte_lt64 b)]
theorem more_back {h : Nat} (hh : h < 18446744073709551616) : ∀ l, moreH (backH h l) l = h
  | [] => rfl
  | b :: l => by
    show moreH (stepH (unstepH (backH h l) b.toNat) b.toNat) l = h
    rw [step_unstep (backH_lt hh l), more_back hh l]
theorem more_inj {h g : Nat} (hh : h < 18446744073709551616) (hg : g < 18446744073709551616) (l : List UInt8) : moreH h l = moreH g l ↔ h = g := by
  constructor
  · intro e; rw [← back_more hh l, e, back_more hg l]
  · intro e; rw [e]
theorem back_inj {h g : Nat} (hh : h < 18446744073709551616) (hg : g < 18446744073709551616) (l : List UInt8) : backH h l = backH g l ↔ h = g := by
  constructor
  · intro e; rw [← more_back hh l, e, more_back hg l]
  · intro e; rw [e]
/- unlike in one byte -/
theorem more_one {h : Nat} (hh : h < 18446744073709551616) (a b : List UInt8) (c d : UInt8) : moreH h (a ++ c :: b) = moreH h (a ++ d :: b) ↔ c = d := by
  rw [moreH_append, moreH_append]
  show moreH (stepH (moreH h a) c.toNat) b = moreH (stepH (moreH h a) d.toNat) b ↔ c = d
  rw [more_inj (stepH_lt _ _) (stepH_lt _ _)]
  constructor
  · intro e
    have := step_byte (moreH_lt hh a) (byte_lt64 c) (byte_lt64 d) e
    exact UInt8.toNat_inj.1 this
  · intro e; rw [e]

/- the eight bytes of a word, the lowest first; the sum of words -/
def wordBytes (w : Nat) : List UInt8 := (List.range 8).map fun k => UInt8.ofNat (w / 256 ^ k % 256)
def wordsBytes (ws : List Nat) : List UInt8 := ws.flatMap wordBytes
def foldH (ws : List Nat) : Nat := moreH 14695981039346656037 (wordsBytes ws)
theorem foldH_lt (ws : List Nat) : foldH ws < 18446744073709551616 := moreH_lt (by decide) _
theorem foldH_snoc (ws : List Nat) (w : Nat) : foldH (ws ++ [w]) = moreH (foldH ws) (wordBytes w) := by
  unfold foldH wordsBytes
  rw [List.flatMap_append, moreH_append]
  simp
end Go.Proofs.YtjipibpcnheniaaDoor

namespace Go.Proofs.YtjipibpcnheniaaDoor
open Go.RowKit

/- the sum of words, each by its eight bytes -/
def foldB (ws : List Nat) : Nat := moreH 14695981039346656037 (ws.flatMap fun w => leBytes w 8)
theorem foldB_lt (ws : List Nat) : foldB ws < 18446744073709551616 := moreH_lt (by decide) _
theorem foldB_nil : foldB [] = 14695981039346656037 := rfl
theorem foldB_snoc (ws : List Nat) (w : Nat) : foldB (ws ++ [w]) = moreH (foldB ws) (leBytes w 8) := by
  unfold foldB
  rw [List.flatMap_append, moreH_append]
  simp
theorem foldB_take (ws : List Nat) (k : Nat) (hk : k < ws.length) : moreH (foldB (ws.take k)) (leBytes ws[k] 8) = foldB (ws.take (k + 1)) := by
  rw [List.take_succ_eq_append_getElem hk, foldB_snoc]

/- one byte in place of another -/
theorem more_set {h : Nat} (hh : h < 18446744073709551616) (l : List UInt8) (j : Nat) (y : UInt8) : moreH h l = moreH h (l.set j y) ↔ l = l.set j y := by
  by_cases hj : j < l.length
  · have e1 : l = l.take j ++ l[j] :: l.drop (j + 1) := by simp
    have e2 : l.set j y = l.take j ++ y :: l.drop (j + 1) := by rw [List.set_eq_take_append_cons_drop, if_pos hj]
    constructor
    · intro e
      rw [e2] at e
      conv at e => lhs; rw [e1]
      have := (more_one hh _ _ _ _).1 e
      rw [← this]; simp
    · intro e; rw [← e]
  · rw [List.set_eq_of_length_le (by omega)]; simp

theorem byte_of_xor (h c i j : Nat) (hc : c < 256) (hij : i ≠ j) : (h ^^^ (c * 256 ^ j)) / 256 ^ i % 256 = h / 256 ^ i % 256 := by
  have e256 : (256 : Nat) = 2 ^ 8 := by decide
  have e1 : (h ^^^ (c * 256 ^ j)) / 256 ^ i = (h / 256 ^ i) ^^^ (c * 256 ^ j / 256 ^ i) := by
    rw [← pow_8 i, ← Nat.shiftRight_eq_div_pow, ← Nat.shiftRight_eq_div_pow, ← Nat.shiftRight_eq_div_pow, Nat.shiftRight_xor_distrib]
  have e2 : c * 256 ^ j / 256 ^ i % 256 = 0 := by
    rcases Nat.lt_or_gt_of_ne hij with h1 | h1
    · obtain ⟨d, rfl⟩ : ∃ d, j = i + d + 1 := ⟨j - i - 1, by omega⟩
      have : c * 256 ^ (i + d + 1) = (c * 256 ^ d * 256) * 256 ^ i := by
        rw [show i + d + 1 = d + 1 + i by omega, Nat.pow_add, Nat.pow_succ, ← Nat.mul_assoc, ← Nat.mul_assoc]
      rw [this, Nat.mul_div_cancel _ (Nat.pow_pos (by decide)), Nat.mul_mod_left]
    · obtain ⟨d, rfl⟩ : ∃ d, i = j + (d + 1) := ⟨i - j - 1, by omega⟩
      rw [Nat.pow_add, ← Nat.div_div_eq_div_mul, Nat.mul_div_cancel _ (Nat.pow_pos (by decide)), Nat.pow_succ, Nat.mul_comm, ← Nat.div_div_eq_div_mul, Nat.div_eq_of_lt hc]
      simp
  rw [e1]
  conv => lhs; rw [e256, Nat.xor_mod_two_pow]
  rw [← e256, e2, Nat.xor_zero]

theorem leBytes_xor (h c j : Nat) (hc : c < 256) (hj : j < 8) : leBytes (h ^^^ (c * 256 ^ j)) 8 = (leBytes h 8).set j (UInt8.ofNat ((h ^^^ (c * 256 ^ j)) / 256 ^ j)) := by
  apply List.ext_getElem?
  intro i
  by_cases hi : i < 8
  · rw [leBytes_get _ _ _ hi]
    by_cases hij : i = j
    · subst hij
      rw [List.getElem?_set_self (by rw [leBytes_length]; exact hi)]
    · rw [List.getElem?_set_ne (Ne.symm hij), leBytes_get _ _ _ hi]
      congr 1
      apply UInt8.toNat_inj.mp
      rw [UInt8.toNat_ofNat', UInt8.toNat_ofNat']
      exact byte_of_xor h c i j hc hij
  · rw [List.getElem?_eq_none (by rw [leBytes_length]; omega), List.getElem?_eq_none (by rw [List.length_set, leBytes_length]; omega)]

theorem leBytes_inj {a b : Nat} (ha : a < 18446744073709551616) (hb : b < 18446744073709551616) : leBytes a 8 = leBytes b 8 ↔ a = b := by
  constructor
  · intro e
    have h1 := leNum_leBytes 8 a
    have h2 := leNum_leBytes 8 b
    rw [e] at h1
    have e3 : (256 : Nat) ^ 8 = 18446744073709551616 := by decide
    rw [e3, Nat.mod_eq_of_lt ha] at h1
    rw [e3, Nat.mod_eq_of_lt hb] at h2
    omega
  · intro e; rw [e]

theorem fold_three (a b c : Nat) : foldB [a, b, c] = moreH (moreH (foldB [a]) (leBytes b 8)) (leBytes c 8) := by
  rw [show [a, b, c] = ([a] ++ [b]) ++ [c] from rfl, foldB_snoc, foldB_snoc]

theorem fold_mid (h c j x y : Nat) (hh : h < 18446744073709551616) (hc : c < 256) (hj : j < 8) (hw : h ^^^ (c * 256 ^ j) < 18446744073709551616) :
    foldB [x, h, y] = foldB [x, h ^^^ (c * 256 ^ j), y] ↔ h = h ^^^ (c * 256 ^ j) := by
  rw [fold_three, fold_three, more_inj (moreH_lt (foldB_lt _) _) (moreH_lt (foldB_lt _) _), ← leBytes_inj hh hw]
  conv => lhs; rhs; rw [leBytes_xor h c j hc hj]
  conv => rhs; rhs; rw [leBytes_xor h c j hc hj]
  exact more_set (foldB_lt _) _ _ _

theorem mod_twice (a n : Nat) : a % (2 * n) % n = a % n := by
  rw [Nat.mul_comm]; exact Nat.mod_mul_right_mod a n 2

end Go.Proofs.YtjipibpcnheniaaDoor
