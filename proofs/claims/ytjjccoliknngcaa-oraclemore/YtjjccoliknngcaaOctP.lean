/- Plain facts on bytes and numbers (no program). -/
import Derived.Laws.BitsAllLaws
import Derived.Laws.BitsLemmas
import Derived.WalkKit
namespace Go.Proofs.Ytjjccoliknngcaa
open Go.RowKit

def leNum : List UInt8 → Nat
  | [] => 0
  | b :: l => b.toNat + 256 * leNum l

theorem leNum_lt : ∀ l : List UInt8, leNum l < 256 ^ l.length
  | [] => by simp [leNum]
  | b :: l => by
    have h := leNum_lt l
    have hb := b.toNat_lt
    simp only [leNum, List.length_cons, Nat.pow_succ]
    omega

theorem leNum_lt64 (l : List UInt8) (h : l.length ≤ 8) : leNum l < 18446744073709551616 := by
  have h1 := leNum_lt l
  have h2 : 256 ^ l.length ≤ 256 ^ 8 := Nat.pow_le_pow_right (by omega) h
  have h3 : (256 : Nat) ^ 8 = 18446744073709551616 := by decide
  omega

theorem leNum_snoc : ∀ (l : List UInt8) (b : UInt8), leNum (l ++ [b]) = leNum l + b.toNat * 256 ^ l.length
  | [], b => by simp [leNum]
  | c :: l, b => by
    have h := leNum_snoc l b
    simp only [List.cons_append, leNum, List.length_cons, Nat.pow_succ, h]
    rw [Nat.mul_add, Nat.add_assoc, ← Nat.mul_assoc, ← Nat.mul_assoc, Nat.mul_comm 256 b.toNat, Nat.mul_assoc, Nat.mul_comm 256 (256 ^ l.length), ← Nat.mul_assoc]

theorem pow_8 (k : Nat) : 2 ^ (8 * k) = 256 ^ k := by rw [Nat.pow_mul]

theorem take_snoc (s : ByteArray) (k : Nat) (h : k < s.size) : s.data.toList.take (k + 1) = s.data.toList.take k ++ [s[k]] := by
  rw [List.take_succ_eq_append_getElem (by simpa using h)]; rfl
theorem take_len (s : ByteArray) (k : Nat) (h : k ≤ s.size) : (s.data.toList.take k).length = k := by
  rw [List.length_take]; simp; omega

theorem wrap_u64_small (n : Int) (h : 0 ≤ n) (h' : n < 18446744073709551616) : IntKind.u64.wrap n = n := by
  rw [IntKind.wrap_u64]; omega

theorem byte_shift (b : UInt8) (k : Nat) (hk : k < 8) :
    IntKind.u64.wrap (IntKind.u64.wrap (b.toNat : Int) * 2 ^ (8 * k)) = ((b.toNat * 256 ^ k : Nat) : Int) := by
  have hb := b.toNat_lt
  have h1 : IntKind.u64.wrap (b.toNat : Int) = (b.toNat : Int) := wrap_u64_small _ (by omega) (by omega)
  have h2 : b.toNat * 256 ^ k < 18446744073709551616 := by
    have : 256 ^ k ≤ 256 ^ 7 := Nat.pow_le_pow_right (by omega) (by omega)
    have h3 : (256 : Nat) ^ 7 = 72057594037927936 := by decide
    have h4 : b.toNat * 256 ^ k ≤ 255 * 256 ^ 7 := Nat.mul_le_mul (by omega) this
    omega
  have h5 : ((b.toNat : Int) * 2 ^ (8 * k)) = ((b.toNat * 256 ^ k : Nat) : Int) := by
    rw [← pow_8]; push_cast; rfl
  rw [h1, h5, wrap_u64_small _ (by omega) (by omega)]

theorem or_step (l : List UInt8) (b : UInt8) (k : Nat) (hl : l.length = k) (hk : k < 8) :
    bits .or .u64 (leNum l : Int) (IntKind.u64.wrap (IntKind.u64.wrap (b.toNat : Int) * 2 ^ (8 * k))) = (leNum (l ++ [b]) : Int) := by
  rw [byte_shift b k hk]
  have h1 := leNum_lt l
  have h2 := leNum_lt64 (l ++ [b]) (by simp; omega)
  rw [leNum_snoc] at h2 ⊢
  subst hl
  rw [u64_or_nat _ _ (by omega) (by omega), Nat.or_comm, nat_join (8 * l.length) (b.toNat * 256 ^ l.length) (leNum l)]
  · rw [Nat.add_comm]
  · rw [pow_8]; simp
  · rw [pow_8]; exact h1

theorem add_step (l : List UInt8) (b : UInt8) (k : Nat) (hl : l.length = k) (hk : k < 8) :
    IntKind.u64.wrap ((leNum l : Int) + IntKind.u64.wrap (IntKind.u64.wrap (b.toNat : Int) * 2 ^ (8 * k))) = (leNum (l ++ [b]) : Int) := by
  rw [byte_shift b k hk]
  have h2 := leNum_lt64 (l ++ [b]) (by simp; omega)
  rw [leNum_snoc] at h2 ⊢
  subst hl
  rw [wrap_u64_small _ (by omega) (by omega)]
  omega

/-- The n lowest bytes of w, the lowest one first. -/
def leBytes (w : Nat) : Nat → List UInt8
  | 0 => []
  | n + 1 => UInt8.ofNat w :: leBytes (w / 256) n

theorem leBytes_length : ∀ (n w : Nat), (leBytes w n).length = n
  | 0, _ => rfl
  | n + 1, w => by simp [leBytes, leBytes_length n]

theorem leNum_leBytes : ∀ (n w : Nat), leNum (leBytes w n) = w % 256 ^ n
  | 0, w => by simp [leBytes, leNum, Nat.mod_one]
  | n + 1, w => by
    simp only [leBytes, leNum, leNum_leBytes n, UInt8.toNat_ofNat']
    have e : (256 : Nat) ^ (n + 1) = 256 * 256 ^ n := by rw [Nat.pow_succ, Nat.mul_comm]
    rw [e, Nat.mod_mul]

theorem leBytes_leNum : ∀ (l : List UInt8), leBytes (leNum l) l.length = l
  | [] => rfl
  | b :: l => by
    have hb := b.toNat_lt
    simp only [leNum, List.length_cons, leBytes]
    have h1 : (b.toNat + 256 * leNum l) / 256 = leNum l := by omega
    have h2 : UInt8.ofNat (b.toNat + 256 * leNum l) = b := by
      apply UInt8.toNat_inj.mp
      simp
    rw [h1, h2, leBytes_leNum l]

theorem leBytes_get (w n i : Nat) (h : i < n) : (leBytes w n)[i]? = some (UInt8.ofNat (w / 256 ^ i)) := by
  induction n generalizing w i with
  | zero => omega
  | succ n ih =>
    cases i with
    | zero => simp [leBytes]
    | succ i =>
      simp only [leBytes, List.getElem?_cons_succ]
      rw [ih (w / 256) i (by omega), Nat.div_div_eq_div_mul, Nat.pow_succ, Nat.mul_comm]

theorem leBytes_snoc (w : Nat) : ∀ n, leBytes w (n + 1) = leBytes w n ++ [UInt8.ofNat (w / 256 ^ n)] := by
  intro n
  induction n generalizing w with
  | zero => simp [leBytes]
  | succ n ih =>
    rw [leBytes, ih (w / 256), leBytes, List.cons_append, Nat.div_div_eq_div_mul]
    rw [Nat.pow_succ 256 n, Nat.mul_comm 256]

/-- Bytes as the model's values. -/
def byteVals (l : List UInt8) : List Value := l.map fun b => .int .u8 (b.toNat : Int)
theorem byteVals_length (l : List UInt8) : (byteVals l).length = l.length := by simp [byteVals]

theorem put_cell (x n k : Nat) (hk : k < n) : (byteVals (leBytes x k) ++ List.replicate (n - k) (Value.int .u8 0))[k]? = some (.int .u8 0) := by
  have hl : (byteVals (leBytes x k)).length = k := by rw [byteVals_length, leBytes_length]
  rw [List.getElem?_append_right (by omega), hl, Nat.sub_self, List.getElem?_replicate, if_pos (by omega)]

theorem put_step (x n k : Nat) (hk : k < n) :
    (byteVals (leBytes x k) ++ List.replicate (n - k) (Value.int .u8 0)).set k (.int .u8 ((x : Int) / 2 ^ (8 * k) % 256)) =
      byteVals (leBytes x (k + 1)) ++ List.replicate (n - (k + 1)) (Value.int .u8 0) := by
  have e : n - k = (n - (k + 1)) + 1 := by omega
  have hl : (byteVals (leBytes x k)).length = k := by rw [byteVals_length, leBytes_length]
  rw [e, List.replicate_succ, List.set_append_right _ _ (by omega), hl, Nat.sub_self, List.set_cons_zero, leBytes_snoc]
  have hv : ((x : Int) / 2 ^ (8 * k) % 256) = ((UInt8.ofNat (x / 256 ^ k)).toNat : Int) := by
    have e2 : ((x / 2 ^ (8 * k) : Nat) : Int) = (x : Int) / 2 ^ (8 * k) := by rw [Int.natCast_ediv, Int.natCast_pow]; rfl
    rw [UInt8.toNat_ofNat', ← pow_8, ← e2]
    generalize x / 2 ^ (8 * k) = y
    omega
  rw [hv]
  simp [byteVals]
end Go.Proofs.Ytjjccoliknngcaa
