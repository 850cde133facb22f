/- The document's own answers for layer 5: Decode. -/
import Derived.Test.YtblpdhnifleioaaTokL
import Derived.Test.YtblpdhnifleioaaRefP
namespace Go.Proofs.Ytblpdhnifleioaa
open Go.RowKit

theorem bytes_cons (s : ByteArray) (h : 0 < s.size) : s.data.toList = s[0] :: s.data.toList.drop 1 := by
  have h1 : 0 < s.data.toList.length := by simpa using h
  have := List.drop_eq_getElem_cons h1
  rw [List.drop_zero] at this
  exact this
theorem list_len (s : ByteArray) : s.data.toList.length = s.size := by simp
theorem decB_bad1 (s : ByteArray) (h : s.size % 16 ≠ 1) : decB s.data.toList = (2, false, []) := by
  by_cases h0 : 0 < s.size
  · rw [bytes_cons s h0]
    simp only [decB]
    rw [if_pos (.inl (by simp; omega))]
  · have : s.data.toList = [] := List.eq_nil_of_length_eq_zero (by rw [list_len]; omega)
    rw [this]; rfl
theorem decB_bad2 (s : ByteArray) (h : 0 < s.size) (h1 : 1 < (s[0]).toNat) : decB s.data.toList = (2, false, []) := by
  rw [bytes_cons s h]
  simp only [decB]
  rw [if_pos (.inr h1)]
/-- The pairs that the bytes of s tell. -/
def pairsOf (s : ByteArray) : List Pr := readP (s.size / 16) (s.data.toList.drop 1)
theorem pairsOf_length (s : ByteArray) : (pairsOf s).length = s.size / 16 := readP_length _ _
theorem decB_else (s : ByteArray) (h : s.size % 16 = 1) (h0 : 0 < s.size) (h1 : (s[0]).toNat ≤ 1) :
    decB s.data.toList = if srt (pairsOf s) = false then (2, false, []) else if 2048 < s.size / 16 then (4, false, []) else (0, (s[0]).toNat == 1, pairsOf s) := by
  have hl : (s.data.toList.drop 1).length = s.size - 1 := by simp
  have h2 : (s.size - 1) / 16 = s.size / 16 := by omega
  have h3 : decB (s[0] :: s.data.toList.drop 1) = if srt (pairsOf s) = false then (2, false, []) else if 2048 < s.size / 16 then (4, false, []) else (0, (s[0]).toNat == 1, pairsOf s) := by
    simp only [decB]
    rw [if_neg (by rw [hl]; omega), hl, h2]
    rfl
  rw [← bytes_cons s h0] at h3
  exact h3
theorem pairsOf_get (s : ByteArray) (k : Nat) (hk : k < (pairsOf s).length) : (pairsOf s)[k] = (leNum ((s.data.toList.drop (1 + 16 * k)).take 8), leNum ((s.data.toList.drop (1 + 16 * k + 8)).take 8)) := by
  have h := readP_get (s.size / 16) (s.data.toList.drop 1) k (by rw [← pairsOf_length]; exact hk)
  rw [List.drop_drop, List.drop_drop] at h
  have h2 : (pairsOf s)[k]? = some (pairsOf s)[k] := List.getElem?_eq_getElem hk
  rw [show (pairsOf s)[k]? = _ from h] at h2
  rw [← Option.some.inj h2, show 1 + (16 * k + 8) = 1 + 16 * k + 8 by omega]
theorem tExt_list (s : ByteArray) (i : Nat) : (s.extract i s.size).data.toList = s.data.toList.drop i := by
  simp
  exact List.take_of_length_le (by simp)

end Go.Proofs.Ytblpdhnifleioaa
