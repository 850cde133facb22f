/- octets.Split: split itself. -/
import Derived.Test.YtagfbbflpjjbfaaOctF
namespace Go.Proofs.Ytagfbbflpjjbfaa
open Go.RowKit

theorem ext_list (s : ByteArray) (i j : Nat) : (s.extract i j).data.toList = (s.data.toList.drop i).take (j - i) := by
  rw [Lib.extract_data]

theorem numAt_lt (s : Text) (a : Nat) : numAt s a < 4294967296 := by
  unfold numAt
  have h := leNum_lt ((s.drop a).take 4)
  have hl : ((s.drop a).take 4).length ≤ 4 := List.length_take_le _ _
  have h2 : 256 ^ ((s.drop a).take 4).length ≤ 256 ^ 4 := Nat.pow_le_pow_right (by omega) hl
  rw [pow32] at h2
  omega

set_option maxHeartbeats 400000 in
theorem placeAt_any (s : ByteArray) (a : Nat) (w : World) (h : a + 4 ≤ s.size) (hs : s.size ≤ 65536) :
    Calls Try.prog 36 #[.string s, .int .i64 a] w fun e w' => e = .returned (.int .i64 (numAt s.data.toList a)) ∧ w = w' := by
  have hx : (s.extract a (a + 4)).size ≤ 8 := by rw [ext_size _ _ _ h]; omega
  have hlt := numAt_lt s.data.toList a
  have he : leNum (s.extract a (a + 4)).data.toList = numAt s.data.toList a := by
    rw [ext_list]; unfold numAt; rw [show a + 4 - a = 4 by omega]
  go_enter Try.func36, Try.ntmps36
  go_wp2_with fail
  with_reducible refine (number_any _ _ hx).mono ?_
  rintro e w1 ⟨rfl, rfl⟩
  rw [he]
  clear he hx
  go_wp2_with fail
  go_ret
  exact ⟨rfl, rfl⟩

theorem placeAt_int (s : ByteArray) (x : Int) (a : Nat) (w : World) (hx : x = (a : Int)) (h : a + 4 ≤ s.size) (hs : s.size ≤ 65536) :
    Calls Try.prog 36 #[.string s, .int .i64 x] w fun e w' => e = .returned (.int .i64 (numAt s.data.toList a)) ∧ w = w' := by
  subst hx; exact placeAt_any s a w h hs

def Panics (y : Int) (w : World) (e : Ending) (w' : World) : Prop := e = .panicked [{ v := .iface 28 (.int .i64 y), recovered := false }] ∧ Below w.heap.size w w'

theorem split_fixed (s : ByteArray) (fixed many : Int) (w : World) (h : ¬ (0 ≤ fixed ∧ fixed ≤ 65536)) :
    Calls Try.prog 28 #[.string s, .int .i64 fixed, .int .i64 many] w (Panics 1 w) := by
  by_cases h0 : 0 ≤ fixed
  · have hd : decide (fixed ≤ 65536) = false := by simp; omega
    go_enter Try.func28, Try.ntmps28
    go_wp2_with fail
    with_reducible refine (demand_no _ _).mono ?_
    rintro e w1 ⟨rfl, rfl⟩
    exact ⟨rfl, rfl, Below.refl _ _⟩
  · have hd : decide (0 ≤ fixed) = false := by simp; omega
    go_enter Try.func28, Try.ntmps28
    go_wp2_with fail
    with_reducible refine (demand_no _ _).mono ?_
    rintro e w1 ⟨rfl, rfl⟩
    exact ⟨rfl, rfl, Below.refl _ _⟩

theorem split_many (s : ByteArray) (fixed many : Int) (w : World) (hf : 0 ≤ fixed ∧ fixed ≤ 65536) (h : ¬ (0 ≤ many ∧ many ≤ 8)) :
    Calls Try.prog 28 #[.string s, .int .i64 fixed, .int .i64 many] w (Panics 1 w) := by
  obtain ⟨hf0, hf1⟩ := hf
  have hd0 : decide (fixed ≤ 65536) = true := by simp; omega
  by_cases h0 : 0 ≤ many
  · have hd : decide (many ≤ 8) = false := by simp; omega
    go_enter Try.func28, Try.ntmps28
    go_wp2_with fail
    with_reducible refine (demand_yes _ _).mono ?_
    rintro e w1 ⟨rfl, rfl⟩
    go_wp2_with fail
    with_reducible refine (demand_no _ _).mono ?_
    rintro e w1 ⟨rfl, rfl⟩
    exact ⟨rfl, rfl, Below.refl _ _⟩
  · have hd : decide (0 ≤ many) = false := by simp; omega
    go_enter Try.func28, Try.ntmps28
    go_wp2_with fail
    with_reducible refine (demand_yes _ _).mono ?_
    rintro e w1 ⟨rfl, rfl⟩
    go_wp2_with fail
    with_reducible refine (demand_no _ _).mono ?_
    rintro e w1 ⟨rfl, rfl⟩
    exact ⟨rfl, rfl, Below.refl _ _⟩

theorem split_long (s : ByteArray) (fixed many : Nat) (w : World) (hf : fixed ≤ 65536) (hm : many ≤ 8) (h : 65536 < s.size) :
    Calls Try.prog 28 #[.string s, .int .i64 fixed, .int .i64 many] w (Panics 4 w) := by
  have hd0 : decide ((fixed : Int) ≤ 65536) = true := by simp; omega
  have hd1 : decide ((many : Int) ≤ 8) = true := by simp; omega
  have hd2 : decide ((s.size : Int) ≤ 65536) = false := by simp; omega
  go_enter Try.func28, Try.ntmps28
  go_wp2_with fail
  with_reducible refine (demand_yes _ _).mono ?_
  rintro e w1 ⟨rfl, rfl⟩
  go_wp2_with fail
  with_reducible refine (demand_yes _ _).mono ?_
  rintro e w1 ⟨rfl, rfl⟩
  go_wp2_with fail
  with_reducible refine (demand_no _ _).mono ?_
  rintro e w1 ⟨rfl, rfl⟩
  exact ⟨rfl, rfl, Below.refl _ _⟩

theorem split_short (s : ByteArray) (fixed many : Nat) (w : World) (hf : fixed ≤ 65536) (hm : many ≤ 8) (hl : s.size ≤ 65536) (h : s.size < fixed + 4 * many) :
    Calls Try.prog 28 #[.string s, .int .i64 fixed, .int .i64 many] w (Panics 3 w) := by
  have hd0 : decide ((fixed : Int) ≤ 65536) = true := by simp; omega
  have hd1 : decide ((many : Int) ≤ 8) = true := by simp; omega
  have hd2 : decide ((s.size : Int) ≤ 65536) = true := by simp; omega
  have hd3 : decide ((fixed : Int) + 4 * (many : Int) ≤ (s.size : Int)) = false := by simp; omega
  go_enter Try.func28, Try.ntmps28
  go_wp2_with fail
  with_reducible refine (demand_yes _ _).mono ?_
  rintro e w1 ⟨rfl, rfl⟩
  go_wp2_with fail
  with_reducible refine (demand_yes _ _).mono ?_
  rintro e w1 ⟨rfl, rfl⟩
  go_wp2_with fail
  with_reducible refine (demand_yes _ _).mono ?_
  rintro e w1 ⟨rfl, rfl⟩
  go_wp2_with fail
  with_reducible refine (demand_no _ _).mono ?_
  rintro e w1 ⟨rfl, rfl⟩
  exact ⟨rfl, rfl, Below.refl _ _⟩
end Go.Proofs.Ytagfbbflpjjbfaa
