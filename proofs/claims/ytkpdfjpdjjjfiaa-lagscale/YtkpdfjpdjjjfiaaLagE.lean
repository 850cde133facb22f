/- lag.Median. -/
import Derived.Test.YtkpdfjpdjjjfiaaLagD
import Derived.Deep.LoopGhost
import Derived.WalkMore
namespace Go.Proofs.Ytkpdfjpdjjjfiaa
open Go.RowKit Ieee

def cntB (p : Nat → Bool) (l : List Nat) : Nat := (l.filter p).length
def okW (l : List Nat) (x : Nat) : Bool := decide (cntB (fun y => lessW y x) l ≤ 1) && decide (cntB (fun y => lessW x y) l ≤ 1)
def midW (l : List Nat) : Nat := (l.find? (okW l)).getD 0

theorem idx3 (a b c t : Nat) (ht : t < 3) (W : World) : (Instr.index 50 (.agg #[.float .f64 a, .float .f64 b, .float .f64 c]) (.int .i64 (t : Int))).run Try.prog W = .ok (.float .f64 ([a, b, c].getD t 0)) W := by
  rcases (by omega : t = 0 ∨ t = 1 ∨ t = 2) with rfl | rfl | rfl <;> simp [go_sem, Instr.index]

theorem cntB_step (p : Nat → Bool) (l : List Nat) (t : Nat) (ht : t < l.length) : cntB p (l.take (t + 1)) = cntB p (l.take t) + (p (l.getD t 0)).toNat := by
  unfold cntB
  rw [List.take_succ_eq_append_getElem ht, List.filter_append, List.length_append, List.getD_eq_getElem?_getD, List.getElem?_eq_getElem ht, Option.getD_some]
  cases h : p l[t] <;> simp [h]
theorem cntB_take (p : Nat → Bool) (l : List Nat) (t : Nat) : cntB p (l.take t) ≤ cntB p l := by
  unfold cntB
  exact ((List.take_sublist t l).filter p).length_le
theorem find_drop (l : List Nat) (p : Nat → Bool) (o : Nat) (ho : o < l.length) : (l.drop o).find? p = if p (l.getD o 0) then some (l.getD o 0) else (l.drop (o + 1)).find? p := by
  rw [List.drop_eq_getElem_cons ho, List.find?_cons, List.getD_eq_getElem?_getD, List.getElem?_eq_getElem ho, Option.getD_some]
  cases h : p l[o] <;> rfl
theorem okW_no1 {l : List Nat} {x : Nat} (t : Nat) (h : 1 < cntB (fun y => lessW y x) (l.take t)) : okW l x = false := by
  have := cntB_take (fun y => lessW y x) l t
  unfold okW
  rw [decide_eq_false (by omega)]; rfl
theorem okW_no2 {l : List Nat} {x : Nat} (t : Nat) (h : 1 < cntB (fun y => lessW x y) (l.take t)) : okW l x = false := by
  have := cntB_take (fun y => lessW x y) l t
  unfold okW
  rw [decide_eq_false (p := cntB (fun y => lessW x y) l ≤ 1) (by omega), Bool.and_false]

set_option maxHeartbeats 2000000 in
theorem middle_any (a b c : Nat) (w : World) (ha : a < 18446744073709551616) (hb : b < 18446744073709551616) (hc : c < 18446744073709551616) :
    Calls Try.prog 33 #[.agg #[.float .f64 a, .float .f64 b, .float .f64 c]] w fun e w' => e = .returned (.float .f64 (midW [a, b, c])) ∧ Below w.heap.size w w' := by
  have hB : Below w.heap.size w (w.alloc (.cells #[.float .f64 a, .float .f64 b, .float .f64 c] 50)) := (Below.refl _ w).alloc (Nat.le_refl _) _
  have hl : ∀ t, [a, b, c].getD t 0 < 18446744073709551616 := by
    intro t
    rcases (by omega : t = 0 ∨ t = 1 ∨ t = 2 ∨ 3 ≤ t) with rfl | rfl | rfl | h
    · exact ha
    · exact hb
    · exact hc
    · rw [List.getD_eq_getElem?_getD, List.getElem?_eq_none (by simpa using h)]; decide
  have HX := Lib.hid (idx3 a b c)
  have HLt := Lib.hid hl
  clear hl
  go_enter Try.func33, Try.ntmps33
  go_wp2
  go_step3
  go_wp2
  go_step3
  go_wp2
  go_loopg [3, 11] 3 (fun gk v i wx => wx = w.alloc (.cells #[.float .f64 a, .float .f64 b, .float .f64 c] 50) ∧ ∃ o : Nat, o + gk = 3 ∧ i = .int .i64 o ∧ v = .float .f64 0 ∧ Aside (midW [a, b, c] = (([a, b, c].drop o).find? (okW [a, b, c])).getD 0))
  case atStart => exact ⟨rfl, 0, rfl, rfl, rfl, rfl⟩
  case round =>
    obtain ⟨rfl, o, ho, rfl, rfl, HE⟩ := hrel
    cases gk with
    | zero =>
      have hz : ¬ ((o : Int) < 3) := by omega
      go_wp2
      try rw [Exit.noGoto_ret]
      go_ret
      refine ⟨?_, hB⟩
      have h := HE.out
      obtain rfl : o = 3 := by omega
      rw [h]; rfl
    | succ gko =>
      have hz : (o : Int) < 3 := by omega
      have hio := fun W => HX.out o (by omega) W
      have HF := Lib.hid (find_drop [a, b, c] (okW [a, b, c]) o (by show o < 3; omega))
      have hFl := HLt.out o
      generalize [a, b, c].getD o 0 = F at *
      go_wp2
      clear hio
      go_loopg [6, 7, 15] 3 (fun g2 u v i wx => wx = w.alloc (.cells #[.float .f64 a, .float .f64 b, .float .f64 c] 50) ∧ ∃ t U V : Nat, t + g2 = 3 ∧ i = .int .i64 t ∧ u = .int .i64 U ∧ v = .int .i64 V ∧ U ≤ 1 ∧ V ≤ 1 ∧ Aside (U = cntB (fun y => lessW y F) ([a, b, c].take t)) ∧ Aside (V = cntB (fun y => lessW F y) ([a, b, c].take t)))
      case atStart => exact ⟨rfl, 0, 0, 0, rfl, rfl, rfl, rfl, by omega, by omega, rfl, rfl⟩
      case round =>
        obtain ⟨rfl, t, U, V, ht, rfl, rfl, rfl, hU, hV, HU, HV⟩ := hrel
        cases gk with
        | zero =>
          have hz2 : ¬ ((t : Int) < 3) := by omega
          go_wp2
          try rw [Exit.noGoto_ret]
          go_ret
          refine ⟨?_, hB⟩
          have hu := HU.out
          have hv := HV.out
          obtain rfl : t = 3 := by omega
          have hok : okW [a, b, c] F = true := by
            have h1 : cntB (fun y => lessW y F) [a, b, c] ≤ 1 := by rw [show [a, b, c].take 3 = [a, b, c] from rfl] at hu; rw [← hu]; exact hU
            have h2 : cntB (fun y => lessW F y) [a, b, c] ≤ 1 := by rw [show [a, b, c].take 3 = [a, b, c] from rfl] at hv; rw [← hv]; exact hV
            unfold okW
            rw [decide_eq_true h1, decide_eq_true h2]; rfl
          rw [HE.out, HF.out, hok]; rfl
        | succ g2 =>
          have hz2 : (t : Int) < 3 := by omega
          have hit := fun W => HX.out t (by omega) W
          have hGl := HLt.out t
          have HS1 := Lib.hid (cntB_step (fun y => lessW y F) [a, b, c] t (by show t < 3; omega))
          have HS2 := Lib.hid (cntB_step (fun y => lessW F y) [a, b, c] t (by show t < 3; omega))
          generalize [a, b, c].getD t 0 = G at *
          have hb1 := fun W => below_any G F W hGl hFl
          have hb2 := fun W => below_any F G W hFl hGl
          cases hp : lessW G F <;> cases hq : lessW F G <;> rw [hp] at hb1 <;> rw [hq] at hb2
          · have S1 := Lib.hid (show U = cntB (fun y => lessW y F) ([a, b, c].take (t + 1)) by rw [HS1.out, ← HU.out, hp]; rfl)
            have S2 := Lib.hid (show V = cntB (fun y => lessW F y) ([a, b, c].take (t + 1)) by rw [HS2.out, ← HV.out, hq]; rfl)
            clear hp hq HS1 HS2
            have c1' : ¬ 1 < (U : Int) := by omega
            have c2' : ¬ 1 < (V : Int) := by omega
            go_wp2_with fail
            with_reducible refine (hb1 _).mono ?_
            rintro e w1 ⟨rfl, rfl⟩
            go_wp2_with fail
            with_reducible refine (hb2 _).mono ?_
            rintro e w1 ⟨rfl, rfl⟩
            go_wp2_with fail
            go_roundg g2
            case measure => omega
            case rel => exact ⟨rfl, t + 1, U, V, by omega, by first | rfl | simp, by first | rfl | simp, by first | rfl | simp, by omega, by omega, S1.out, S2.out⟩
          · have S1 := Lib.hid (show U = cntB (fun y => lessW y F) ([a, b, c].take (t + 1)) by rw [HS1.out, ← HU.out, hp]; rfl)
            have S2 := Lib.hid (show V + 1 = cntB (fun y => lessW F y) ([a, b, c].take (t + 1)) by rw [HS2.out, ← HV.out, hq]; rfl)
            clear hp hq HS1 HS2
            have c1' : ¬ 1 < (U : Int) := by omega
            by_cases c2 : 1 < V + 1
            · have c2' : 1 < (V : Int) + 1 := by omega
              go_wp2_with fail
              with_reducible refine (hb1 _).mono ?_
              rintro e w1 ⟨rfl, rfl⟩
              go_wp2_with fail
              with_reducible refine (hb2 _).mono ?_
              rintro e w1 ⟨rfl, rfl⟩
              go_wp2_with fail
              go_roundg gko
              case measure => omega
              case rel => exact ⟨rfl, o + 1, by omega, by first | rfl | simp, rfl, by show _ = _; rw [HE.out, HF.out, okW_no2 (t + 1) (by rw [← S2.out]; exact c2)]; rfl⟩
            · have c2' : ¬ 1 < (V : Int) + 1 := by omega
              go_wp2_with fail
              with_reducible refine (hb1 _).mono ?_
              rintro e w1 ⟨rfl, rfl⟩
              go_wp2_with fail
              with_reducible refine (hb2 _).mono ?_
              rintro e w1 ⟨rfl, rfl⟩
              go_wp2_with fail
              go_roundg g2
              case measure => omega
              case rel => exact ⟨rfl, t + 1, U, V + 1, by omega, by first | rfl | simp, by first | rfl | simp, by first | rfl | simp, by omega, by omega, S1.out, S2.out⟩
          · have S1 := Lib.hid (show U + 1 = cntB (fun y => lessW y F) ([a, b, c].take (t + 1)) by rw [HS1.out, ← HU.out, hp]; rfl)
            have S2 := Lib.hid (show V = cntB (fun y => lessW F y) ([a, b, c].take (t + 1)) by rw [HS2.out, ← HV.out, hq]; rfl)
            clear hp hq HS1 HS2
            by_cases c1 : 1 < U + 1
            · have c1' : 1 < (U : Int) + 1 := by omega
              go_wp2_with fail
              with_reducible refine (hb1 _).mono ?_
              rintro e w1 ⟨rfl, rfl⟩
              go_wp2_with fail
              with_reducible refine (hb2 _).mono ?_
              rintro e w1 ⟨rfl, rfl⟩
              go_wp2_with fail
              go_roundg gko
              case measure => omega
              case rel => exact ⟨rfl, o + 1, by omega, by first | rfl | simp, rfl, by show _ = _; rw [HE.out, HF.out, okW_no1 (t + 1) (by rw [← S1.out]; exact c1)]; rfl⟩
            · have c1' : ¬ 1 < (U : Int) + 1 := by omega
              have c2' : ¬ 1 < (V : Int) := by omega
              go_wp2_with fail
              with_reducible refine (hb1 _).mono ?_
              rintro e w1 ⟨rfl, rfl⟩
              go_wp2_with fail
              with_reducible refine (hb2 _).mono ?_
              rintro e w1 ⟨rfl, rfl⟩
              go_wp2_with fail
              go_roundg g2
              case measure => omega
              case rel => exact ⟨rfl, t + 1, U + 1, V, by omega, by first | rfl | simp, by first | rfl | simp, by first | rfl | simp, by omega, by omega, S1.out, S2.out⟩
          · have S1 := Lib.hid (show U + 1 = cntB (fun y => lessW y F) ([a, b, c].take (t + 1)) by rw [HS1.out, ← HU.out, hp]; rfl)
            have S2 := Lib.hid (show V + 1 = cntB (fun y => lessW F y) ([a, b, c].take (t + 1)) by rw [HS2.out, ← HV.out, hq]; rfl)
            clear hp hq HS1 HS2
            by_cases c1 : 1 < U + 1
            · have c1' : 1 < (U : Int) + 1 := by omega
              go_wp2_with fail
              with_reducible refine (hb1 _).mono ?_
              rintro e w1 ⟨rfl, rfl⟩
              go_wp2_with fail
              with_reducible refine (hb2 _).mono ?_
              rintro e w1 ⟨rfl, rfl⟩
              go_wp2_with fail
              go_roundg gko
              case measure => omega
              case rel => exact ⟨rfl, o + 1, by omega, by first | rfl | simp, rfl, by show _ = _; rw [HE.out, HF.out, okW_no1 (t + 1) (by rw [← S1.out]; exact c1)]; rfl⟩
            · have c1' : ¬ 1 < (U : Int) + 1 := by omega
              by_cases c2 : 1 < V + 1
              · have c2' : 1 < (V : Int) + 1 := by omega
                go_wp2_with fail
                with_reducible refine (hb1 _).mono ?_
                rintro e w1 ⟨rfl, rfl⟩
                go_wp2_with fail
                with_reducible refine (hb2 _).mono ?_
                rintro e w1 ⟨rfl, rfl⟩
                go_wp2_with fail
                go_roundg gko
                case measure => omega
                case rel => exact ⟨rfl, o + 1, by omega, by first | rfl | simp, rfl, by show _ = _; rw [HE.out, HF.out, okW_no2 (t + 1) (by rw [← S2.out]; exact c2)]; rfl⟩
              · have c2' : ¬ 1 < (V : Int) + 1 := by omega
                go_wp2_with fail
                with_reducible refine (hb1 _).mono ?_
                rintro e w1 ⟨rfl, rfl⟩
                go_wp2_with fail
                with_reducible refine (hb2 _).mono ?_
                rintro e w1 ⟨rfl, rfl⟩
                go_wp2_with fail
                go_roundg g2
                case measure => omega
                case rel => exact ⟨rfl, t + 1, U + 1, V + 1, by omega, by first | rfl | simp, by first | rfl | simp, by first | rfl | simp, by omega, by omega, S1.out, S2.out⟩

def medW (a b c : Nat) : Nat := plainW (midW [a, b, c])
theorem midW_lt {a b c : Nat} (ha : a < 18446744073709551616) (hb : b < 18446744073709551616) (hc : c < 18446744073709551616) : midW [a, b, c] < 18446744073709551616 := by
  unfold midW
  cases h : [a, b, c].find? (okW [a, b, c]) with
  | none => decide
  | some x =>
    have := List.mem_of_find?_eq_some h
    simp only [List.mem_cons, List.not_mem_nil, or_false] at this
    rcases this with rfl | rfl | rfl
    · exact ha
    · exact hb
    · exact hc
theorem Median_any (a b c : Nat) (w : World) (ha : a < 18446744073709551616) (hb : b < 18446744073709551616) (hc : c < 18446744073709551616) :
    Calls Try.prog 20 #[.int .u64 (a : Int), .int .u64 (b : Int), .int .u64 (c : Int)] w fun e w' => e = .returned (.int .u64 (medW a b c : Nat)) ∧ Below w.heap.size w w' := by
  have hM := fun W => middle_any a b c W ha hb hc
  have hW := fun W => wordOf_any (midW [a, b, c]) W (midW_lt ha hb hc)
  have hS : plainW (midW [a, b, c]) = medW a b c := rfl
  rw [hS] at hW
  clear hS
  generalize midW [a, b, c] = z at *
  generalize medW a b c = R at *
  go_enter Try.func20, Try.ntmps20
  go_wp2_with fail
  with_reducible refine (floatOf_any _ _).mono ?_
  rintro e w1 ⟨rfl, rfl⟩
  go_wp2_with fail
  with_reducible refine (floatOf_any _ _).mono ?_
  rintro e w1 ⟨rfl, rfl⟩
  go_wp2_with fail
  with_reducible refine (floatOf_any _ _).mono ?_
  rintro e w1 ⟨rfl, rfl⟩
  go_wp2_with fail
  with_reducible refine (hM _).mono ?_
  rintro e w1 ⟨rfl, hB⟩
  go_wp2_with fail
  with_reducible refine (hW _).mono ?_
  rintro e w2 ⟨rfl, rfl⟩
  go_wp2_with fail
  go_ret
  exact ⟨rfl, hB⟩
end Go.Proofs.Ytkpdfjpdjjjfiaa
