/- Of DutySelected: what hangs on size by Aggregators alone; a token with a key ahead of all is not right. -/
import Derived.Test.YtjipibpcnheniaaDoorDutH
import Derived.Test.YtjipibpcnheniaaDoorTokM
namespace Go.Proofs.YtjipibpcnheniaaDoor
open Go.RowKit Go.Lib

/-- Selected hangs on size by Aggregators, and below two of it each one is. -/
theorem selD_by {y G : Nat} {f : Bool} {l : List Pr} (hG : 1 ≤ G) : selD (max (y / G) 1 * G) G f l = selD y G f l := by
  unfold selD
  rw [Nat.mul_div_cancel _ (show 0 < G by omega)]
  generalize y / G = q
  by_cases h : q = 0
  · rw [h]; simp [Nat.mod_one]
  · rw [show max q 1 = q by omega]
theorem selD_all {y G : Nat} {f : Bool} {l : List Pr} (hG : 1 ≤ G) (hy : y < 2 * G) (h0 : (encT f l).2 = 0) : selD y G f l = true := by
  have h2 : y / G < 2 := (Nat.div_lt_iff_lt_mul (by omega)).2 hy
  unfold selD
  rw [h0]
  generalize y / G = q at *
  rcases (show q = 0 ∨ q = 1 by omega) with h | h <;> rw [h] <;> simp [Nat.mod_one]
theorem encT_raw (f : Bool) (raw : List Int) : (encT f (tokL raw)).2 = 0 := by
  unfold encT
  rw [if_pos (tokL_right raw)]
theorem wrong_right {raw : List Int} (h : tokL raw ≠ []) : rightT ((99, 0) :: tokL raw) = false := by
  have hs := tokL_small raw
  generalize tokL raw = l at *
  cases l with
  | nil => exact absurd rfl h
  | cons b l =>
    unfold rightT
    rw [srt_cons2, show aheadB b (99, 0) = true by rw [ahead_iff]; exact Or.inl (by have := (hs b (by simp)).1; show b.1 < 99; omega)]
    rfl
theorem selD_wrong {y G : Nat} {f : Bool} {raw : List Int} (h : tokL raw ≠ []) : selD y G f ((99, 0) :: tokL raw) = false := by
  unfold selD encT
  rw [if_neg (by rw [wrong_right h]; decide)]
  rfl
theorem selD_short {f : Bool} {raw : List Int} (h : tokL raw ≠ []) : (encT f ((99, 0) :: tokL raw)).1.length ≤ 1000 := by
  unfold encT
  rw [if_neg (by rw [wrong_right h]; decide)]
  exact Nat.zero_le _
theorem news_all10 {w W : World} {A : Option Addr} {c : Nat} {l : List Pr} (hP : Prs w w.heap.size (.slice A l.length c) l) (hb : Below w.heap.size w W) :
    0 < l.length → ∃ ad, A = some ad ∧ ∀ j u, (l.flatMap pairCells)[j]? = some u → W.cell? (ad.add j) = some u := by
  have := news_first hP hb (Nat.le_refl _)
  rwa [List.take_length] at this
end Go.Proofs.YtjipibpcnheniaaDoor
