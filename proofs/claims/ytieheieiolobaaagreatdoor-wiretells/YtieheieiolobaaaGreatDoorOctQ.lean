/- Plain facts on texts of several parts (no program): Join and Split on lists of bytes. -/
import Derived.Test.YtieheieiolobaaaGreatDoorOctP
namespace Go.Proofs.YtieheieiolobaaaGreatDoor

abbrev Text := List UInt8

/-- The parts' places, each by four bytes, the first one at p. -/
def placesOf (p : Nat) : List Text → Text
  | [] => []
  | x :: xs => leBytes p 4 ++ placesOf (p + x.length) xs

def sumLen (ps : List Text) : Nat := ps.flatten.length

/-- The whole that Join makes. -/
def wholeOf (f : Text) (ps : List Text) : Text := f ++ placesOf (f.length + 4 * ps.length) ps ++ ps.flatten

theorem placesOf_length : ∀ (ps : List Text) (p : Nat), (placesOf p ps).length = 4 * ps.length
  | [], _ => rfl
  | x :: xs, p => by simp [placesOf, leBytes_length, placesOf_length xs]; omega

theorem wholeOf_length (f : Text) (ps : List Text) : (wholeOf f ps).length = f.length + 4 * ps.length + sumLen ps := by
  simp [wholeOf, placesOf_length, sumLen]; omega

theorem sumLen_nil : sumLen [] = 0 := rfl
theorem sumLen_cons (x : Text) (xs : List Text) : sumLen (x :: xs) = x.length + sumLen xs := by simp [sumLen]
theorem sumLen_append (a b : List Text) : sumLen (a ++ b) = sumLen a + sumLen b := by simp [sumLen]

theorem placesOf_append : ∀ (a b : List Text) (p : Nat), placesOf p (a ++ b) = placesOf p a ++ placesOf (p + sumLen a) b
  | [], b, p => by simp [placesOf, sumLen]
  | x :: xs, b, p => by
    simp only [List.cons_append, placesOf, placesOf_append xs b, List.append_assoc, sumLen_cons]
    rw [Nat.add_assoc]

/-- The number that stands at place at, by four bytes. -/
def numAt (s : Text) (at_ : Nat) : Nat := leNum ((s.drop at_).take 4)

/-- The parts, from the last one backwards. -/
def cutBack (s : Text) (fixed body : Nat) : Nat → Nat → List Text → Option (List Text)
  | 0, stop, acc => if stop = body then some acc else none
  | i + 1, stop, acc =>
    let place := numAt s (fixed + 4 * i)
    if place ≤ stop then cutBack s fixed body i place ((s.drop place).take (stop - place) :: acc) else none

theorem take_take_drop (s : Text) (a b c : Nat) (h1 : a ≤ b) (h2 : b ≤ c) : (s.drop a).take (b - a) ++ (s.drop b).take (c - b) = (s.drop a).take (c - a) := by
  have e : c - a = (b - a) + (c - b) := by omega
  rw [e, List.take_add, List.drop_drop]
  congr 3
  omega

theorem cutBack_sound (s : Text) (fixed body : Nat) : ∀ (i stop : Nat) (acc ps : List Text), fixed + 4 * i ≤ body → body ≤ s.length → stop ≤ s.length → cutBack s fixed body i stop acc = some ps →
    ∃ pre, ps = pre ++ acc ∧ pre.length = i ∧ body ≤ stop ∧ pre.flatten = (s.drop body).take (stop - body) ∧ placesOf body pre = (s.drop fixed).take (4 * i)
  | 0, stop, acc, ps, _, _, _, h => by
    simp only [cutBack] at h
    split at h
    · next e =>
      subst e
      injection h with h
      exact ⟨[], by simp [h], rfl, Nat.le_refl _, by simp, by simp [placesOf]⟩
    · cases h
  | i + 1, stop, acc, ps, h1, h2, h3, h => by
    simp only [cutBack] at h
    split at h
    · next hle =>
      obtain ⟨pre, hps, hl, hb, hf, hp⟩ := cutBack_sound s fixed body i _ _ ps (by omega) h2 (by omega) h
      generalize hpl : numAt s (fixed + 4 * i) = place at *
      refine ⟨pre ++ [(s.drop place).take (stop - place)], by simp [hps], by simp [hl], by omega, ?_, ?_⟩
      · simp only [List.flatten_append, List.flatten_cons, List.flatten_nil, List.append_nil, hf]
        exact take_take_drop s body place stop hb hle
      · have hs : sumLen pre = place - body := by
          unfold sumLen; rw [hf, List.length_take, List.length_drop]; omega
        rw [placesOf_append, hp, hs]
        have e1 : body + (place - body) = place := by omega
        have e2 : placesOf place [(s.drop place).take (stop - place)] = leBytes place 4 := by simp [placesOf]
        have hl4 : ((s.drop (fixed + 4 * i)).take 4).length = 4 := by rw [List.length_take, List.length_drop]; omega
        have e3 : leBytes place 4 = (s.drop (fixed + 4 * i)).take 4 := by
          have := leBytes_leNum ((s.drop (fixed + 4 * i)).take 4)
          rw [hl4] at this
          rw [← hpl]; exact this
        rw [e1, e2, e3]
        have := take_take_drop s fixed (fixed + 4 * i) (fixed + 4 * i + 4) (by omega) (by omega)
        rw [show fixed + 4 * i - fixed = 4 * i by omega, show fixed + 4 * i + 4 - (fixed + 4 * i) = 4 by omega, show fixed + 4 * i + 4 - fixed = 4 * (i + 1) by omega] at this
        exact this
    · cases h

theorem cutBack_whole (s : Text) (fixed many : Nat) (ps : List Text) (h : fixed + 4 * many ≤ s.length) (hc : cutBack s fixed (fixed + 4 * many) many s.length [] = some ps) :
    ps.length = many ∧ wholeOf (s.take fixed) ps = s := by
  obtain ⟨pre, hps, hl, _, hf, hp⟩ := cutBack_sound s fixed (fixed + 4 * many) many s.length [] ps (by omega) h (Nat.le_refl _) hc
  simp only [List.append_nil] at hps
  subst hps
  refine ⟨hl, ?_⟩
  have e1 : (s.take fixed).length = fixed := by rw [List.length_take]; omega
  unfold wholeOf
  have e3 : (s.drop (fixed + 4 * many)).take (s.length - (fixed + 4 * many)) = s.drop (fixed + 4 * many) := List.take_of_length_le (by rw [List.length_drop]; exact Nat.le_refl _)
  rw [e1, hl, hp, hf, e3, List.append_assoc]
  have e2 : s.drop (fixed + 4 * many) = (s.drop fixed).drop (4 * many) := by rw [List.drop_drop]
  rw [e2, List.take_append_drop, List.take_append_drop]

theorem pow32 : (256 : Nat) ^ 4 = 4294967296 := by decide

theorem num_place (p : Nat) (h : p < 4294967296) : leNum (leBytes p 4) = p := by
  rw [leNum_leBytes, pow32]; omega

/-- In what Join made, the place of the part behind a is told. -/
theorem numAt_whole (f : Text) (a : List Text) (x : Text) (b : List Text) (h : (wholeOf f (a ++ x :: b)).length ≤ 65536) :
    numAt (wholeOf f (a ++ x :: b)) (f.length + 4 * a.length) = f.length + 4 * (a ++ x :: b).length + sumLen a := by
  have hl := wholeOf_length f (a ++ x :: b)
  have e : wholeOf f (a ++ x :: b) = (f ++ placesOf (f.length + 4 * (a ++ x :: b).length) a) ++ (leBytes (f.length + 4 * (a ++ x :: b).length + sumLen a) 4 ++ (placesOf (f.length + 4 * (a ++ x :: b).length + sumLen a + x.length) b ++ (a ++ x :: b).flatten)) := by
    unfold wholeOf
    rw [placesOf_append, placesOf]
    simp only [List.append_assoc]
  have hlen : (f ++ placesOf (f.length + 4 * (a ++ x :: b).length) a).length = f.length + 4 * a.length := by simp [placesOf_length]
  rw [sumLen_append] at hl
  unfold numAt
  rw [e, ← hlen, List.drop_left, List.take_append_of_le_length (by rw [leBytes_length]; omega), List.take_of_length_le (by rw [leBytes_length]; omega)]
  exact num_place _ (by omega)

theorem part_whole (f : Text) (a : List Text) (x : Text) (b : List Text) :
    ((wholeOf f (a ++ x :: b)).drop (f.length + 4 * (a ++ x :: b).length + sumLen a)).take x.length = x := by
  have e : wholeOf f (a ++ x :: b) = (f ++ placesOf (f.length + 4 * (a ++ x :: b).length) (a ++ x :: b) ++ a.flatten) ++ (x ++ b.flatten) := by
    unfold wholeOf
    simp
  have hlen : (f ++ placesOf (f.length + 4 * (a ++ x :: b).length) (a ++ x :: b) ++ a.flatten).length = f.length + 4 * (a ++ x :: b).length + sumLen a := by simp [placesOf_length, sumLen]; omega
  rw [e, ← hlen, List.drop_left, List.take_append_of_le_length (Nat.le_refl _), List.take_of_length_le (Nat.le_refl _)]

theorem cutBack_complete (f : Text) : ∀ (a b : List Text), (wholeOf f (a ++ b)).length ≤ 65536 →
    cutBack (wholeOf f (a ++ b)) f.length (f.length + 4 * (a ++ b).length) a.length (f.length + 4 * (a ++ b).length + sumLen a) b = some (a ++ b) := by
  intro a
  generalize hn : a.length = n
  induction n generalizing a with
  | zero =>
    intro b _
    have : a = [] := List.eq_nil_of_length_eq_zero hn
    subst this
    simp [cutBack, sumLen]
  | succ n ih =>
    intro b hl
    obtain ⟨a', x, rfl⟩ : ∃ a' x, a = a' ++ [x] := by
      rcases List.eq_nil_or_concat a with h0 | ⟨a', x, h0⟩
      · subst h0; simp at hn
      · exact ⟨a', x, by simpa using h0⟩
    have hn' : a'.length = n := by simpa using hn
    have e0 : (a' ++ [x]) ++ b = a' ++ x :: b := by simp
    rw [e0] at hl ⊢
    have e1 := numAt_whole f a' x b hl
    have e2 := part_whole f a' x b
    rw [hn'] at e1
    have e3 : sumLen (a' ++ [x]) = sumLen a' + x.length := by rw [sumLen_append]; simp [sumLen]
    simp only [cutBack]
    rw [e1, if_pos (by rw [e3]; omega), e3]
    have e4 : f.length + 4 * (a' ++ x :: b).length + (sumLen a' + x.length) - (f.length + 4 * (a' ++ x :: b).length + sumLen a') = x.length := by omega
    rw [e4, e2]
    exact ih a' hn' (x :: b) hl

theorem cutBack_of_whole (f : Text) (ps : List Text) (h : (wholeOf f ps).length ≤ 65536) :
    cutBack (wholeOf f ps) f.length (f.length + 4 * ps.length) ps.length (wholeOf f ps).length [] = some ps := by
  have := cutBack_complete f ps [] (by simpa using h)
  simp only [List.append_nil] at this
  rw [wholeOf_length]
  exact this
end Go.Proofs.YtieheieiolobaaaGreatDoor
