/- Plain facts on pairs, tokens and their bytes (no program). -/
import Derived.Test.YtjipibpcnheniaaDoorChuQ
namespace Go.Proofs.YtjipibpcnheniaaDoor
open Go.RowKit

abbrev Pr := Nat × Nat
def aheadB (a b : Pr) : Bool := decide (a.1 < b.1) || (decide (a.1 = b.1) && decide (a.2 < b.2))
def Le (a b : Pr) : Prop := aheadB b a = false
theorem ahead_iff (a b : Pr) : aheadB a b = true ↔ a.1 < b.1 ∨ (a.1 = b.1 ∧ a.2 < b.2) := by simp [aheadB]
theorem le_iff (a b : Pr) : Le a b ↔ a.1 < b.1 ∨ (a.1 = b.1 ∧ a.2 ≤ b.2) := by
  unfold Le
  rw [Bool.eq_false_iff, ne_eq, ahead_iff]; omega
theorem Le.trans {a b c : Pr} (h : Le a b) (k : Le b c) : Le a c := by rw [le_iff] at *; omega
theorem Le.antisymm {a b : Pr} (h : Le a b) (k : Le b a) : a = b := by
  rw [le_iff] at *
  exact Prod.ext (by omega) (by omega)
theorem Le.rfl {a : Pr} : Le a a := by rw [le_iff]; omega
theorem le_of_ahead {a b : Pr} (h : aheadB a b = true) : Le a b := by rw [ahead_iff] at h; rw [le_iff]; omega

/-- In their order. -/
def srt : List Pr → Bool
  | [] => true
  | a :: l => match l with
    | [] => true
    | b :: _ => !aheadB b a && srt l
theorem srt_cons2 (a b : Pr) (l : List Pr) : srt (a :: b :: l) = (!aheadB b a && srt (b :: l)) := rfl
theorem srt_iff : ∀ l : List Pr, srt l = true ↔ l.Pairwise Le
  | [] => by simp [srt]
  | [a] => by simp [srt]
  | a :: b :: l => by
    rw [srt_cons2, Bool.and_eq_true, srt_iff (b :: l)]
    constructor
    · rintro ⟨h, k⟩
      refine List.pairwise_cons.2 ⟨fun x hx => ?_, k⟩
      have h1 : Le a b := by unfold Le; simpa using h
      rcases List.mem_cons.1 hx with rfl | hx
      · exact h1
      · exact h1.trans ((List.pairwise_cons.1 k).1 x hx)
    · intro h
      obtain ⟨h1, h2⟩ := List.pairwise_cons.1 h
      have := h1 b (by simp)
      exact ⟨by unfold Le at this; simpa using this, h2⟩
/- by places, as loops see it -/
theorem srt_at (l : List Pr) : srt l = true ↔ ∀ i (h : i + 1 < l.length), aheadB l[i + 1] l[i] = false := by
  induction l with
  | nil => simp [srt]
  | cons a l ih =>
    cases l with
    | nil => simp [srt]
    | cons b l =>
      rw [srt_cons2, Bool.and_eq_true, ih]
      constructor
      · rintro ⟨h, k⟩ i hi
        cases i with
        | zero => simpa using h
        | succ i => exact k i (by simpa using hi)
      · intro h
        refine ⟨by simpa using h 0 (by simp), fun i hi => ?_⟩
        exact h (i + 1) (by simpa using hi)
theorem srt_take {l : List Pr} (k : Nat) (h : srt l = true) : srt (l.take k) = true := by
  rw [srt_iff] at *
  exact h.sublist (List.take_sublist _ _)
theorem srt_drop {l : List Pr} (k : Nat) (h : srt l = true) : srt (l.drop k) = true := by
  rw [srt_iff] at *
  exact h.sublist (List.drop_sublist _ _)
theorem srt_unique {a b : List Pr} (ha : srt a = true) (hb : srt b = true) (h : a.Perm b) : a = b :=
  h.eq_of_pairwise (le := Le) (fun _ _ _ _ k1 k2 => k1.antisymm k2) ((srt_iff a).1 ha) ((srt_iff b).1 hb)

/-- All of two lists, in their order. -/
def mrg : List Pr → List Pr → List Pr
  | a, [] => a
  | [], y :: ys => y :: ys
  | x :: xs, y :: ys => if aheadB y x then y :: mrg (x :: xs) ys else x :: mrg xs (y :: ys)
termination_by a b => a.length + b.length
theorem mrg_nil (a : List Pr) : mrg a [] = a := by cases a <;> simp [mrg]
theorem nil_mrg (b : List Pr) : mrg [] b = b := by cases b <;> simp [mrg]
theorem mrg_cons (x : Pr) (xs : List Pr) (y : Pr) (ys : List Pr) : mrg (x :: xs) (y :: ys) = if aheadB y x then y :: mrg (x :: xs) ys else x :: mrg xs (y :: ys) := by rw [mrg]
theorem mrg_perm : ∀ a b : List Pr, (mrg a b).Perm (a ++ b)
  | a, [] => by rw [mrg_nil]; simp
  | [], y :: ys => by rw [nil_mrg]; simp
  | x :: xs, y :: ys => by
    rw [mrg_cons]
    split
    · exact ((mrg_perm (x :: xs) ys).cons y).trans List.perm_middle.symm
    · exact (mrg_perm xs (y :: ys)).cons x
termination_by a b => a.length + b.length
theorem mrg_length (a b : List Pr) : (mrg a b).length = a.length + b.length := by rw [(mrg_perm a b).length_eq, List.length_append]
theorem mrg_srt : ∀ {a b : List Pr}, srt a = true → srt b = true → srt (mrg a b) = true
  | a, [], ha, _ => by rw [mrg_nil]; exact ha
  | [], y :: ys, _, hb => by rw [nil_mrg]; exact hb
  | x :: xs, y :: ys, ha, hb => by
    rw [mrg_cons]
    have ha' := (srt_iff _).1 ha
    have hb' := (srt_iff _).1 hb
    obtain ⟨hx, hxs⟩ := List.pairwise_cons.1 ha'
    obtain ⟨hy, hys⟩ := List.pairwise_cons.1 hb'
    split
    · rename_i h
      have r := (srt_iff _).1 (mrg_srt ha ((srt_iff _).2 hys))
      refine (srt_iff _).2 (List.pairwise_cons.2 ⟨fun z hz => ?_, r⟩)
      rcases List.mem_append.1 ((mrg_perm _ _).mem_iff.1 hz) with hz | hz
      · rcases List.mem_cons.1 hz with rfl | hz
        · exact le_of_ahead h
        · exact (le_of_ahead h).trans (hx z hz)
      · exact hy z hz
    · rename_i h
      have h1 : Le x y := by unfold Le; simpa using h
      have r := (srt_iff _).1 (mrg_srt ((srt_iff _).2 hxs) hb)
      refine (srt_iff _).2 (List.pairwise_cons.2 ⟨fun z hz => ?_, r⟩)
      rcases List.mem_append.1 ((mrg_perm _ _).mem_iff.1 hz) with hz | hz
      · exact hx z hz
      · rcases List.mem_cons.1 hz with rfl | hz
        · exact h1
        · exact h1.trans (hy z hz)
termination_by a b => a.length + b.length
def mrgAll (ls : List (List Pr)) : List Pr := ls.foldl mrg []
theorem foldl_mrg_perm : ∀ (ls : List (List Pr)) (a : List Pr), (ls.foldl mrg a).Perm (a ++ ls.flatten)
  | [], a => by simp
  | l :: ls, a => by
    simp only [List.foldl_cons, List.flatten_cons]
    refine (foldl_mrg_perm ls (mrg a l)).trans ?_
    rw [← List.append_assoc]
    exact (mrg_perm a l).append_right _
theorem mrgAll_perm (ls : List (List Pr)) : (mrgAll ls).Perm ls.flatten := foldl_mrg_perm ls []
theorem foldl_mrg_srt : ∀ (ls : List (List Pr)) (a : List Pr), srt a = true → (∀ l ∈ ls, srt l = true) → srt (ls.foldl mrg a) = true
  | [], _, ha, _ => ha
  | l :: ls, a, ha, h => by
    simp only [List.foldl_cons]
    exact foldl_mrg_srt ls _ (mrg_srt ha (h l (by simp))) fun k hk => h k (by simp [hk])
theorem mrgAll_srt (ls : List (List Pr)) (h : ∀ l ∈ ls, srt l = true) : srt (mrgAll ls) = true := foldl_mrg_srt ls [] rfl h
theorem mrgAll_eq {ls : List (List Pr)} (h : ∀ l ∈ ls, srt l = true) {r : List Pr} (hr : srt r = true) (hp : r.Perm ls.flatten) : mrgAll ls = r :=
  srt_unique (mrgAll_srt ls h) hr ((mrgAll_perm ls).trans hp.symm)
theorem mrgAll_length (ls : List (List Pr)) : (mrgAll ls).length = (ls.map List.length).sum := by
  rw [(mrgAll_perm ls).length_eq, List.length_flatten]

/-- One pair put into its place: behind those that it is not ahead of. -/
def ins (p : Pr) (l : List Pr) : List Pr := mrg l [p]
theorem ins_srt {p : Pr} {l : List Pr} (h : srt l = true) : srt (ins p l) = true := mrg_srt h rfl
theorem ins_perm (p : Pr) (l : List Pr) : (ins p l).Perm (p :: l) := (mrg_perm l [p]).trans List.perm_append_comm
theorem ins_length (p : Pr) (l : List Pr) : (ins p l).length = l.length + 1 := by rw [ins, mrg_length]; rfl
/- as a loop from the end finds it: behind place n all are such as p is ahead of, and n is the first such or p isn't ahead of what stands there -/
theorem ins_at {p : Pr} {l : List Pr} (h : srt l = true) (n : Nat) (hn : n ≤ l.length) (hb : ∀ i (hi : i < l.length), n ≤ i → aheadB p l[i] = true) (ha : ∀ i (hi : i < l.length), i + 1 = n → aheadB p l[i] = false) :
    l.take n ++ p :: l.drop n = ins p l := by
  refine srt_unique ?_ (ins_srt h) ?_
  · have hs := (srt_iff l).1 h
    rw [srt_iff, List.pairwise_append]
    refine ⟨hs.sublist (List.take_sublist _ _), List.pairwise_cons.2 ⟨fun x hx => ?_, hs.sublist (List.drop_sublist _ _)⟩, fun x hx y hy => ?_⟩
    · obtain ⟨i, hi, rfl⟩ := List.mem_iff_getElem.1 hx
      rw [List.getElem_drop]
      exact le_of_ahead (hb _ _ (by omega))
    · have hxp : Le x p := by
        obtain ⟨i, hi, rfl⟩ := List.mem_iff_getElem.1 hx
        rw [List.length_take] at hi
        rw [List.getElem_take]
        have hlast : Le l[n - 1] p := ha (n - 1) (by omega) (by omega)
        rcases Nat.lt_or_ge i (n - 1) with k | k
        · exact (List.pairwise_iff_getElem.1 hs i (n - 1) (by omega) (by omega) k).trans hlast
        · have : i = n - 1 := by omega
          subst this; exact hlast
      rcases List.mem_cons.1 hy with rfl | hy
      · exact hxp
      · have : y ∈ l.drop n := hy
        obtain ⟨i, hi, rfl⟩ := List.mem_iff_getElem.1 this
        rw [List.getElem_drop]
        exact hxp.trans (le_of_ahead (hb _ _ (by omega)))
  · refine List.perm_middle.trans ?_
    rw [List.take_append_drop]
    exact (ins_perm p l).symm

/- keys that rise, of one root -/
def keysOk (root : Nat) (l : List Pr) : Bool := l.all (fun p => p.2 == root) && decide ((l.map (·.1)).Pairwise (· < ·))

/- a token's bytes -/
def pairBytes (p : Pr) : List UInt8 := leBytes p.1 8 ++ leBytes p.2 8
def encB (f : Bool) (l : List Pr) : List UInt8 := (if f then 1 else 0) :: l.flatMap pairBytes
def Fit (l : List Pr) : Prop := ∀ p ∈ l, p.1 < 18446744073709551616 ∧ p.2 < 18446744073709551616
theorem pairBytes_length (p : Pr) : (pairBytes p).length = 16 := by simp [pairBytes, leBytes_length]
theorem flat_length : ∀ l : List Pr, (l.flatMap pairBytes).length = 16 * l.length
  | [] => rfl
  | p :: l => by rw [List.flatMap_cons, List.length_append, pairBytes_length, flat_length l, List.length_cons]; omega
theorem encB_length (f : Bool) (l : List Pr) : (encB f l).length = 1 + 16 * l.length := by
  unfold encB
  rw [List.length_cons, flat_length]; omega
/-- The pairs of bytes: n of them. -/
def readP : Nat → List UInt8 → List Pr
  | 0, _ => []
  | n + 1, s => (leNum (s.take 8), leNum ((s.drop 8).take 8)) :: readP n (s.drop 16)
theorem readP_length : ∀ n s, (readP n s).length = n
  | 0, _ => rfl
  | n + 1, s => by simp [readP, readP_length n]
theorem num_bytes {a : Nat} (h : a < 18446744073709551616) : leNum (leBytes a 8) = a := by
  rw [leNum_leBytes, show (256 : Nat) ^ 8 = 18446744073709551616 by decide, Nat.mod_eq_of_lt h]
theorem readP_flat : ∀ l : List Pr, Fit l → readP l.length (l.flatMap pairBytes) = l
  | [], _ => rfl
  | p :: l, h => by
    obtain ⟨h1, h2⟩ := h p (by simp)
    have e1 : ((p :: l).flatMap pairBytes).take 8 = leBytes p.1 8 := by
      rw [List.flatMap_cons, pairBytes, List.append_assoc, List.take_left' (leBytes_length _ _)]
    have e2 : (((p :: l).flatMap pairBytes).drop 8).take 8 = leBytes p.2 8 := by
      rw [List.flatMap_cons, pairBytes, List.append_assoc, List.drop_left' (leBytes_length _ _), List.take_left' (leBytes_length _ _)]
    have e3 : ((p :: l).flatMap pairBytes).drop 16 = l.flatMap pairBytes := by
      rw [List.flatMap_cons, List.drop_left' (pairBytes_length p)]
    rw [List.length_cons, readP, e1, e2, e3, num_bytes h1, num_bytes h2, readP_flat l fun q hq => h q (by simp [hq])]
theorem flat_readP : ∀ n (s : List UInt8), s.length = 16 * n → (readP n s).flatMap pairBytes = s
  | 0, s, h => by
    have : s = [] := List.eq_nil_of_length_eq_zero (by omega)
    subst this; rfl
  | n + 1, s, h => by
    rw [readP, List.flatMap_cons, flat_readP n (s.drop 16) (by rw [List.length_drop]; omega), pairBytes]
    have l1 : (s.take 8).length = 8 := by rw [List.length_take]; omega
    have l2 : ((s.drop 8).take 8).length = 8 := by rw [List.length_take, List.length_drop]; omega
    have e1 : leBytes (leNum (s.take 8)) 8 = s.take 8 := by have := leBytes_leNum (s.take 8); rwa [l1] at this
    have e2 : leBytes (leNum ((s.drop 8).take 8)) 8 = (s.drop 8).take 8 := by have := leBytes_leNum ((s.drop 8).take 8); rwa [l2] at this
    show leBytes (leNum (s.take 8)) 8 ++ leBytes (leNum ((s.drop 8).take 8)) 8 ++ s.drop 16 = s
    rw [e1, e2, List.append_assoc, show s.drop 16 = (s.drop 8).drop 8 by rw [List.drop_drop], List.take_append_drop, List.take_append_drop]
theorem readP_fit (n : Nat) : ∀ s, Fit (readP n s) := by
  induction n with
  | zero => intro s p hp; simp [readP] at hp
  | succ n ih =>
    intro s p hp
    rw [readP] at hp
    rcases List.mem_cons.1 hp with rfl | hp
    · exact ⟨leNum_lt64 _ (by rw [List.length_take]; omega), leNum_lt64 _ (by rw [List.length_take]; omega)⟩
    · exact ih _ p hp
theorem readP_get : ∀ (n : Nat) (s : List UInt8) (i : Nat), i < n → (readP n s)[i]? = some (leNum ((s.drop (16 * i)).take 8), leNum ((s.drop (16 * i + 8)).take 8))
  | 0, _, _, h => by omega
  | n + 1, s, 0, _ => by simp [readP]
  | n + 1, s, i + 1, h => by
    rw [readP, List.getElem?_cons_succ, readP_get n _ i (by omega), List.drop_drop, List.drop_drop]
    congr 3 <;> congr 2 <;> omega
/-- What Decode tells: the error, Forged, the pairs. -/
def decB (s : List UInt8) : Int × Bool × List Pr :=
  match s with
  | [] => (2, false, [])
  | b :: r => if r.length % 16 ≠ 0 ∨ 1 < b.toNat then (2, false, []) else
    if srt (readP (r.length / 16) r) = false then (2, false, []) else if 2048 < r.length / 16 then (4, false, []) else (0, b.toNat == 1, readP (r.length / 16) r)
theorem dec_enc (f : Bool) (l : List Pr) (hf : Fit l) (hs : srt l = true) (hl : l.length ≤ 2048) : decB (encB f l) = (0, f, l) := by
  unfold encB
  simp only [decB]
  rw [flat_length, Nat.mul_mod_right, Nat.mul_div_right _ (by decide), readP_flat l hf, hs, if_neg, if_neg (by simp), if_neg (by omega)]
  · cases f <;> rfl
  · cases f <;> simp
theorem enc_dec {s : List UInt8} {f : Bool} {l : List Pr} (h : decB s = (0, f, l)) : encB f l = s ∧ srt l = true ∧ l.length ≤ 2048 ∧ Fit l := by
  cases s with
  | nil => simp [decB] at h
  | cons b r =>
    simp only [decB] at h
    split at h
    · simp at h
    · rename_i h1
      split at h
      · simp at h
      · rename_i h2
        split at h
        · simp at h
        · rename_i h3
          obtain ⟨_, h4⟩ := Prod.mk.inj h
          obtain ⟨e1, e2⟩ := Prod.mk.inj h4
          have e2' : readP (r.length / 16) r = l := e2
          have hr : (readP (r.length / 16) r).flatMap pairBytes = r := flat_readP _ _ (by omega)
          refine ⟨?_, ?_, ?_, ?_⟩
          · unfold encB
            rw [← e2', hr, ← e1]
            have hb : b.toNat = 0 ∨ b.toNat = 1 := by omega
            rcases hb with hb | hb
            · have : b = 0 := UInt8.toNat_inj.1 hb
              subst this; rfl
            · have : b = 1 := UInt8.toNat_inj.1 hb
              subst this; rfl
          · rw [← e2']; simpa using h2
          · rw [← e2', readP_length]; omega
          · rw [← e2']; exact readP_fit _ _
theorem enc_inj {f g : Bool} {l m : List Pr} (hl : Fit l) (hm : Fit m) : encB f l = encB g m ↔ f = g ∧ l = m := by
  constructor
  · intro h
    have hlen := congrArg List.length h
    rw [encB_length, encB_length] at hlen
    unfold encB at h
    obtain ⟨h1, h2⟩ := List.cons.inj h
    have e : l = m := by
      rw [← readP_flat l hl, ← readP_flat m hm, h2, show l.length = m.length by omega]
    exact ⟨by cases f <;> cases g <;> first | rfl | simp at h1, e⟩
  · rintro ⟨rfl, rfl⟩; rfl
end Go.Proofs.YtjipibpcnheniaaDoor
