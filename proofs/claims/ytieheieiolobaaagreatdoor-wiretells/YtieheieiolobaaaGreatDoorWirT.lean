/- Votes' bytes, plain; Vote and Unvote with their answers.
   What votes, aggregates and records are as bytes, and back: Unvote, Aggregate, Unaggregate, Unrecord with their answers.
   The laws' and the document's helpers of layer 6: pick, SameVote, SameAggregate.
   The statements' own small functions of layer 6: pick, and a vote of raw numbers.
   The statements' own small functions of layer 6: an aggregate of raw numbers. -/
import Derived.Test.YtieheieiolobaaaGreatDoorWirH
import Derived.Test.YtieheieiolobaaaGreatDoorOctS
import Derived.Test.YtieheieiolobaaaGreatDoorBitM
import Derived.Test.YtieheieiolobaaaGreatDoorTokM
import Derived.Deep.RegionHeld3
import Derived.Deep.CutRange
namespace Go.Proofs.YtieheieiolobaaaGreatDoor
open Go.RowKit

/-- A vote's bytes. -/
def voteB (ws : List Nat) (n : Int) (on : List Int) (f : Bool) (l : List Pr) : Text := wholeOf (wordsB ws) [listOf n on, encB f l]
theorem right_size {n : Int} {on : List Int} (h : rightB n on = true) : (listOf n on).length ≤ 257 := by
  obtain ⟨⟨h1, h2⟩, _, _⟩ := (rightB_iff n on).1 h
  rw [listOf_length]; omega
theorem voteB_length (ws : List Nat) (n : Int) (on : List Int) (f : Bool) (l : List Pr) : (voteB ws n on f l).length = 8 * ws.length + 8 + (listOf n on).length + (1 + 16 * l.length) := by
  unfold voteB
  rw [wholeOf_length, wordsB_length, sumLen_cons, sumLen_cons, sumLen_nil, encB_length]
  simp; omega
theorem voteB_fits {ws : List Nat} {n : Int} {on : List Int} {f : Bool} {l : List Pr} (h : rightB n on = true) (ht : rightT l = true) (hw : ws.length = 5) : (wordsB ws).length + 4 * [listOf n on, encB f l].length + sumLen [listOf n on, encB f l] ≤ 65536 := by
  have h1 := right_size h
  have h2 := right_len ht
  rw [wordsB_length, sumLen_cons, sumLen_cons, sumLen_nil, encB_length]
  simp; omega
theorem voteB_join {ws : List Nat} {n : Int} {on : List Int} {f : Bool} {l : List Pr} (h : rightB n on = true) (ht : rightT l = true) (hw : ws.length = 5) : joinOf (wordsB ws) [listOf n on, encB f l] = (voteB ws n on f l, 0) := by
  unfold joinOf
  rw [if_pos ⟨by simp, voteB_fits h ht hw⟩]; rfl
theorem Vote_ok (d0 d1 d2 d3 d4 : Nat) (n : Int) (on : List Int) (f : Bool) (l : List Pr) (A B : Option Addr) (c k : Nat) (S : ByteArray) (w : World) (hS : S.data.toList = voteB [d0, d1, d2, d3, d4] n on f l) (hr : rightB n on = true) (hrt : rightT l = true)
    (hx : Bt w (.agg #[.int .i64 n, .slice A on.length c]) n on) (ht : Tk w (.agg #[.bool f, .slice B l.length k]) f l) (h9 : on.length ≤ 1000000) (h9l : l.length ≤ 1000000) :
    Calls Tryz.prog 7 #[.agg #[.int .u64 (d0 : Int), .int .u64 (d1 : Int), .int .u64 (d2 : Int), .int .u64 (d3 : Int), .int .u64 (d4 : Int), .int .i64 n, .slice A on.length c, .bool f, .slice B l.length k]] w fun e w' => e = .returned (.tuple #[.string S, .int .i64 0]) ∧ Below w.heap.size w w' :=
  Vote_by S w d0 d1 d2 d3 d4 n f A B on.length c l.length k fun W hb =>
    writeVote_ok d0 d1 d2 d3 d4 n on f l A B c k W (hx.on hb) (ht.on hb) h9 h9l ⟨(listOf n on).toArray⟩ ⟨(encB f l).toArray⟩ ⟨(wordsB [d0, d1, d2, d3, d4]).toArray⟩ S (by simp) (by simp) (by simp) hr hrt
      (by simp only [List.toList_toArray]; rw [hS]; exact voteB_join hr hrt rfl)
theorem Vote_arg (d0 d1 d2 d3 d4 : Nat) (n : Int) (on : List Int) (f : Bool) (l : List Pr) (A B : Option Addr) (c k : Nat) (w : World) (hr : (rightB n on && rightT l) = false)
    (hx : Bt w (.agg #[.int .i64 n, .slice A on.length c]) n on) (ht : Tk w (.agg #[.bool f, .slice B l.length k]) f l) (h9 : on.length ≤ 1000000) (h9l : l.length ≤ 1000000) :
    Calls Tryz.prog 7 #[.agg #[.int .u64 (d0 : Int), .int .u64 (d1 : Int), .int .u64 (d2 : Int), .int .u64 (d3 : Int), .int .u64 (d4 : Int), .int .i64 n, .slice A on.length c, .bool f, .slice B l.length k]] w fun e w' => e = .returned (.tuple #[.string ⟨#[]⟩, .int .i64 1]) ∧ Below w.heap.size w w' :=
  Vote_no 1 w d0 d1 d2 d3 d4 n f A B on.length c l.length k fun W hb => by
    cases h : rightB n on
    · exact writeVote_bits d0 d1 d2 d3 d4 n on f l A B c k W (hx.on hb) (ht.on hb) h9 h9l h
    · rw [h, Bool.true_and] at hr
      exact writeVote_tok d0 d1 d2 d3 d4 n on f l A B c k W (hx.on hb) (ht.on hb) h9 h9l ⟨(listOf n on).toArray⟩ (by simp) h hr
end Go.Proofs.YtieheieiolobaaaGreatDoor

namespace Go.Proofs.YtieheieiolobaaaGreatDoor
open Go.RowKit

theorem wordsB_cons (a : Nat) (ws : List Nat) : wordsB (a :: ws) = leBytes a 8 ++ wordsB ws := by simp [wordsB]
theorem wordsB_nil : wordsB [] = [] := rfl
theorem num8_lt (s : ByteArray) : num8 s < 18446744073709551616 := leNum_lt64 _ (by simp; omega)
theorem left8_list (s : ByteArray) : (left8 s).data.toList = s.data.toList.drop 8 := tExt_list s 8
theorem num8_words {s : ByteArray} {a : Nat} {t : List UInt8} (h : s.data.toList = leBytes a 8 ++ t) (ha : a < 18446744073709551616) : num8 s = a ∧ (left8 s).data.toList = t := by
  have h8 : (leBytes a 8).length = 8 := leBytes_length 8 a
  refine ⟨?_, ?_⟩
  · unfold num8
    rw [h, List.take_left' h8]
    exact num_bytes ha
  · rw [left8_list, h, List.drop_left' h8]
theorem words_num8 {s : ByteArray} (h : 8 ≤ s.size) : s.data.toList = leBytes (num8 s) 8 ++ (left8 s).data.toList := by
  have hl : (s.data.toList.take 8).length = 8 := by rw [List.length_take, list_len]; omega
  have e := leBytes_leNum (s.data.toList.take 8)
  rw [hl] at e
  unfold num8
  rw [e, left8_list, List.take_append_drop]
theorem words5 {s : ByteArray} (h : s.size = 40) : s.data.toList = wordsB [num8 s, num8 (left8 s), num8 (left8 (left8 s)), num8 (left8 (left8 (left8 s))), num8 (left8 (left8 (left8 (left8 s))))] := by
  have z1 := left8_size s
  have z2 := left8_size (left8 s)
  have z3 := left8_size (left8 (left8 s))
  have z4 := left8_size (left8 (left8 (left8 s)))
  have z5 := left8_size (left8 (left8 (left8 (left8 s))))
  have e : (left8 (left8 (left8 (left8 (left8 s))))).data.toList = [] := List.length_eq_zero_iff.1 (by rw [list_len]; omega)
  rw [wordsB_cons, wordsB_cons, wordsB_cons, wordsB_cons, wordsB_cons, wordsB_nil, ← e, ← words_num8 (by omega), ← words_num8 (by omega), ← words_num8 (by omega), ← words_num8 (by omega), ← words_num8 (by omega)]
theorem words3 {s : ByteArray} (h : s.size = 24) : s.data.toList = wordsB [num8 s, num8 (left8 s), num8 (left8 (left8 s))] := by
  have z1 := left8_size s
  have z2 := left8_size (left8 s)
  have z3 := left8_size (left8 (left8 s))
  have e : (left8 (left8 (left8 s))).data.toList = [] := List.length_eq_zero_iff.1 (by rw [list_len]; omega)
  rw [wordsB_cons, wordsB_cons, wordsB_cons, wordsB_nil, ← e, ← words_num8 (by omega), ← words_num8 (by omega), ← words_num8 (by omega)]
theorem words1 {s : ByteArray} (h : s.size = 8) : s.data.toList = wordsB [num8 s] := by
  have z1 := left8_size s
  have e : (left8 s).data.toList = [] := List.length_eq_zero_iff.1 (by rw [list_len]; omega)
  rw [wordsB_cons, wordsB_nil, ← e, ← words_num8 (by omega)]

/-- A text is the bytes of a vote that is right. -/
structure IsVote (s : Text) (d0 d1 d2 d3 d4 : Nat) (n : Int) (on : List Int) (f : Bool) (l : List Pr) : Prop where
  eq : s = voteB [d0, d1, d2, d3, d4] n on f l
  h0 : d0 < 18446744073709551616
  h1 : d1 < 18446744073709551616
  h2 : d2 < 18446744073709551616
  h3 : d3 < 18446744073709551616
  h4 : d4 < 18446744073709551616
  hr : rightB n on = true
  ht : rightT l = true
  fit : Fit l
theorem rightT_srt {l : List Pr} (h : rightT l = true) : srt l = true := by
  unfold rightT at h
  rw [Bool.and_eq_true] at h
  exact h.1
section
variable {s : Text} {d0 d1 d2 d3 d4 : Nat} {n : Int} {on : List Int} {f : Bool} {l : List Pr}
theorem IsVote.split (h : IsVote s d0 d1 d2 d3 d4 n on f l) : splitOf s 40 2 = (wordsB [d0, d1, d2, d3, d4], [listOf n on, encB f l], 0) := by
  have e := splitOf_of_whole (wordsB [d0, d1, d2, d3, d4]) [listOf n on, encB f l] (by simp) (voteB_fits h.hr h.ht rfl)
  rw [wordsB_length] at e
  rw [h.eq]
  exact e
theorem IsVote.unlist (h : IsVote s d0 d1 d2 d3 d4 n on f l) : unlistOf (listOf n on) 2048 = (n, on, 0) := by
  have := ((rightB_iff _ _).1 h.hr).1
  rw [unlist_list h.hr, if_neg (by omega)]
theorem IsVote.dec (h : IsVote s d0 d1 d2 d3 d4 n on f l) : decB (encB f l) = (0, f, l) := dec_enc f l h.fit (rightT_srt h.ht) (right_len h.ht)
end
theorem readVote_of {s : ByteArray} {d0 d1 d2 d3 d4 : Nat} {n : Int} {on : List Int} {f : Bool} {l : List Pr} (h : IsVote s.data.toList d0 d1 d2 d3 d4 n on f l) (W : World) :
    Calls Tryz.prog 38 #[.string s] W fun e w' => ∃ A c B k, e = .returned (.agg #[.int .u64 (d0 : Int), .int .u64 (d1 : Int), .int .u64 (d2 : Int), .int .u64 (d3 : Int), .int .u64 (d4 : Int), .int .i64 n, .slice A on.length c, .bool f, .slice B l.length k]) ∧ Bt w' (.agg #[.int .i64 n, .slice A on.length c]) n on ∧ Tk w' (.agg #[.bool f, .slice B l.length k]) f l ∧ Below W.heap.size W w' ∧ Newer W.heap.size (.agg #[.int .i64 n, .slice A on.length c]) ∧ Newer W.heap.size (.agg #[.bool f, .slice B l.length k]) := by
  obtain ⟨hd, ehd⟩ : ∃ hd : ByteArray, hd.data.toList = wordsB [d0, d1, d2, d3, d4] := ⟨⟨(wordsB [d0, d1, d2, d3, d4]).toArray⟩, by simp⟩
  obtain ⟨p, ep⟩ : ∃ p : ByteArray, p.data.toList = listOf n on := ⟨⟨(listOf n on).toArray⟩, by simp⟩
  obtain ⟨q, eq⟩ : ∃ q : ByteArray, q.data.toList = encB f l := ⟨⟨(encB f l).toArray⟩, by simp⟩
  have hs : hd.size = 40 := by rw [← list_len, ehd, wordsB_length]; rfl
  have hp : p.size ≤ 1000000 := by
    have := right_size h.hr
    rw [← list_len, ep]; omega
  have hq : q.size ≤ 1000000 := by
    have := right_len h.ht
    rw [← list_len, eq, encB_length]; omega
  have key := readVote_ok s W hd p q (by rw [h.split]; simp [txts, ehd, ep, eq]) hs hp hq n on f l (by rw [ep]; exact h.unlist) (by rw [eq]; exact h.dec)
  rw [wordsB_cons] at ehd
  obtain ⟨e0, t0⟩ := num8_words ehd h.h0
  rw [wordsB_cons] at t0
  obtain ⟨e1, t1⟩ := num8_words t0 h.h1
  rw [wordsB_cons] at t1
  obtain ⟨e2, t2⟩ := num8_words t1 h.h2
  rw [wordsB_cons] at t2
  obtain ⟨e3, t3⟩ := num8_words t2 h.h3
  rw [wordsB_cons] at t3
  obtain ⟨e4, t4⟩ := num8_words t3 h.h4
  rw [e0, e1, e2, e3, e4] at key
  exact key
/-- The error of a text that is no vote. -/
def unvErr (s : Text) : Int :=
  if (splitOf s 40 2).2.2 = 0 then
    (if (unlistOf ((splitOf s 40 2).2.1.getD 0 []) 2048).2.2 = 0 then (decB ((splitOf s 40 2).2.1.getD 1 [])).1 else (unlistOf ((splitOf s 40 2).2.1.getD 0 []) 2048).2.2)
  else (splitOf s 40 2).2.2
theorem two_of {p : List Text} (h : p.length = 2) : ∃ a b : ByteArray, p = txts [a, b] := by
  match p, h with
  | [a, b], _ => exact ⟨⟨a.toArray⟩, ⟨b.toArray⟩, by simp [txts]⟩
theorem ba_of (t : Text) : ∃ a : ByteArray, a.data.toList = t := ⟨⟨t.toArray⟩, by simp⟩
theorem readVote_cases (s : ByteArray) : (∃ d0 d1 d2 d3 d4 n on f l, IsVote s.data.toList d0 d1 d2 d3 d4 n on f l) ∨ (∃ y, (y == 0) = false ∧ unvErr s.data.toList = y ∧ ∀ W, Calls Tryz.prog 38 #[.string s] W (Panics y W)) := by
  rcases splitOf_cases s.data.toList 40 2 with ⟨a, p, h⟩ | ⟨y, hy, h⟩
  · obtain ⟨_, _, _, _, hs5, ha, hp2, hw⟩ := splitOf_sound h
    obtain ⟨hd, rfl⟩ := ba_of a
    obtain ⟨p0, p1, rfl⟩ := two_of hp2
    have h40 : hd.size = 40 := by rw [← list_len, ha]; rfl
    have hl := wholeOf_length hd.data.toList (txts [p0, p1])
    rw [hw] at hl
    have e2 : sumLen (txts [p0, p1]) = p0.data.toList.length + (p1.data.toList.length + 0) := by simp [txts, sumLen]
    rw [e2, list_len p0, list_len p1] at hl
    have l0 : p0.size ≤ 1000000 := by omega
    have l1 : p1.size ≤ 1000000 := by omega
    obtain ⟨N, on, e, hu⟩ : ∃ N on e, unlistOf p0.data.toList 2048 = (N, on, e) := ⟨_, _, _, rfl⟩
    by_cases he : e = 0
    · subst he
      obtain ⟨y, f, l, hd'⟩ : ∃ y f l, decB p1.data.toList = (y, f, l) := ⟨_, _, _, rfl⟩
      by_cases hy : y = 0
      · subst hy
        left
        obtain ⟨u1, u2, u3⟩ := unlist_right hu
        obtain ⟨t1, t2, t3, t4⟩ := enc_dec hd'
        refine ⟨num8 hd, num8 (left8 hd), num8 (left8 (left8 hd)), num8 (left8 (left8 (left8 hd))), num8 (left8 (left8 (left8 (left8 hd)))), N, on, f, l, ?_, num8_lt _, num8_lt _, num8_lt _, num8_lt _, num8_lt _, u1, ?_, t4⟩
        · unfold voteB
          rw [← words5 h40, u3, t1, ← hw]
          simp [txts]
        · unfold rightT
          rw [t2, decide_eq_true t3]; rfl
      · right
        have hy' : (y == 0) = false := by simpa using hy
        refine ⟨y, hy', ?_, fun W => readVote_tok s W hd p0 p1 h h40 l0 l1 N y on f l hu hd' hy'⟩
        have g0 : (txts [p0, p1]).getD 0 [] = p0.data.toList := by simp [txts]
        have g1 : (txts [p0, p1]).getD 1 [] = p1.data.toList := by simp [txts]
        unfold unvErr
        rw [h, if_pos rfl, g0, g1, hu, hd', if_pos rfl]
    · right
      have hy' : (e == 0) = false := by simpa using he
      refine ⟨e, hy', ?_, fun W => readVote_unlist s W hd p0 p1 h h40 l0 l1 N e on hu hy' trivial⟩
      have g0 : (txts [p0, p1]).getD 0 [] = p0.data.toList := by simp [txts]
      unfold unvErr
      rw [h, if_pos rfl, g0, hu, if_neg he]
  · right
    have hy' : (y == 0) = false := by simpa using hy
    refine ⟨y, hy', ?_, fun W => readVote_split s W ⟨#[]⟩ [] y (by rw [h]; simp [txts]) hy'⟩
    unfold unvErr
    rw [h, if_neg hy]
theorem Unvote_ok {s : ByteArray} {d0 d1 d2 d3 d4 : Nat} {n : Int} {on : List Int} {f : Bool} {l : List Pr} (h : IsVote s.data.toList d0 d1 d2 d3 d4 n on f l) (w : World) :
    Calls Tryz.prog 13 #[.string s] w fun e w' => ∃ A c B k, e = .returned (.tuple #[.agg #[.int .u64 (d0 : Int), .int .u64 (d1 : Int), .int .u64 (d2 : Int), .int .u64 (d3 : Int), .int .u64 (d4 : Int), .int .i64 n, .slice A on.length c, .bool f, .slice B l.length k], .int .i64 0]) ∧ Bt w' (.agg #[.int .i64 n, .slice A on.length c]) n on ∧ Tk w' (.agg #[.bool f, .slice B l.length k]) f l ∧ Below w.heap.size w w' :=
  Unvote_by s w d0 d1 d2 d3 d4 n on f l (readVote_of h)

/-- An aggregate's bytes. -/
def aggB (a : Nat) (h : Bool) (m : List Pr) (v : Text) : Text := wholeOf (wordsB [a]) [encB h m, v]
theorem aggB_length (a : Nat) (h : Bool) (m : List Pr) (v : Text) : (aggB a h m v).length = 16 + (1 + 16 * m.length) + v.length := by
  unfold aggB
  rw [wholeOf_length, wordsB_length, sumLen_cons, sumLen_cons, sumLen_nil, encB_length]
  simp; omega
theorem aggB_fits {a : Nat} {h : Bool} {m : List Pr} {v : Text} (hl : 16 + (1 + 16 * m.length) + v.length ≤ 65536) : (wordsB [a]).length + 4 * [encB h m, v].length + sumLen [encB h m, v] ≤ 65536 := by
  rw [wordsB_length, sumLen_cons, sumLen_cons, sumLen_nil, encB_length]
  simp; omega
theorem aggB_join {a : Nat} {h : Bool} {m : List Pr} {v : Text} (hl : 16 + (1 + 16 * m.length) + v.length ≤ 65536) : joinOf (wordsB [a]) [encB h m, v] = (aggB a h m v, 0) := by
  unfold joinOf
  rw [if_pos ⟨by simp, aggB_fits hl⟩]; rfl
structure IsAgg (s : Text) (a : Nat) (h : Bool) (m : List Pr) (d0 d1 d2 d3 d4 : Nat) (n : Int) (on : List Int) (f : Bool) (l : List Pr) : Prop where
  eq : s = aggB a h m (voteB [d0, d1, d2, d3, d4] n on f l)
  ha : a < 18446744073709551616
  hm : rightT m = true
  fit : Fit m
  v : IsVote (voteB [d0, d1, d2, d3, d4] n on f l) d0 d1 d2 d3 d4 n on f l
  len : 16 + (1 + 16 * m.length) + (voteB [d0, d1, d2, d3, d4] n on f l).length ≤ 65536
theorem Aggregate_ok (a d0 d1 d2 d3 d4 : Nat) (n : Int) (on : List Int) (f g : Bool) (l m : List Pr) (A B C : Option Addr) (c k j : Nat) (S : ByteArray) (w : World) (hS : S.data.toList = aggB a g m (voteB [d0, d1, d2, d3, d4] n on f l)) (hr : rightB n on = true) (hrt : rightT l = true) (hm : rightT m = true) (hl : 16 + (1 + 16 * m.length) + (voteB [d0, d1, d2, d3, d4] n on f l).length ≤ 65536)
    (hx : Bt w (.agg #[.int .i64 n, .slice A on.length c]) n on) (ht : Tk w (.agg #[.bool f, .slice B l.length k]) f l) (hp : Tk w (.agg #[.bool g, .slice C m.length j]) g m) (h9 : on.length ≤ 1000000) (h9l : l.length ≤ 1000000) (h9m : m.length ≤ 1000000) :
    Calls Tryz.prog 9 #[.agg #[.int .u64 (a : Int), .bool g, .slice C m.length j, .int .u64 (d0 : Int), .int .u64 (d1 : Int), .int .u64 (d2 : Int), .int .u64 (d3 : Int), .int .u64 (d4 : Int), .int .i64 n, .slice A on.length c, .bool f, .slice B l.length k]] w fun e w' => e = .returned (.tuple #[.string S, .int .i64 0]) ∧ Below w.heap.size w w' :=
  Aggregate_by S w a d0 d1 d2 d3 d4 n f g A B C on.length c l.length k m.length j fun W hb =>
    writeAgg_ok a d0 d1 d2 d3 d4 n on f g l m A B C c k j W (hx.on hb) (ht.on hb) (hp.on hb) h9m ⟨(encB g m).toArray⟩ (by simp) hm ⟨(voteB [d0, d1, d2, d3, d4] n on f l).toArray⟩ ⟨(wordsB [a]).toArray⟩ S (by simp)
      (fun W2 hx2 ht2 => writeVote_ok d0 d1 d2 d3 d4 n on f l A B c k W2 hx2 ht2 h9 h9l ⟨(listOf n on).toArray⟩ ⟨(encB f l).toArray⟩ ⟨(wordsB [d0, d1, d2, d3, d4]).toArray⟩ ⟨(voteB [d0, d1, d2, d3, d4] n on f l).toArray⟩ (by simp) (by simp) (by simp) hr hrt
        (by simp only [List.toList_toArray]; exact voteB_join hr hrt rfl))
      (by simp only [List.toList_toArray]; rw [hS]; exact aggB_join hl)
theorem Aggregate_arg (a d0 d1 d2 d3 d4 : Nat) (n : Int) (on : List Int) (f g : Bool) (l m : List Pr) (A B C : Option Addr) (c k j : Nat) (w : World) (hr : (rightT m && (rightB n on && rightT l)) = false)
    (hx : Bt w (.agg #[.int .i64 n, .slice A on.length c]) n on) (ht : Tk w (.agg #[.bool f, .slice B l.length k]) f l) (hp : Tk w (.agg #[.bool g, .slice C m.length j]) g m) (h9 : on.length ≤ 1000000) (h9l : l.length ≤ 1000000) (h9m : m.length ≤ 1000000) :
    Calls Tryz.prog 9 #[.agg #[.int .u64 (a : Int), .bool g, .slice C m.length j, .int .u64 (d0 : Int), .int .u64 (d1 : Int), .int .u64 (d2 : Int), .int .u64 (d3 : Int), .int .u64 (d4 : Int), .int .i64 n, .slice A on.length c, .bool f, .slice B l.length k]] w fun e w' => e = .returned (.tuple #[.string ⟨#[]⟩, .int .i64 1]) ∧ Below w.heap.size w w' :=
  Aggregate_no 1 w a d0 d1 d2 d3 d4 n f g A B C on.length c l.length k m.length j fun W hb => by
    cases hm : rightT m
    · exact writeAgg_proof a d0 d1 d2 d3 d4 n on f g l m A B C c k j W (hx.on hb) (ht.on hb) (hp.on hb) h9m hm
    · rw [hm, Bool.true_and] at hr
      refine writeAgg_vote a d0 d1 d2 d3 d4 n on f g l m A B C c k j W (hx.on hb) (ht.on hb) (hp.on hb) h9m ⟨(encB g m).toArray⟩ (by simp) hm (fun W2 hx2 ht2 => ?_)
      cases h : rightB n on
      · exact writeVote_bits d0 d1 d2 d3 d4 n on f l A B c k W2 hx2 ht2 h9 h9l h
      · rw [h, Bool.true_and] at hr
        exact writeVote_tok d0 d1 d2 d3 d4 n on f l A B c k W2 hx2 ht2 h9 h9l ⟨(listOf n on).toArray⟩ (by simp) h hr
section
variable {s : Text} {a : Nat} {h : Bool} {m : List Pr} {d0 d1 d2 d3 d4 : Nat} {n : Int} {on : List Int} {f : Bool} {l : List Pr}
theorem IsAgg.split (g : IsAgg s a h m d0 d1 d2 d3 d4 n on f l) : splitOf s 8 2 = (wordsB [a], [encB h m, voteB [d0, d1, d2, d3, d4] n on f l], 0) := by
  have e := splitOf_of_whole (wordsB [a]) [encB h m, voteB [d0, d1, d2, d3, d4] n on f l] (by simp) (aggB_fits g.len)
  rw [wordsB_length] at e
  rw [g.eq]
  exact e
theorem IsAgg.dec (g : IsAgg s a h m d0 d1 d2 d3 d4 n on f l) : decB (encB h m) = (0, h, m) := dec_enc h m g.fit (rightT_srt g.hm) (right_len g.hm)
end
theorem readAgg_of {s : ByteArray} {a : Nat} {h : Bool} {m : List Pr} {d0 d1 d2 d3 d4 : Nat} {n : Int} {on : List Int} {f : Bool} {l : List Pr} (g : IsAgg s.data.toList a h m d0 d1 d2 d3 d4 n on f l) (W : World) :
    Calls Tryz.prog 44 #[.string s] W fun e w' => ∃ C j A c B k, e = .returned (.agg #[.int .u64 (a : Int), .bool h, .slice C m.length j, .int .u64 (d0 : Int), .int .u64 (d1 : Int), .int .u64 (d2 : Int), .int .u64 (d3 : Int), .int .u64 (d4 : Int), .int .i64 n, .slice A on.length c, .bool f, .slice B l.length k]) ∧ Tk w' (.agg #[.bool h, .slice C m.length j]) h m ∧ Bt w' (.agg #[.int .i64 n, .slice A on.length c]) n on ∧ Tk w' (.agg #[.bool f, .slice B l.length k]) f l ∧ Below W.heap.size W w' ∧ Newer W.heap.size (.agg #[.bool h, .slice C m.length j]) ∧ Newer W.heap.size (.agg #[.int .i64 n, .slice A on.length c]) ∧ Newer W.heap.size (.agg #[.bool f, .slice B l.length k]) := by
  obtain ⟨hd, ehd⟩ := ba_of (wordsB [a])
  obtain ⟨p, ep⟩ := ba_of (encB h m)
  obtain ⟨q, eq⟩ := ba_of (voteB [d0, d1, d2, d3, d4] n on f l)
  have hs : hd.size = 8 := by rw [← list_len, ehd, wordsB_length]; rfl
  have hp : p.size ≤ 1000000 := by
    have := right_len g.hm
    rw [← list_len, ep, encB_length]; omega
  have hv := g.v
  rw [← eq] at hv
  have hv2 : IsVote q.data.toList d0 d1 d2 d3 d4 n on f l := hv
  have key := readAgg_ok s W hd p q (by rw [g.split]; simp [txts, ehd, ep, eq]) hs hp h m (by rw [ep]; exact g.dec) d0 d1 d2 d3 d4 n on f l (readVote_of hv2)
  rw [wordsB_cons] at ehd
  obtain ⟨e0, t0⟩ := num8_words ehd g.ha
  rw [e0] at key
  exact key
def unaggErr (s : Text) : Int :=
  if (splitOf s 8 2).2.2 = 0 then
    (if (decB ((splitOf s 8 2).2.1.getD 0 [])).1 = 0 then unvErr ((splitOf s 8 2).2.1.getD 1 []) else (decB ((splitOf s 8 2).2.1.getD 0 [])).1)
  else (splitOf s 8 2).2.2
theorem readAgg_cases (s : ByteArray) : (∃ a h m d0 d1 d2 d3 d4 n on f l, IsAgg s.data.toList a h m d0 d1 d2 d3 d4 n on f l) ∨ (∃ y, (y == 0) = false ∧ unaggErr s.data.toList = y ∧ ∀ W, Calls Tryz.prog 44 #[.string s] W (Panics y W)) := by
  rcases splitOf_cases s.data.toList 8 2 with ⟨a, p, h⟩ | ⟨y, hy, h⟩
  · obtain ⟨_, _, _, _, hs5, ha, hp2, hw⟩ := splitOf_sound h
    obtain ⟨hd, rfl⟩ := ba_of a
    obtain ⟨p0, p1, rfl⟩ := two_of hp2
    have h8 : hd.size = 8 := by rw [← list_len, ha]; rfl
    have hl := wholeOf_length hd.data.toList (txts [p0, p1])
    rw [hw] at hl
    have e2 : sumLen (txts [p0, p1]) = p0.data.toList.length + (p1.data.toList.length + 0) := by simp [txts, sumLen]
    rw [e2, list_len p0, list_len p1] at hl
    have l0 : p0.size ≤ 1000000 := by omega
    obtain ⟨y, g, m, hd'⟩ : ∃ y f l, decB p0.data.toList = (y, f, l) := ⟨_, _, _, rfl⟩
    have g0 : (txts [p0, p1]).getD 0 [] = p0.data.toList := by simp [txts]
    have g1 : (txts [p0, p1]).getD 1 [] = p1.data.toList := by simp [txts]
    by_cases hy : y = 0
    · subst hy
      rcases readVote_cases p1 with ⟨d0, d1, d2, d3, d4, n, on, f, l, hv⟩ | ⟨y, hy, hye, hV⟩
      · left
        obtain ⟨t1, t2, t3, t4⟩ := enc_dec hd'
        have ev := hv.eq
        refine ⟨num8 hd, g, m, d0, d1, d2, d3, d4, n, on, f, l, ?_, num8_lt _, ?_, t4, ev ▸ hv, ?_⟩
        · unfold aggB
          rw [← words1 h8, t1, ← ev, ← hw]
          simp [txts]
        · unfold rightT
          rw [t2, decide_eq_true t3]; rfl
        · have e3 : (txts [p0, p1]).length = 2 := by simp [txts]
          have e4 : p0.size = 1 + 16 * m.length := by rw [← list_len, ← t1, encB_length]
          have e5 : s.data.toList.length = s.size := list_len s
          rw [← ev, list_len]
          omega
      · right
        refine ⟨y, hy, ?_, fun W => readAgg_vote s W hd p0 p1 h h8 l0 g m hd' y hV⟩
        unfold unaggErr
        rw [h, if_pos rfl, g0, g1, hd', if_pos rfl, hye]
    · right
      have hy' : (y == 0) = false := by simpa using hy
      refine ⟨y, hy', ?_, fun W => readAgg_proof s W hd p0 p1 h h8 l0 y g m hd' hy'⟩
      unfold unaggErr
      rw [h, if_pos rfl, g0, hd', if_neg hy]
  · right
    have hy' : (y == 0) = false := by simpa using hy
    refine ⟨y, hy', ?_, fun W => readAgg_split s W ⟨#[]⟩ [] y (by rw [h]; simp [txts]) hy'⟩
    unfold unaggErr
    rw [h, if_neg hy]
theorem Unaggregate_ok {s : ByteArray} {a : Nat} {h : Bool} {m : List Pr} {d0 d1 d2 d3 d4 : Nat} {n : Int} {on : List Int} {f : Bool} {l : List Pr} (g : IsAgg s.data.toList a h m d0 d1 d2 d3 d4 n on f l) (w : World) :
    Calls Tryz.prog 15 #[.string s] w fun e w' => ∃ C j A c B k, e = .returned (.tuple #[.agg #[.int .u64 (a : Int), .bool h, .slice C m.length j, .int .u64 (d0 : Int), .int .u64 (d1 : Int), .int .u64 (d2 : Int), .int .u64 (d3 : Int), .int .u64 (d4 : Int), .int .i64 n, .slice A on.length c, .bool f, .slice B l.length k], .int .i64 0]) ∧ Tk w' (.agg #[.bool h, .slice C m.length j]) h m ∧ Bt w' (.agg #[.int .i64 n, .slice A on.length c]) n on ∧ Tk w' (.agg #[.bool f, .slice B l.length k]) f l ∧ Below w.heap.size w w' :=
  Unaggregate_by s w a d0 d1 d2 d3 d4 n on f h l m (readAgg_of g)

theorem Unrecord_ok (s : ByteArray) (a b c : Nat) (w : World) (h : s.data.toList = wordsB [a, b, c]) (ha : a < 18446744073709551616) (hb : b < 18446744073709551616) (hc : c < 18446744073709551616) :
    Calls Tryz.prog 17 #[.string s] w fun e w' => e = .returned (.tuple #[.agg #[.int .u64 (a : Int), .int .u64 (b : Int), .int .u64 (c : Int)], .int .i64 0]) ∧ Below w.heap.size w w' := by
  have hs : s.size = 24 := by rw [← list_len, h, wordsB_length]; rfl
  refine Unrecord_by s w a b c fun W => ?_
  have key := readRecord_ok s W hs
  rw [wordsB_cons] at h
  obtain ⟨e0, t0⟩ := num8_words h ha
  rw [wordsB_cons] at t0
  obtain ⟨e1, t1⟩ := num8_words t0 hb
  rw [wordsB_cons] at t1
  obtain ⟨e2, t2⟩ := num8_words t1 hc
  rw [e0, e1, e2] at key
  exact key
theorem Unrecord_bad (s : ByteArray) (w : World) (h : s.size ≠ 24) :
    Calls Tryz.prog 17 #[.string s] w fun e w' => e = .returned (.tuple #[.agg #[.int .u64 0, .int .u64 0, .int .u64 0], .int .i64 2]) ∧ Below w.heap.size w w' :=
  Unrecord_no 2 s w fun W => readRecord_no s W (by rw [beq_eq_false_iff_ne]; omega)
end Go.Proofs.YtieheieiolobaaaGreatDoor

namespace Go.Proofs.YtieheieiolobaaaGreatDoor
open Go.RowKit

theorem pick6_any (c n : Int) (w : World) (hc : I64 c) (hn : 0 < n) (hn2 : n ≤ 1000000000) :
    Calls Tryz.prog 12 #[.int .i64 c, .int .i64 n] w fun e w' => e = .returned (.int .i64 (pickN c n : Int)) ∧ w = w' := by
  unfold I64 at hc
  rw [← pickN_eq c n hn]
  by_cases h : c < 0
  · have he : tPickOf c n = -((c + 1).tmod n) := by
      unfold tPickOf
      rw [if_pos h, ← Int.neg_tmod, Int.tmod_eq_emod_of_nonneg (by omega)]
    rw [he]
    clear he
    go_enter Tryz.func12, Tryz.ntmps12
    go_wp2
    go_ret
    exact ⟨rfl, rfl⟩
  · have he : tPickOf c n = c % n := by unfold tPickOf; rw [if_neg h]
    rw [he]
    clear he
    go_enter Tryz.func12, Tryz.ntmps12
    go_wp2
    go_ret
    exact ⟨rfl, rfl⟩
theorem bSame_eq (x y : Value) (n m : Int) (a b : List Int) (w : World) (r : Bool) (hT : sameB n a m b = r) (hx : Bt w x n a) (hy : Bt w y m b) (h9 : a.length ≤ 1000000) (h9b : b.length ≤ 1000000) :
    Calls Tryz.prog 47 #[x, y] w fun e w' => e = .returned (.bool r) ∧ Below w.heap.size w w' := by rw [← hT]; exact Same_any x y n m a b w hx hy (small h9) (small h9b)

set_option maxHeartbeats 8000000 in
set_option maxRecDepth 100000 in
theorem SameVote_ne0 (d0 d1 d2 d3 d4 e0 e1 e2 e3 e4 : Nat) (n m : Int) (on om : List Int) (f g : Bool) (l k : List Pr) (A B C D : Option Addr) (ca cb cc cd : Nat) (w : World) (rb rt : Bool) (hb : sameB n on m om = rb) (ht : sameT f g l k = rt) (hne : ((d0 : Int) == (e0 : Int)) = false)
    (hx : Bt w (.agg #[.int .i64 n, .slice A on.length ca]) n on) (hy : Bt w (.agg #[.int .i64 m, .slice C om.length cc]) m om) (tx : Tk w (.agg #[.bool f, .slice B l.length cb]) f l) (ty : Tk w (.agg #[.bool g, .slice D k.length cd]) g k)
    (h9 : on.length ≤ 1000000) (h9m : om.length ≤ 1000000) (h9l : l.length ≤ 1000000) (h9k : k.length ≤ 1000000) :
    Calls Tryz.prog 19 #[.agg #[.int .u64 (d0 : Int), .int .u64 (d1 : Int), .int .u64 (d2 : Int), .int .u64 (d3 : Int), .int .u64 (d4 : Int), .int .i64 n, .slice A on.length ca, .bool f, .slice B l.length cb], .agg #[.int .u64 (e0 : Int), .int .u64 (e1 : Int), .int .u64 (e2 : Int), .int .u64 (e3 : Int), .int .u64 (e4 : Int), .int .i64 m, .slice C om.length cc, .bool g, .slice D k.length cd]] w fun e w' => e = .returned (.bool false) ∧ Below w.heap.size w w' := by
  have HN := Lib.hid hne
  clear hne
  obtain ⟨wA, hwA⟩ : ∃ wA, wA = (w.alloc (.cells #[.int .u64 (d0 : Int), .int .u64 (d1 : Int), .int .u64 (d2 : Int), .int .u64 (d3 : Int), .int .u64 (d4 : Int), .int .i64 n, .slice A on.length ca, .bool f, .slice B l.length cb] 32)).alloc (.cells #[.int .u64 (e0 : Int), .int .u64 (e1 : Int), .int .u64 (e2 : Int), .int .u64 (e3 : Int), .int .u64 (e4 : Int), .int .i64 m, .slice C om.length cc, .bool g, .slice D k.length cd] 32) := ⟨_, rfl⟩
  have bA : Below w.heap.size w wA := by rw [hwA]; exact ((Below.refl _ _).alloc (Nat.le_refl _) _).alloc (by simp) _
  have ra : RowAt wA w.heap.size 32 [.int .u64 (d0 : Int), .int .u64 (d1 : Int), .int .u64 (d2 : Int), .int .u64 (d3 : Int), .int .u64 (d4 : Int), .int .i64 n, .slice A on.length ca, .bool f, .slice B l.length cb] := by rw [hwA]; exact (RowAt.new w 32 #[.int .u64 (d0 : Int), .int .u64 (d1 : Int), .int .u64 (d2 : Int), .int .u64 (d3 : Int), .int .u64 (d4 : Int), .int .i64 n, .slice A on.length ca, .bool f, .slice B l.length cb]).alloc _
  have rb_ : RowAt wA (w.heap.size + 1) 32 [.int .u64 (e0 : Int), .int .u64 (e1 : Int), .int .u64 (e2 : Int), .int .u64 (e3 : Int), .int .u64 (e4 : Int), .int .i64 m, .slice C om.length cc, .bool g, .slice D k.length cd] := by rw [hwA]; have := RowAt.new (w.alloc (.cells #[.int .u64 (d0 : Int), .int .u64 (d1 : Int), .int .u64 (d2 : Int), .int .u64 (d3 : Int), .int .u64 (d4 : Int), .int .i64 n, .slice A on.length ca, .bool f, .slice B l.length cb] 32)) 32 #[.int .u64 (e0 : Int), .int .u64 (e1 : Int), .int .u64 (e2 : Int), .int .u64 (e3 : Int), .int .u64 (e4 : Int), .int .i64 m, .slice C om.length cc, .bool g, .slice D k.length cd]; simpa using this
  have HW := Lib.hid hwA
  have HB := Lib.hid hb
  have HT := Lib.hid ht
  clear hwA hb ht
  go_enter Tryz.func19, Tryz.ntmps19
  go_wp2_with fail
  rw [← HW.out]
  with_reducible refine (bSame_eq _ _ n m on om _ rb HB.out (hx.on bA) (hy.on bA) h9 h9m).mono ?_
  rintro e w1 ⟨rfl, b1⟩
  replace ra := ra.on b1
  replace rb_ := rb_.on b1
  replace tx := (tx.on bA).on b1
  replace ty := (ty.on bA).on b1
  have bw := bA.trans (b1.mono bA.size)
  have a7 := ra.cell 7
  have a8 := ra.cell 8
  have b7 := rb_.cell 7
  have b8 := rb_.cell 8
  simp only [List.getElem?_cons_succ, List.getElem?_cons_zero] at a7 a8 b7 b8
  clear hx hy
  go_wp2_with fail
  with_reducible refine (Same_eq _ _ f g l k _ rt HT.out tx ty h9l h9k).mono ?_
  rintro e w2 ⟨rfl, b2⟩
  replace ra := ra.on b2
  replace rb_ := rb_.on b2
  replace bw := bw.trans (b2.mono bw.size)
  clear a7 a8 b7 b8 tx ty
  have a0 := ra.cell 0
  have c0 := rb_.cell 0
  have a1 := ra.cell 1
  have c1 := rb_.cell 1
  have a2 := ra.cell 2
  have c2 := rb_.cell 2
  have a3 := ra.cell 3
  have c3 := rb_.cell 3
  have a4 := ra.cell 4
  have c4 := rb_.cell 4
  simp only [List.getElem?_cons_succ, List.getElem?_cons_zero] at a0 a1 a2 a3 a4 c0 c1 c2 c3 c4
  clear ra rb_ b1 b2 bA
  have hne := HN.out
  go_wp2_with fail
  go_ret
  exact ⟨rfl, bw⟩
set_option maxHeartbeats 8000000 in
set_option maxRecDepth 100000 in
theorem SameVote_ne1 (d0 d1 d2 d3 d4 e1 e2 e3 e4 : Nat) (n m : Int) (on om : List Int) (f g : Bool) (l k : List Pr) (A B C D : Option Addr) (ca cb cc cd : Nat) (w : World) (rb rt : Bool) (hb : sameB n on m om = rb) (ht : sameT f g l k = rt) (hne : ((d1 : Int) == (e1 : Int)) = false)
    (hx : Bt w (.agg #[.int .i64 n, .slice A on.length ca]) n on) (hy : Bt w (.agg #[.int .i64 m, .slice C om.length cc]) m om) (tx : Tk w (.agg #[.bool f, .slice B l.length cb]) f l) (ty : Tk w (.agg #[.bool g, .slice D k.length cd]) g k)
    (h9 : on.length ≤ 1000000) (h9m : om.length ≤ 1000000) (h9l : l.length ≤ 1000000) (h9k : k.length ≤ 1000000) :
    Calls Tryz.prog 19 #[.agg #[.int .u64 (d0 : Int), .int .u64 (d1 : Int), .int .u64 (d2 : Int), .int .u64 (d3 : Int), .int .u64 (d4 : Int), .int .i64 n, .slice A on.length ca, .bool f, .slice B l.length cb], .agg #[.int .u64 (d0 : Int), .int .u64 (e1 : Int), .int .u64 (e2 : Int), .int .u64 (e3 : Int), .int .u64 (e4 : Int), .int .i64 m, .slice C om.length cc, .bool g, .slice D k.length cd]] w fun e w' => e = .returned (.bool false) ∧ Below w.heap.size w w' := by
  have HN := Lib.hid hne
  clear hne
  obtain ⟨wA, hwA⟩ : ∃ wA, wA = (w.alloc (.cells #[.int .u64 (d0 : Int), .int .u64 (d1 : Int), .int .u64 (d2 : Int), .int .u64 (d3 : Int), .int .u64 (d4 : Int), .int .i64 n, .slice A on.length ca, .bool f, .slice B l.length cb] 32)).alloc (.cells #[.int .u64 (d0 : Int), .int .u64 (e1 : Int), .int .u64 (e2 : Int), .int .u64 (e3 : Int), .int .u64 (e4 : Int), .int .i64 m, .slice C om.length cc, .bool g, .slice D k.length cd] 32) := ⟨_, rfl⟩
  have bA : Below w.heap.size w wA := by rw [hwA]; exact ((Below.refl _ _).alloc (Nat.le_refl _) _).alloc (by simp) _
  have ra : RowAt wA w.heap.size 32 [.int .u64 (d0 : Int), .int .u64 (d1 : Int), .int .u64 (d2 : Int), .int .u64 (d3 : Int), .int .u64 (d4 : Int), .int .i64 n, .slice A on.length ca, .bool f, .slice B l.length cb] := by rw [hwA]; exact (RowAt.new w 32 #[.int .u64 (d0 : Int), .int .u64 (d1 : Int), .int .u64 (d2 : Int), .int .u64 (d3 : Int), .int .u64 (d4 : Int), .int .i64 n, .slice A on.length ca, .bool f, .slice B l.length cb]).alloc _
  have rb_ : RowAt wA (w.heap.size + 1) 32 [.int .u64 (d0 : Int), .int .u64 (e1 : Int), .int .u64 (e2 : Int), .int .u64 (e3 : Int), .int .u64 (e4 : Int), .int .i64 m, .slice C om.length cc, .bool g, .slice D k.length cd] := by rw [hwA]; have := RowAt.new (w.alloc (.cells #[.int .u64 (d0 : Int), .int .u64 (d1 : Int), .int .u64 (d2 : Int), .int .u64 (d3 : Int), .int .u64 (d4 : Int), .int .i64 n, .slice A on.length ca, .bool f, .slice B l.length cb] 32)) 32 #[.int .u64 (d0 : Int), .int .u64 (e1 : Int), .int .u64 (e2 : Int), .int .u64 (e3 : Int), .int .u64 (e4 : Int), .int .i64 m, .slice C om.length cc, .bool g, .slice D k.length cd]; simpa using this
  have HW := Lib.hid hwA
  have HB := Lib.hid hb
  have HT := Lib.hid ht
  clear hwA hb ht
  go_enter Tryz.func19, Tryz.ntmps19
  go_wp2_with fail
  rw [← HW.out]
  with_reducible refine (bSame_eq _ _ n m on om _ rb HB.out (hx.on bA) (hy.on bA) h9 h9m).mono ?_
  rintro e w1 ⟨rfl, b1⟩
  replace ra := ra.on b1
  replace rb_ := rb_.on b1
  replace tx := (tx.on bA).on b1
  replace ty := (ty.on bA).on b1
  have bw := bA.trans (b1.mono bA.size)
  have a7 := ra.cell 7
  have a8 := ra.cell 8
  have b7 := rb_.cell 7
  have b8 := rb_.cell 8
  simp only [List.getElem?_cons_succ, List.getElem?_cons_zero] at a7 a8 b7 b8
  clear hx hy
  go_wp2_with fail
  with_reducible refine (Same_eq _ _ f g l k _ rt HT.out tx ty h9l h9k).mono ?_
  rintro e w2 ⟨rfl, b2⟩
  replace ra := ra.on b2
  replace rb_ := rb_.on b2
  replace bw := bw.trans (b2.mono bw.size)
  clear a7 a8 b7 b8 tx ty
  have a0 := ra.cell 0
  have c0 := rb_.cell 0
  have a1 := ra.cell 1
  have c1 := rb_.cell 1
  have a2 := ra.cell 2
  have c2 := rb_.cell 2
  have a3 := ra.cell 3
  have c3 := rb_.cell 3
  have a4 := ra.cell 4
  have c4 := rb_.cell 4
  simp only [List.getElem?_cons_succ, List.getElem?_cons_zero] at a0 a1 a2 a3 a4 c0 c1 c2 c3 c4
  clear ra rb_ b1 b2 bA
  have hne := HN.out
  go_wp2_with fail
  go_ret
  exact ⟨rfl, bw⟩
set_option maxHeartbeats 8000000 in
set_option maxRecDepth 100000 in
theorem SameVote_ne2 (d0 d1 d2 d3 d4 e2 e3 e4 : Nat) (n m : Int) (on om : List Int) (f g : Bool) (l k : List Pr) (A B C D : Option Addr) (ca cb cc cd : Nat) (w : World) (rb rt : Bool) (hb : sameB n on m om = rb) (ht : sameT f g l k = rt) (hne : ((d2 : Int) == (e2 : Int)) = false)
    (hx : Bt w (.agg #[.int .i64 n, .slice A on.length ca]) n on) (hy : Bt w (.agg #[.int .i64 m, .slice C om.length cc]) m om) (tx : Tk w (.agg #[.bool f, .slice B l.length cb]) f l) (ty : Tk w (.agg #[.bool g, .slice D k.length cd]) g k)
    (h9 : on.length ≤ 1000000) (h9m : om.length ≤ 1000000) (h9l : l.length ≤ 1000000) (h9k : k.length ≤ 1000000) :
    Calls Tryz.prog 19 #[.agg #[.int .u64 (d0 : Int), .int .u64 (d1 : Int), .int .u64 (d2 : Int), .int .u64 (d3 : Int), .int .u64 (d4 : Int), .int .i64 n, .slice A on.length ca, .bool f, .slice B l.length cb], .agg #[.int .u64 (d0 : Int), .int .u64 (d1 : Int), .int .u64 (e2 : Int), .int .u64 (e3 : Int), .int .u64 (e4 : Int), .int .i64 m, .slice C om.length cc, .bool g, .slice D k.length cd]] w fun e w' => e = .returned (.bool false) ∧ Below w.heap.size w w' := by
  have HN := Lib.hid hne
  clear hne
  obtain ⟨wA, hwA⟩ : ∃ wA, wA = (w.alloc (.cells #[.int .u64 (d0 : Int), .int .u64 (d1 : Int), .int .u64 (d2 : Int), .int .u64 (d3 : Int), .int .u64 (d4 : Int), .int .i64 n, .slice A on.length ca, .bool f, .slice B l.length cb] 32)).alloc (.cells #[.int .u64 (d0 : Int), .int .u64 (d1 : Int), .int .u64 (e2 : Int), .int .u64 (e3 : Int), .int .u64 (e4 : Int), .int .i64 m, .slice C om.length cc, .bool g, .slice D k.length cd] 32) := ⟨_, rfl⟩
  have bA : Below w.heap.size w wA := by rw [hwA]; exact ((Below.refl _ _).alloc (Nat.le_refl _) _).alloc (by simp) _
  have ra : RowAt wA w.heap.size 32 [.int .u64 (d0 : Int), .int .u64 (d1 : Int), .int .u64 (d2 : Int), .int .u64 (d3 : Int), .int .u64 (d4 : Int), .int .i64 n, .slice A on.length ca, .bool f, .slice B l.length cb] := by rw [hwA]; exact (RowAt.new w 32 #[.int .u64 (d0 : Int), .int .u64 (d1 : Int), .int .u64 (d2 : Int), .int .u64 (d3 : Int), .int .u64 (d4 : Int), .int .i64 n, .slice A on.length ca, .bool f, .slice B l.length cb]).alloc _
  have rb_ : RowAt wA (w.heap.size + 1) 32 [.int .u64 (d0 : Int), .int .u64 (d1 : Int), .int .u64 (e2 : Int), .int .u64 (e3 : Int), .int .u64 (e4 : Int), .int .i64 m, .slice C om.length cc, .bool g, .slice D k.length cd] := by rw [hwA]; have := RowAt.new (w.alloc (.cells #[.int .u64 (d0 : Int), .int .u64 (d1 : Int), .int .u64 (d2 : Int), .int .u64 (d3 : Int), .int .u64 (d4 : Int), .int .i64 n, .slice A on.length ca, .bool f, .slice B l.length cb] 32)) 32 #[.int .u64 (d0 : Int), .int .u64 (d1 : Int), .int .u64 (e2 : Int), .int .u64 (e3 : Int), .int .u64 (e4 : Int), .int .i64 m, .slice C om.length cc, .bool g, .slice D k.length cd]; simpa using this
  have HW := Lib.hid hwA
  have HB := Lib.hid hb
  have HT := Lib.hid ht
  clear hwA hb ht
  go_enter Tryz.func19, Tryz.ntmps19
  go_wp2_with fail
  rw [← HW.out]
  with_reducible refine (bSame_eq _ _ n m on om _ rb HB.out (hx.on bA) (hy.on bA) h9 h9m).mono ?_
  rintro e w1 ⟨rfl, b1⟩
  replace ra := ra.on b1
  replace rb_ := rb_.on b1
  replace tx := (tx.on bA).on b1
  replace ty := (ty.on bA).on b1
  have bw := bA.trans (b1.mono bA.size)
  have a7 := ra.cell 7
  have a8 := ra.cell 8
  have b7 := rb_.cell 7
  have b8 := rb_.cell 8
  simp only [List.getElem?_cons_succ, List.getElem?_cons_zero] at a7 a8 b7 b8
  clear hx hy
  go_wp2_with fail
  with_reducible refine (Same_eq _ _ f g l k _ rt HT.out tx ty h9l h9k).mono ?_
  rintro e w2 ⟨rfl, b2⟩
  replace ra := ra.on b2
  replace rb_ := rb_.on b2
  replace bw := bw.trans (b2.mono bw.size)
  clear a7 a8 b7 b8 tx ty
  have a0 := ra.cell 0
  have c0 := rb_.cell 0
  have a1 := ra.cell 1
  have c1 := rb_.cell 1
  have a2 := ra.cell 2
  have c2 := rb_.cell 2
  have a3 := ra.cell 3
  have c3 := rb_.cell 3
  have a4 := ra.cell 4
  have c4 := rb_.cell 4
  simp only [List.getElem?_cons_succ, List.getElem?_cons_zero] at a0 a1 a2 a3 a4 c0 c1 c2 c3 c4
  clear ra rb_ b1 b2 bA
  have hne := HN.out
  go_wp2_with fail
  go_ret
  exact ⟨rfl, bw⟩
set_option maxHeartbeats 8000000 in
set_option maxRecDepth 100000 in
theorem SameVote_ne3 (d0 d1 d2 d3 d4 e3 e4 : Nat) (n m : Int) (on om : List Int) (f g : Bool) (l k : List Pr) (A B C D : Option Addr) (ca cb cc cd : Nat) (w : World) (rb rt : Bool) (hb : sameB n on m om = rb) (ht : sameT f g l k = rt) (hne : ((d3 : Int) == (e3 : Int)) = false)
    (hx : Bt w (.agg #[.int .i64 n, .slice A on.length ca]) n on) (hy : Bt w (.agg #[.int .i64 m, .slice C om.length cc]) m om) (tx : Tk w (.agg #[.bool f, .slice B l.length cb]) f l) (ty : Tk w (.agg #[.bool g, .slice D k.length cd]) g k)
    (h9 : on.length ≤ 1000000) (h9m : om.length ≤ 1000000) (h9l : l.length ≤ 1000000) (h9k : k.length ≤ 1000000) :
    Calls Tryz.prog 19 #[.agg #[.int .u64 (d0 : Int), .int .u64 (d1 : Int), .int .u64 (d2 : Int), .int .u64 (d3 : Int), .int .u64 (d4 : Int), .int .i64 n, .slice A on.length ca, .bool f, .slice B l.length cb], .agg #[.int .u64 (d0 : Int), .int .u64 (d1 : Int), .int .u64 (d2 : Int), .int .u64 (e3 : Int), .int .u64 (e4 : Int), .int .i64 m, .slice C om.length cc, .bool g, .slice D k.length cd]] w fun e w' => e = .returned (.bool false) ∧ Below w.heap.size w w' := by
  have HN := Lib.hid hne
  clear hne
  obtain ⟨wA, hwA⟩ : ∃ wA, wA = (w.alloc (.cells #[.int .u64 (d0 : Int), .int .u64 (d1 : Int), .int .u64 (d2 : Int), .int .u64 (d3 : Int), .int .u64 (d4 : Int), .int .i64 n, .slice A on.length ca, .bool f, .slice B l.length cb] 32)).alloc (.cells #[.int .u64 (d0 : Int), .int .u64 (d1 : Int), .int .u64 (d2 : Int), .int .u64 (e3 : Int), .int .u64 (e4 : Int), .int .i64 m, .slice C om.length cc, .bool g, .slice D k.length cd] 32) := ⟨_, rfl⟩
  have bA : Below w.heap.size w wA := by rw [hwA]; exact ((Below.refl _ _).alloc (Nat.le_refl _) _).alloc (by simp) _
  have ra : RowAt wA w.heap.size 32 [.int .u64 (d0 : Int), .int .u64 (d1 : Int), .int .u64 (d2 : Int), .int .u64 (d3 : Int), .int .u64 (d4 : Int), .int .i64 n, .slice A on.length ca, .bool f, .slice B l.length cb] := by rw [hwA]; exact (RowAt.new w 32 #[.int .u64 (d0 : Int), .int .u64 (d1 : Int), .int .u64 (d2 : Int), .int .u64 (d3 : Int), .int .u64 (d4 : Int), .int .i64 n, .slice A on.length ca, .bool f, .slice B l.length cb]).alloc _
  have rb_ : RowAt wA (w.heap.size + 1) 32 [.int .u64 (d0 : Int), .int .u64 (d1 : Int), .int .u64 (d2 : Int), .int .u64 (e3 : Int), .int .u64 (e4 : Int), .int .i64 m, .slice C om.length cc, .bool g, .slice D k.length cd] := by rw [hwA]; have := RowAt.new (w.alloc (.cells #[.int .u64 (d0 : Int), .int .u64 (d1 : Int), .int .u64 (d2 : Int), .int .u64 (d3 : Int), .int .u64 (d4 : Int), .int .i64 n, .slice A on.length ca, .bool f, .slice B l.length cb] 32)) 32 #[.int .u64 (d0 : Int), .int .u64 (d1 : Int), .int .u64 (d2 : Int), .int .u64 (e3 : Int), .int .u64 (e4 : Int), .int .i64 m, .slice C om.length cc, .bool g, .slice D k.length cd]; simpa using this
  have HW := Lib.hid hwA
  have HB := Lib.hid hb
  have HT := Lib.hid ht
  clear hwA hb ht
  go_enter Tryz.func19, Tryz.ntmps19
  go_wp2_with fail
  rw [← HW.out]
  with_reducible refine (bSame_eq _ _ n m on om _ rb HB.out (hx.on bA) (hy.on bA) h9 h9m).mono ?_
  rintro e w1 ⟨rfl, b1⟩
  replace ra := ra.on b1
  replace rb_ := rb_.on b1
  replace tx := (tx.on bA).on b1
  replace ty := (ty.on bA).on b1
  have bw := bA.trans (b1.mono bA.size)
  have a7 := ra.cell 7
  have a8 := ra.cell 8
  have b7 := rb_.cell 7
  have b8 := rb_.cell 8
  simp only [List.getElem?_cons_succ, List.getElem?_cons_zero] at a7 a8 b7 b8
  clear hx hy
  go_wp2_with fail
  with_reducible refine (Same_eq _ _ f g l k _ rt HT.out tx ty h9l h9k).mono ?_
  rintro e w2 ⟨rfl, b2⟩
  replace ra := ra.on b2
  replace rb_ := rb_.on b2
  replace bw := bw.trans (b2.mono bw.size)
  clear a7 a8 b7 b8 tx ty
  have a0 := ra.cell 0
  have c0 := rb_.cell 0
  have a1 := ra.cell 1
  have c1 := rb_.cell 1
  have a2 := ra.cell 2
  have c2 := rb_.cell 2
  have a3 := ra.cell 3
  have c3 := rb_.cell 3
  have a4 := ra.cell 4
  have c4 := rb_.cell 4
  simp only [List.getElem?_cons_succ, List.getElem?_cons_zero] at a0 a1 a2 a3 a4 c0 c1 c2 c3 c4
  clear ra rb_ b1 b2 bA
  have hne := HN.out
  go_wp2_with fail
  go_ret
  exact ⟨rfl, bw⟩
set_option maxHeartbeats 8000000 in
set_option maxRecDepth 100000 in
theorem SameVote_ne4 (d0 d1 d2 d3 d4 e4 : Nat) (n m : Int) (on om : List Int) (f g : Bool) (l k : List Pr) (A B C D : Option Addr) (ca cb cc cd : Nat) (w : World) (rb rt : Bool) (hb : sameB n on m om = rb) (ht : sameT f g l k = rt) (hne : ((d4 : Int) == (e4 : Int)) = false)
    (hx : Bt w (.agg #[.int .i64 n, .slice A on.length ca]) n on) (hy : Bt w (.agg #[.int .i64 m, .slice C om.length cc]) m om) (tx : Tk w (.agg #[.bool f, .slice B l.length cb]) f l) (ty : Tk w (.agg #[.bool g, .slice D k.length cd]) g k)
    (h9 : on.length ≤ 1000000) (h9m : om.length ≤ 1000000) (h9l : l.length ≤ 1000000) (h9k : k.length ≤ 1000000) :
    Calls Tryz.prog 19 #[.agg #[.int .u64 (d0 : Int), .int .u64 (d1 : Int), .int .u64 (d2 : Int), .int .u64 (d3 : Int), .int .u64 (d4 : Int), .int .i64 n, .slice A on.length ca, .bool f, .slice B l.length cb], .agg #[.int .u64 (d0 : Int), .int .u64 (d1 : Int), .int .u64 (d2 : Int), .int .u64 (d3 : Int), .int .u64 (e4 : Int), .int .i64 m, .slice C om.length cc, .bool g, .slice D k.length cd]] w fun e w' => e = .returned (.bool false) ∧ Below w.heap.size w w' := by
  have HN := Lib.hid hne
  clear hne
  obtain ⟨wA, hwA⟩ : ∃ wA, wA = (w.alloc (.cells #[.int .u64 (d0 : Int), .int .u64 (d1 : Int), .int .u64 (d2 : Int), .int .u64 (d3 : Int), .int .u64 (d4 : Int), .int .i64 n, .slice A on.length ca, .bool f, .slice B l.length cb] 32)).alloc (.cells #[.int .u64 (d0 : Int), .int .u64 (d1 : Int), .int .u64 (d2 : Int), .int .u64 (d3 : Int), .int .u64 (e4 : Int), .int .i64 m, .slice C om.length cc, .bool g, .slice D k.length cd] 32) := ⟨_, rfl⟩
  have bA : Below w.heap.size w wA := by rw [hwA]; exact ((Below.refl _ _).alloc (Nat.le_refl _) _).alloc (by simp) _
  have ra : RowAt wA w.heap.size 32 [.int .u64 (d0 : Int), .int .u64 (d1 : Int), .int .u64 (d2 : Int), .int .u64 (d3 : Int), .int .u64 (d4 : Int), .int .i64 n, .slice A on.length ca, .bool f, .slice B l.length cb] := by rw [hwA]; exact (RowAt.new w 32 #[.int .u64 (d0 : Int), .int .u64 (d1 : Int), .int .u64 (d2 : Int), .int .u64 (d3 : Int), .int .u64 (d4 : Int), .int .i64 n, .slice A on.length ca, .bool f, .slice B l.length cb]).alloc _
  have rb_ : RowAt wA (w.heap.size + 1) 32 [.int .u64 (d0 : Int), .int .u64 (d1 : Int), .int .u64 (d2 : Int), .int .u64 (d3 : Int), .int .u64 (e4 : Int), .int .i64 m, .slice C om.length cc, .bool g, .slice D k.length cd] := by rw [hwA]; have := RowAt.new (w.alloc (.cells #[.int .u64 (d0 : Int), .int .u64 (d1 : Int), .int .u64 (d2 : Int), .int .u64 (d3 : Int), .int .u64 (d4 : Int), .int .i64 n, .slice A on.length ca, .bool f, .slice B l.length cb] 32)) 32 #[.int .u64 (d0 : Int), .int .u64 (d1 : Int), .int .u64 (d2 : Int), .int .u64 (d3 : Int), .int .u64 (e4 : Int), .int .i64 m, .slice C om.length cc, .bool g, .slice D k.length cd]; simpa using this
  have HW := Lib.hid hwA
  have HB := Lib.hid hb
  have HT := Lib.hid ht
  clear hwA hb ht
  go_enter Tryz.func19, Tryz.ntmps19
  go_wp2_with fail
  rw [← HW.out]
  with_reducible refine (bSame_eq _ _ n m on om _ rb HB.out (hx.on bA) (hy.on bA) h9 h9m).mono ?_
  rintro e w1 ⟨rfl, b1⟩
  replace ra := ra.on b1
  replace rb_ := rb_.on b1
  replace tx := (tx.on bA).on b1
  replace ty := (ty.on bA).on b1
  have bw := bA.trans (b1.mono bA.size)
  have a7 := ra.cell 7
  have a8 := ra.cell 8
  have b7 := rb_.cell 7
  have b8 := rb_.cell 8
  simp only [List.getElem?_cons_succ, List.getElem?_cons_zero] at a7 a8 b7 b8
  clear hx hy
  go_wp2_with fail
  with_reducible refine (Same_eq _ _ f g l k _ rt HT.out tx ty h9l h9k).mono ?_
  rintro e w2 ⟨rfl, b2⟩
  replace ra := ra.on b2
  replace rb_ := rb_.on b2
  replace bw := bw.trans (b2.mono bw.size)
  clear a7 a8 b7 b8 tx ty
  have a0 := ra.cell 0
  have c0 := rb_.cell 0
  have a1 := ra.cell 1
  have c1 := rb_.cell 1
  have a2 := ra.cell 2
  have c2 := rb_.cell 2
  have a3 := ra.cell 3
  have c3 := rb_.cell 3
  have a4 := ra.cell 4
  have c4 := rb_.cell 4
  simp only [List.getElem?_cons_succ, List.getElem?_cons_zero] at a0 a1 a2 a3 a4 c0 c1 c2 c3 c4
  clear ra rb_ b1 b2 bA
  have hne := HN.out
  go_wp2_with fail
  go_ret
  exact ⟨rfl, bw⟩
set_option maxHeartbeats 8000000 in
set_option maxRecDepth 100000 in
theorem SameVote_nb (d0 d1 d2 d3 d4 : Nat) (n m : Int) (on om : List Int) (f g : Bool) (l k : List Pr) (A B C D : Option Addr) (ca cb cc cd : Nat) (w : World) (rt : Bool) (hb : sameB n on m om = false) (ht : sameT f g l k = rt)
    (hx : Bt w (.agg #[.int .i64 n, .slice A on.length ca]) n on) (hy : Bt w (.agg #[.int .i64 m, .slice C om.length cc]) m om) (tx : Tk w (.agg #[.bool f, .slice B l.length cb]) f l) (ty : Tk w (.agg #[.bool g, .slice D k.length cd]) g k)
    (h9 : on.length ≤ 1000000) (h9m : om.length ≤ 1000000) (h9l : l.length ≤ 1000000) (h9k : k.length ≤ 1000000) :
    Calls Tryz.prog 19 #[.agg #[.int .u64 (d0 : Int), .int .u64 (d1 : Int), .int .u64 (d2 : Int), .int .u64 (d3 : Int), .int .u64 (d4 : Int), .int .i64 n, .slice A on.length ca, .bool f, .slice B l.length cb], .agg #[.int .u64 (d0 : Int), .int .u64 (d1 : Int), .int .u64 (d2 : Int), .int .u64 (d3 : Int), .int .u64 (d4 : Int), .int .i64 m, .slice C om.length cc, .bool g, .slice D k.length cd]] w fun e w' => e = .returned (.bool false) ∧ Below w.heap.size w w' := by
  obtain ⟨wA, hwA⟩ : ∃ wA, wA = (w.alloc (.cells #[.int .u64 (d0 : Int), .int .u64 (d1 : Int), .int .u64 (d2 : Int), .int .u64 (d3 : Int), .int .u64 (d4 : Int), .int .i64 n, .slice A on.length ca, .bool f, .slice B l.length cb] 32)).alloc (.cells #[.int .u64 (d0 : Int), .int .u64 (d1 : Int), .int .u64 (d2 : Int), .int .u64 (d3 : Int), .int .u64 (d4 : Int), .int .i64 m, .slice C om.length cc, .bool g, .slice D k.length cd] 32) := ⟨_, rfl⟩
  have bA : Below w.heap.size w wA := by rw [hwA]; exact ((Below.refl _ _).alloc (Nat.le_refl _) _).alloc (by simp) _
  have ra : RowAt wA w.heap.size 32 [.int .u64 (d0 : Int), .int .u64 (d1 : Int), .int .u64 (d2 : Int), .int .u64 (d3 : Int), .int .u64 (d4 : Int), .int .i64 n, .slice A on.length ca, .bool f, .slice B l.length cb] := by rw [hwA]; exact (RowAt.new w 32 #[.int .u64 (d0 : Int), .int .u64 (d1 : Int), .int .u64 (d2 : Int), .int .u64 (d3 : Int), .int .u64 (d4 : Int), .int .i64 n, .slice A on.length ca, .bool f, .slice B l.length cb]).alloc _
  have rb_ : RowAt wA (w.heap.size + 1) 32 [.int .u64 (d0 : Int), .int .u64 (d1 : Int), .int .u64 (d2 : Int), .int .u64 (d3 : Int), .int .u64 (d4 : Int), .int .i64 m, .slice C om.length cc, .bool g, .slice D k.length cd] := by rw [hwA]; have := RowAt.new (w.alloc (.cells #[.int .u64 (d0 : Int), .int .u64 (d1 : Int), .int .u64 (d2 : Int), .int .u64 (d3 : Int), .int .u64 (d4 : Int), .int .i64 n, .slice A on.length ca, .bool f, .slice B l.length cb] 32)) 32 #[.int .u64 (d0 : Int), .int .u64 (d1 : Int), .int .u64 (d2 : Int), .int .u64 (d3 : Int), .int .u64 (d4 : Int), .int .i64 m, .slice C om.length cc, .bool g, .slice D k.length cd]; simpa using this
  have HW := Lib.hid hwA
  have HB := Lib.hid hb
  have HT := Lib.hid ht
  clear hwA hb ht
  go_enter Tryz.func19, Tryz.ntmps19
  go_wp2_with fail
  rw [← HW.out]
  with_reducible refine (bSame_eq _ _ n m on om _ false HB.out (hx.on bA) (hy.on bA) h9 h9m).mono ?_
  rintro e w1 ⟨rfl, b1⟩
  replace ra := ra.on b1
  replace rb_ := rb_.on b1
  replace tx := (tx.on bA).on b1
  replace ty := (ty.on bA).on b1
  have bw := bA.trans (b1.mono bA.size)
  have a7 := ra.cell 7
  have a8 := ra.cell 8
  have b7 := rb_.cell 7
  have b8 := rb_.cell 8
  simp only [List.getElem?_cons_succ, List.getElem?_cons_zero] at a7 a8 b7 b8
  clear hx hy
  go_wp2_with fail
  with_reducible refine (Same_eq _ _ f g l k _ rt HT.out tx ty h9l h9k).mono ?_
  rintro e w2 ⟨rfl, b2⟩
  replace ra := ra.on b2
  replace rb_ := rb_.on b2
  replace bw := bw.trans (b2.mono bw.size)
  clear a7 a8 b7 b8 tx ty
  have a0 := ra.cell 0
  have c0 := rb_.cell 0
  have a1 := ra.cell 1
  have c1 := rb_.cell 1
  have a2 := ra.cell 2
  have c2 := rb_.cell 2
  have a3 := ra.cell 3
  have c3 := rb_.cell 3
  have a4 := ra.cell 4
  have c4 := rb_.cell 4
  simp only [List.getElem?_cons_succ, List.getElem?_cons_zero] at a0 a1 a2 a3 a4 c0 c1 c2 c3 c4
  clear ra rb_ b1 b2 bA
  go_wp2_with fail
  go_ret
  exact ⟨rfl, bw⟩
set_option maxHeartbeats 8000000 in
set_option maxRecDepth 100000 in
theorem SameVote_eq_ (d0 d1 d2 d3 d4 : Nat) (n m : Int) (on om : List Int) (f g : Bool) (l k : List Pr) (A B C D : Option Addr) (ca cb cc cd : Nat) (w : World) (rt : Bool) (hb : sameB n on m om = true) (ht : sameT f g l k = rt)
    (hx : Bt w (.agg #[.int .i64 n, .slice A on.length ca]) n on) (hy : Bt w (.agg #[.int .i64 m, .slice C om.length cc]) m om) (tx : Tk w (.agg #[.bool f, .slice B l.length cb]) f l) (ty : Tk w (.agg #[.bool g, .slice D k.length cd]) g k)
    (h9 : on.length ≤ 1000000) (h9m : om.length ≤ 1000000) (h9l : l.length ≤ 1000000) (h9k : k.length ≤ 1000000) :
    Calls Tryz.prog 19 #[.agg #[.int .u64 (d0 : Int), .int .u64 (d1 : Int), .int .u64 (d2 : Int), .int .u64 (d3 : Int), .int .u64 (d4 : Int), .int .i64 n, .slice A on.length ca, .bool f, .slice B l.length cb], .agg #[.int .u64 (d0 : Int), .int .u64 (d1 : Int), .int .u64 (d2 : Int), .int .u64 (d3 : Int), .int .u64 (d4 : Int), .int .i64 m, .slice C om.length cc, .bool g, .slice D k.length cd]] w fun e w' => e = .returned (.bool rt) ∧ Below w.heap.size w w' := by
  obtain ⟨wA, hwA⟩ : ∃ wA, wA = (w.alloc (.cells #[.int .u64 (d0 : Int), .int .u64 (d1 : Int), .int .u64 (d2 : Int), .int .u64 (d3 : Int), .int .u64 (d4 : Int), .int .i64 n, .slice A on.length ca, .bool f, .slice B l.length cb] 32)).alloc (.cells #[.int .u64 (d0 : Int), .int .u64 (d1 : Int), .int .u64 (d2 : Int), .int .u64 (d3 : Int), .int .u64 (d4 : Int), .int .i64 m, .slice C om.length cc, .bool g, .slice D k.length cd] 32) := ⟨_, rfl⟩
  have bA : Below w.heap.size w wA := by rw [hwA]; exact ((Below.refl _ _).alloc (Nat.le_refl _) _).alloc (by simp) _
  have ra : RowAt wA w.heap.size 32 [.int .u64 (d0 : Int), .int .u64 (d1 : Int), .int .u64 (d2 : Int), .int .u64 (d3 : Int), .int .u64 (d4 : Int), .int .i64 n, .slice A on.length ca, .bool f, .slice B l.length cb] := by rw [hwA]; exact (RowAt.new w 32 #[.int .u64 (d0 : Int), .int .u64 (d1 : Int), .int .u64 (d2 : Int), .int .u64 (d3 : Int), .int .u64 (d4 : Int), .int .i64 n, .slice A on.length ca, .bool f, .slice B l.length cb]).alloc _
  have rb_ : RowAt wA (w.heap.size + 1) 32 [.int .u64 (d0 : Int), .int .u64 (d1 : Int), .int .u64 (d2 : Int), .int .u64 (d3 : Int), .int .u64 (d4 : Int), .int .i64 m, .slice C om.length cc, .bool g, .slice D k.length cd] := by rw [hwA]; have := RowAt.new (w.alloc (.cells #[.int .u64 (d0 : Int), .int .u64 (d1 : Int), .int .u64 (d2 : Int), .int .u64 (d3 : Int), .int .u64 (d4 : Int), .int .i64 n, .slice A on.length ca, .bool f, .slice B l.length cb] 32)) 32 #[.int .u64 (d0 : Int), .int .u64 (d1 : Int), .int .u64 (d2 : Int), .int .u64 (d3 : Int), .int .u64 (d4 : Int), .int .i64 m, .slice C om.length cc, .bool g, .slice D k.length cd]; simpa using this
  have HW := Lib.hid hwA
  have HB := Lib.hid hb
  have HT := Lib.hid ht
  clear hwA hb ht
  go_enter Tryz.func19, Tryz.ntmps19
  go_wp2_with fail
  rw [← HW.out]
  with_reducible refine (bSame_eq _ _ n m on om _ true HB.out (hx.on bA) (hy.on bA) h9 h9m).mono ?_
  rintro e w1 ⟨rfl, b1⟩
  replace ra := ra.on b1
  replace rb_ := rb_.on b1
  replace tx := (tx.on bA).on b1
  replace ty := (ty.on bA).on b1
  have bw := bA.trans (b1.mono bA.size)
  have a7 := ra.cell 7
  have a8 := ra.cell 8
  have b7 := rb_.cell 7
  have b8 := rb_.cell 8
  simp only [List.getElem?_cons_succ, List.getElem?_cons_zero] at a7 a8 b7 b8
  clear hx hy
  go_wp2_with fail
  with_reducible refine (Same_eq _ _ f g l k _ rt HT.out tx ty h9l h9k).mono ?_
  rintro e w2 ⟨rfl, b2⟩
  replace ra := ra.on b2
  replace rb_ := rb_.on b2
  replace bw := bw.trans (b2.mono bw.size)
  clear a7 a8 b7 b8 tx ty
  have a0 := ra.cell 0
  have c0 := rb_.cell 0
  have a1 := ra.cell 1
  have c1 := rb_.cell 1
  have a2 := ra.cell 2
  have c2 := rb_.cell 2
  have a3 := ra.cell 3
  have c3 := rb_.cell 3
  have a4 := ra.cell 4
  have c4 := rb_.cell 4
  simp only [List.getElem?_cons_succ, List.getElem?_cons_zero] at a0 a1 a2 a3 a4 c0 c1 c2 c3 c4
  clear ra rb_ b1 b2 bA
  go_wp2_with fail
  go_ret
  exact ⟨rfl, bw⟩
/-- Are two votes the same? -/
def sameV (d e : List Nat) (n : Int) (on : List Int) (m : Int) (om : List Int) (f g : Bool) (l k : List Pr) : Bool := decide (d = e) && (sameB n on m om && sameT f g l k)
theorem ne_spell {a b : Nat} (h : a ≠ b) : ((a : Int) == (b : Int)) = false := by rw [beq_eq_false_iff_ne]; omega
theorem SameVote_eq (d0 d1 d2 d3 d4 e0 e1 e2 e3 e4 : Nat) (n m : Int) (on om : List Int) (f g : Bool) (l k : List Pr) (A B C D : Option Addr) (ca cb cc cd : Nat) (w : World) (R : Bool) (hR : sameV [d0, d1, d2, d3, d4] [e0, e1, e2, e3, e4] n on m om f g l k = R)
    (hx : Bt w (.agg #[.int .i64 n, .slice A on.length ca]) n on) (hy : Bt w (.agg #[.int .i64 m, .slice C om.length cc]) m om) (tx : Tk w (.agg #[.bool f, .slice B l.length cb]) f l) (ty : Tk w (.agg #[.bool g, .slice D k.length cd]) g k)
    (h9 : on.length ≤ 1000000) (h9m : om.length ≤ 1000000) (h9l : l.length ≤ 1000000) (h9k : k.length ≤ 1000000) :
    Calls Tryz.prog 19 #[.agg #[.int .u64 (d0 : Int), .int .u64 (d1 : Int), .int .u64 (d2 : Int), .int .u64 (d3 : Int), .int .u64 (d4 : Int), .int .i64 n, .slice A on.length ca, .bool f, .slice B l.length cb], .agg #[.int .u64 (e0 : Int), .int .u64 (e1 : Int), .int .u64 (e2 : Int), .int .u64 (e3 : Int), .int .u64 (e4 : Int), .int .i64 m, .slice C om.length cc, .bool g, .slice D k.length cd]] w fun e w' => e = .returned (.bool R) ∧ Below w.heap.size w w' := by
  have no : ∀ {b : Bool}, [d0, d1, d2, d3, d4] ≠ [e0, e1, e2, e3, e4] → (decide ([d0, d1, d2, d3, d4] = [e0, e1, e2, e3, e4]) && b) = false := fun h => by rw [decide_eq_false h]; rfl
  by_cases q0 : d0 = e0
  · by_cases q1 : d1 = e1
    · by_cases q2 : d2 = e2
      · by_cases q3 : d3 = e3
        · by_cases q4 : d4 = e4
          · subst q0 q1 q2 q3 q4
            unfold sameV at hR
            rw [decide_eq_true rfl, Bool.true_and] at hR
            cases hb : sameB n on m om
            · rw [hb, Bool.false_and] at hR
              subst hR
              exact SameVote_nb d0 d1 d2 d3 d4 n m on om f g l k A B C D ca cb cc cd w _ hb rfl hx hy tx ty h9 h9m h9l h9k
            · rw [hb, Bool.true_and] at hR
              exact SameVote_eq_ d0 d1 d2 d3 d4 n m on om f g l k A B C D ca cb cc cd w R hb hR hx hy tx ty h9 h9m h9l h9k
          · obtain rfl : R = false := hR.symm.trans (no (by simp; omega))
            subst q0 q1 q2 q3
            exact SameVote_ne4 d0 d1 d2 d3 d4 e4 n m on om f g l k A B C D ca cb cc cd w _ _ rfl rfl (ne_spell q4) hx hy tx ty h9 h9m h9l h9k
        · obtain rfl : R = false := hR.symm.trans (no (by simp; omega))
          subst q0 q1 q2
          exact SameVote_ne3 d0 d1 d2 d3 d4 e3 e4 n m on om f g l k A B C D ca cb cc cd w _ _ rfl rfl (ne_spell q3) hx hy tx ty h9 h9m h9l h9k
      · obtain rfl : R = false := hR.symm.trans (no (by simp; omega))
        subst q0 q1
        exact SameVote_ne2 d0 d1 d2 d3 d4 e2 e3 e4 n m on om f g l k A B C D ca cb cc cd w _ _ rfl rfl (ne_spell q2) hx hy tx ty h9 h9m h9l h9k
    · obtain rfl : R = false := hR.symm.trans (no (by simp; omega))
      subst q0
      exact SameVote_ne1 d0 d1 d2 d3 d4 e1 e2 e3 e4 n m on om f g l k A B C D ca cb cc cd w _ _ rfl rfl (ne_spell q1) hx hy tx ty h9 h9m h9l h9k
  · obtain rfl : R = false := hR.symm.trans (no (by simp; omega))
    exact SameVote_ne0 d0 d1 d2 d3 d4 e0 e1 e2 e3 e4 n m on om f g l k A B C D ca cb cc cd w _ _ rfl rfl (ne_spell q0) hx hy tx ty h9 h9m h9l h9k
set_option maxHeartbeats 8000000 in
set_option maxRecDepth 100000 in
theorem SameAggregate_ne (a b d0 d1 d2 d3 d4 e0 e1 e2 e3 e4 : Nat) (n m : Int) (on om : List Int) (f g h j : Bool) (l k p q : List Pr) (A B C D G I : Option Addr) (ca cb cc cd cg ci : Nat) (w : World) (R rp : Bool) (hR : sameV [d0, d1, d2, d3, d4] [e0, e1, e2, e3, e4] n on m om f g l k = R) (hP : sameT h j p q = rp) (hne : ((a : Int) == (b : Int)) = false)
    (hx : Bt w (.agg #[.int .i64 n, .slice A on.length ca]) n on) (hy : Bt w (.agg #[.int .i64 m, .slice C om.length cc]) m om) (tx : Tk w (.agg #[.bool f, .slice B l.length cb]) f l) (ty : Tk w (.agg #[.bool g, .slice D k.length cd]) g k)
    (h9 : on.length ≤ 1000000) (h9m : om.length ≤ 1000000) (h9l : l.length ≤ 1000000) (h9k : k.length ≤ 1000000) (px : Tk w (.agg #[.bool h, .slice G p.length cg]) h p) (py : Tk w (.agg #[.bool j, .slice I q.length ci]) j q) (h9p : p.length ≤ 1000000) (h9q : q.length ≤ 1000000) :
    Calls Tryz.prog 20 #[.agg #[.int .u64 (a : Int), .bool h, .slice G p.length cg, .int .u64 (d0 : Int), .int .u64 (d1 : Int), .int .u64 (d2 : Int), .int .u64 (d3 : Int), .int .u64 (d4 : Int), .int .i64 n, .slice A on.length ca, .bool f, .slice B l.length cb], .agg #[.int .u64 (b : Int), .bool j, .slice I q.length ci, .int .u64 (e0 : Int), .int .u64 (e1 : Int), .int .u64 (e2 : Int), .int .u64 (e3 : Int), .int .u64 (e4 : Int), .int .i64 m, .slice C om.length cc, .bool g, .slice D k.length cd]] w fun e w' => e = .returned (.bool false) ∧ Below w.heap.size w w' := by
  have HN := Lib.hid hne
  clear hne
  obtain ⟨wA, hwA⟩ : ∃ wA, wA = (w.alloc (.cells #[.int .u64 (a : Int), .bool h, .slice G p.length cg, .int .u64 (d0 : Int), .int .u64 (d1 : Int), .int .u64 (d2 : Int), .int .u64 (d3 : Int), .int .u64 (d4 : Int), .int .i64 n, .slice A on.length ca, .bool f, .slice B l.length cb] 41)).alloc (.cells #[.int .u64 (b : Int), .bool j, .slice I q.length ci, .int .u64 (e0 : Int), .int .u64 (e1 : Int), .int .u64 (e2 : Int), .int .u64 (e3 : Int), .int .u64 (e4 : Int), .int .i64 m, .slice C om.length cc, .bool g, .slice D k.length cd] 41) := ⟨_, rfl⟩
  have bA : Below w.heap.size w wA := by rw [hwA]; exact ((Below.refl _ _).alloc (Nat.le_refl _) _).alloc (by simp) _
  have ra : RowAt wA w.heap.size 41 [.int .u64 (a : Int), .bool h, .slice G p.length cg, .int .u64 (d0 : Int), .int .u64 (d1 : Int), .int .u64 (d2 : Int), .int .u64 (d3 : Int), .int .u64 (d4 : Int), .int .i64 n, .slice A on.length ca, .bool f, .slice B l.length cb] := by rw [hwA]; exact (RowAt.new w 41 #[.int .u64 (a : Int), .bool h, .slice G p.length cg, .int .u64 (d0 : Int), .int .u64 (d1 : Int), .int .u64 (d2 : Int), .int .u64 (d3 : Int), .int .u64 (d4 : Int), .int .i64 n, .slice A on.length ca, .bool f, .slice B l.length cb]).alloc _
  have rb_ : RowAt wA (w.heap.size + 1) 41 [.int .u64 (b : Int), .bool j, .slice I q.length ci, .int .u64 (e0 : Int), .int .u64 (e1 : Int), .int .u64 (e2 : Int), .int .u64 (e3 : Int), .int .u64 (e4 : Int), .int .i64 m, .slice C om.length cc, .bool g, .slice D k.length cd] := by rw [hwA]; have := RowAt.new (w.alloc (.cells #[.int .u64 (a : Int), .bool h, .slice G p.length cg, .int .u64 (d0 : Int), .int .u64 (d1 : Int), .int .u64 (d2 : Int), .int .u64 (d3 : Int), .int .u64 (d4 : Int), .int .i64 n, .slice A on.length ca, .bool f, .slice B l.length cb] 41)) 41 #[.int .u64 (b : Int), .bool j, .slice I q.length ci, .int .u64 (e0 : Int), .int .u64 (e1 : Int), .int .u64 (e2 : Int), .int .u64 (e3 : Int), .int .u64 (e4 : Int), .int .i64 m, .slice C om.length cc, .bool g, .slice D k.length cd]; simpa using this
  have HW := Lib.hid hwA
  have HR := Lib.hid hR
  have HP := Lib.hid hP
  clear hwA hR hP
  go_enter Tryz.func20, Tryz.ntmps20
  go_wp2_with fail
  rw [← HW.out]
  with_reducible refine (Same_eq _ _ h j p q _ rp HP.out (px.on bA) (py.on bA) h9p h9q).mono ?_
  rintro e w1 ⟨rfl, b1⟩
  replace ra := ra.on b1
  replace rb_ := rb_.on b1
  replace hx := (hx.on bA).on b1
  replace hy := (hy.on bA).on b1
  replace tx := (tx.on bA).on b1
  replace ty := (ty.on bA).on b1
  have bw := bA.trans (b1.mono bA.size)
  have a3 := ra.cell 3
  have c3 := rb_.cell 3
  have a4 := ra.cell 4
  have c4 := rb_.cell 4
  have a5 := ra.cell 5
  have c5 := rb_.cell 5
  have a6 := ra.cell 6
  have c6 := rb_.cell 6
  have a7 := ra.cell 7
  have c7 := rb_.cell 7
  have a8 := ra.cell 8
  have c8 := rb_.cell 8
  have a9 := ra.cell 9
  have c9 := rb_.cell 9
  have a10 := ra.cell 10
  have c10 := rb_.cell 10
  have a11 := ra.cell 11
  have c11 := rb_.cell 11
  simp only [List.getElem?_cons_succ, List.getElem?_cons_zero] at a3 c3 a4 c4 a5 c5 a6 c6 a7 c7 a8 c8 a9 c9 a10 c10 a11 c11
  clear px py
  go_wp2_with fail
  with_reducible refine (SameVote_eq d0 d1 d2 d3 d4 e0 e1 e2 e3 e4 n m on om f g l k A B C D ca cb cc cd _ R HR.out hx hy tx ty h9 h9m h9l h9k).mono ?_
  rintro e w2 ⟨rfl, b2⟩
  replace ra := ra.on b2
  replace rb_ := rb_.on b2
  replace bw := bw.trans (b2.mono bw.size)
  clear a3 c3 a4 c4 a5 c5 a6 c6 a7 c7 a8 c8 a9 c9 a10 c10 a11 c11 tx ty hx hy
  have a0 := ra.cell 0
  have c0 := rb_.cell 0
  simp only [List.getElem?_cons_zero] at a0 c0
  clear ra rb_ b1 b2 bA
  have hne := HN.out
  go_wp2_with fail
  go_ret
  exact ⟨rfl, bw⟩
set_option maxHeartbeats 8000000 in
set_option maxRecDepth 100000 in
theorem SameAggregate_np (a d0 d1 d2 d3 d4 e0 e1 e2 e3 e4 : Nat) (n m : Int) (on om : List Int) (f g h j : Bool) (l k p q : List Pr) (A B C D G I : Option Addr) (ca cb cc cd cg ci : Nat) (w : World) (R : Bool) (hR : sameV [d0, d1, d2, d3, d4] [e0, e1, e2, e3, e4] n on m om f g l k = R) (hP : sameT h j p q = false)
    (hx : Bt w (.agg #[.int .i64 n, .slice A on.length ca]) n on) (hy : Bt w (.agg #[.int .i64 m, .slice C om.length cc]) m om) (tx : Tk w (.agg #[.bool f, .slice B l.length cb]) f l) (ty : Tk w (.agg #[.bool g, .slice D k.length cd]) g k)
    (h9 : on.length ≤ 1000000) (h9m : om.length ≤ 1000000) (h9l : l.length ≤ 1000000) (h9k : k.length ≤ 1000000) (px : Tk w (.agg #[.bool h, .slice G p.length cg]) h p) (py : Tk w (.agg #[.bool j, .slice I q.length ci]) j q) (h9p : p.length ≤ 1000000) (h9q : q.length ≤ 1000000) :
    Calls Tryz.prog 20 #[.agg #[.int .u64 (a : Int), .bool h, .slice G p.length cg, .int .u64 (d0 : Int), .int .u64 (d1 : Int), .int .u64 (d2 : Int), .int .u64 (d3 : Int), .int .u64 (d4 : Int), .int .i64 n, .slice A on.length ca, .bool f, .slice B l.length cb], .agg #[.int .u64 (a : Int), .bool j, .slice I q.length ci, .int .u64 (e0 : Int), .int .u64 (e1 : Int), .int .u64 (e2 : Int), .int .u64 (e3 : Int), .int .u64 (e4 : Int), .int .i64 m, .slice C om.length cc, .bool g, .slice D k.length cd]] w fun e w' => e = .returned (.bool false) ∧ Below w.heap.size w w' := by
  obtain ⟨wA, hwA⟩ : ∃ wA, wA = (w.alloc (.cells #[.int .u64 (a : Int), .bool h, .slice G p.length cg, .int .u64 (d0 : Int), .int .u64 (d1 : Int), .int .u64 (d2 : Int), .int .u64 (d3 : Int), .int .u64 (d4 : Int), .int .i64 n, .slice A on.length ca, .bool f, .slice B l.length cb] 41)).alloc (.cells #[.int .u64 (a : Int), .bool j, .slice I q.length ci, .int .u64 (e0 : Int), .int .u64 (e1 : Int), .int .u64 (e2 : Int), .int .u64 (e3 : Int), .int .u64 (e4 : Int), .int .i64 m, .slice C om.length cc, .bool g, .slice D k.length cd] 41) := ⟨_, rfl⟩
  have bA : Below w.heap.size w wA := by rw [hwA]; exact ((Below.refl _ _).alloc (Nat.le_refl _) _).alloc (by simp) _
  have ra : RowAt wA w.heap.size 41 [.int .u64 (a : Int), .bool h, .slice G p.length cg, .int .u64 (d0 : Int), .int .u64 (d1 : Int), .int .u64 (d2 : Int), .int .u64 (d3 : Int), .int .u64 (d4 : Int), .int .i64 n, .slice A on.length ca, .bool f, .slice B l.length cb] := by rw [hwA]; exact (RowAt.new w 41 #[.int .u64 (a : Int), .bool h, .slice G p.length cg, .int .u64 (d0 : Int), .int .u64 (d1 : Int), .int .u64 (d2 : Int), .int .u64 (d3 : Int), .int .u64 (d4 : Int), .int .i64 n, .slice A on.length ca, .bool f, .slice B l.length cb]).alloc _
  have rb_ : RowAt wA (w.heap.size + 1) 41 [.int .u64 (a : Int), .bool j, .slice I q.length ci, .int .u64 (e0 : Int), .int .u64 (e1 : Int), .int .u64 (e2 : Int), .int .u64 (e3 : Int), .int .u64 (e4 : Int), .int .i64 m, .slice C om.length cc, .bool g, .slice D k.length cd] := by rw [hwA]; have := RowAt.new (w.alloc (.cells #[.int .u64 (a : Int), .bool h, .slice G p.length cg, .int .u64 (d0 : Int), .int .u64 (d1 : Int), .int .u64 (d2 : Int), .int .u64 (d3 : Int), .int .u64 (d4 : Int), .int .i64 n, .slice A on.length ca, .bool f, .slice B l.length cb] 41)) 41 #[.int .u64 (a : Int), .bool j, .slice I q.length ci, .int .u64 (e0 : Int), .int .u64 (e1 : Int), .int .u64 (e2 : Int), .int .u64 (e3 : Int), .int .u64 (e4 : Int), .int .i64 m, .slice C om.length cc, .bool g, .slice D k.length cd]; simpa using this
  have HW := Lib.hid hwA
  have HR := Lib.hid hR
  have HP := Lib.hid hP
  clear hwA hR hP
  go_enter Tryz.func20, Tryz.ntmps20
  go_wp2_with fail
  rw [← HW.out]
  with_reducible refine (Same_eq _ _ h j p q _ false HP.out (px.on bA) (py.on bA) h9p h9q).mono ?_
  rintro e w1 ⟨rfl, b1⟩
  replace ra := ra.on b1
  replace rb_ := rb_.on b1
  replace hx := (hx.on bA).on b1
  replace hy := (hy.on bA).on b1
  replace tx := (tx.on bA).on b1
  replace ty := (ty.on bA).on b1
  have bw := bA.trans (b1.mono bA.size)
  have a3 := ra.cell 3
  have c3 := rb_.cell 3
  have a4 := ra.cell 4
  have c4 := rb_.cell 4
  have a5 := ra.cell 5
  have c5 := rb_.cell 5
  have a6 := ra.cell 6
  have c6 := rb_.cell 6
  have a7 := ra.cell 7
  have c7 := rb_.cell 7
  have a8 := ra.cell 8
  have c8 := rb_.cell 8
  have a9 := ra.cell 9
  have c9 := rb_.cell 9
  have a10 := ra.cell 10
  have c10 := rb_.cell 10
  have a11 := ra.cell 11
  have c11 := rb_.cell 11
  simp only [List.getElem?_cons_succ, List.getElem?_cons_zero] at a3 c3 a4 c4 a5 c5 a6 c6 a7 c7 a8 c8 a9 c9 a10 c10 a11 c11
  clear px py
  go_wp2_with fail
  with_reducible refine (SameVote_eq d0 d1 d2 d3 d4 e0 e1 e2 e3 e4 n m on om f g l k A B C D ca cb cc cd _ R HR.out hx hy tx ty h9 h9m h9l h9k).mono ?_
  rintro e w2 ⟨rfl, b2⟩
  replace ra := ra.on b2
  replace rb_ := rb_.on b2
  replace bw := bw.trans (b2.mono bw.size)
  clear a3 c3 a4 c4 a5 c5 a6 c6 a7 c7 a8 c8 a9 c9 a10 c10 a11 c11 tx ty hx hy
  have a0 := ra.cell 0
  have c0 := rb_.cell 0
  simp only [List.getElem?_cons_zero] at a0 c0
  clear ra rb_ b1 b2 bA
  go_wp2_with fail
  go_ret
  exact ⟨rfl, bw⟩
set_option maxHeartbeats 8000000 in
set_option maxRecDepth 100000 in
theorem SameAggregate_eq (a d0 d1 d2 d3 d4 e0 e1 e2 e3 e4 : Nat) (n m : Int) (on om : List Int) (f g h j : Bool) (l k p q : List Pr) (A B C D G I : Option Addr) (ca cb cc cd cg ci : Nat) (w : World) (R : Bool) (hR : sameV [d0, d1, d2, d3, d4] [e0, e1, e2, e3, e4] n on m om f g l k = R) (hP : sameT h j p q = true)
    (hx : Bt w (.agg #[.int .i64 n, .slice A on.length ca]) n on) (hy : Bt w (.agg #[.int .i64 m, .slice C om.length cc]) m om) (tx : Tk w (.agg #[.bool f, .slice B l.length cb]) f l) (ty : Tk w (.agg #[.bool g, .slice D k.length cd]) g k)
    (h9 : on.length ≤ 1000000) (h9m : om.length ≤ 1000000) (h9l : l.length ≤ 1000000) (h9k : k.length ≤ 1000000) (px : Tk w (.agg #[.bool h, .slice G p.length cg]) h p) (py : Tk w (.agg #[.bool j, .slice I q.length ci]) j q) (h9p : p.length ≤ 1000000) (h9q : q.length ≤ 1000000) :
    Calls Tryz.prog 20 #[.agg #[.int .u64 (a : Int), .bool h, .slice G p.length cg, .int .u64 (d0 : Int), .int .u64 (d1 : Int), .int .u64 (d2 : Int), .int .u64 (d3 : Int), .int .u64 (d4 : Int), .int .i64 n, .slice A on.length ca, .bool f, .slice B l.length cb], .agg #[.int .u64 (a : Int), .bool j, .slice I q.length ci, .int .u64 (e0 : Int), .int .u64 (e1 : Int), .int .u64 (e2 : Int), .int .u64 (e3 : Int), .int .u64 (e4 : Int), .int .i64 m, .slice C om.length cc, .bool g, .slice D k.length cd]] w fun e w' => e = .returned (.bool R) ∧ Below w.heap.size w w' := by
  obtain ⟨wA, hwA⟩ : ∃ wA, wA = (w.alloc (.cells #[.int .u64 (a : Int), .bool h, .slice G p.length cg, .int .u64 (d0 : Int), .int .u64 (d1 : Int), .int .u64 (d2 : Int), .int .u64 (d3 : Int), .int .u64 (d4 : Int), .int .i64 n, .slice A on.length ca, .bool f, .slice B l.length cb] 41)).alloc (.cells #[.int .u64 (a : Int), .bool j, .slice I q.length ci, .int .u64 (e0 : Int), .int .u64 (e1 : Int), .int .u64 (e2 : Int), .int .u64 (e3 : Int), .int .u64 (e4 : Int), .int .i64 m, .slice C om.length cc, .bool g, .slice D k.length cd] 41) := ⟨_, rfl⟩
  have bA : Below w.heap.size w wA := by rw [hwA]; exact ((Below.refl _ _).alloc (Nat.le_refl _) _).alloc (by simp) _
  have ra : RowAt wA w.heap.size 41 [.int .u64 (a : Int), .bool h, .slice G p.length cg, .int .u64 (d0 : Int), .int .u64 (d1 : Int), .int .u64 (d2 : Int), .int .u64 (d3 : Int), .int .u64 (d4 : Int), .int .i64 n, .slice A on.length ca, .bool f, .slice B l.length cb] := by rw [hwA]; exact (RowAt.new w 41 #[.int .u64 (a : Int), .bool h, .slice G p.length cg, .int .u64 (d0 : Int), .int .u64 (d1 : Int), .int .u64 (d2 : Int), .int .u64 (d3 : Int), .int .u64 (d4 : Int), .int .i64 n, .slice A on.length ca, .bool f, .slice B l.length cb]).alloc _
  have rb_ : RowAt wA (w.heap.size + 1) 41 [.int .u64 (a : Int), .bool j, .slice I q.length ci, .int .u64 (e0 : Int), .int .u64 (e1 : Int), .int .u64 (e2 : Int), .int .u64 (e3 : Int), .int .u64 (e4 : Int), .int .i64 m, .slice C om.length cc, .bool g, .slice D k.length cd] := by rw [hwA]; have := RowAt.new (w.alloc (.cells #[.int .u64 (a : Int), .bool h, .slice G p.length cg, .int .u64 (d0 : Int), .int .u64 (d1 : Int), .int .u64 (d2 : Int), .int .u64 (d3 : Int), .int .u64 (d4 : Int), .int .i64 n, .slice A on.length ca, .bool f, .slice B l.length cb] 41)) 41 #[.int .u64 (a : Int), .bool j, .slice I q.length ci, .int .u64 (e0 : Int), .int .u64 (e1 : Int), .int .u64 (e2 : Int), .int .u64 (e3 : Int), .int .u64 (e4 : Int), .int .i64 m, .slice C om.length cc, .bool g, .slice D k.length cd]; simpa using this
  have HW := Lib.hid hwA
  have HR := Lib.hid hR
  have HP := Lib.hid hP
  clear hwA hR hP
  go_enter Tryz.func20, Tryz.ntmps20
  go_wp2_with fail
  rw [← HW.out]
  with_reducible refine (Same_eq _ _ h j p q _ true HP.out (px.on bA) (py.on bA) h9p h9q).mono ?_
  rintro e w1 ⟨rfl, b1⟩
  replace ra := ra.on b1
  replace rb_ := rb_.on b1
  replace hx := (hx.on bA).on b1
  replace hy := (hy.on bA).on b1
  replace tx := (tx.on bA).on b1
  replace ty := (ty.on bA).on b1
  have bw := bA.trans (b1.mono bA.size)
  have a3 := ra.cell 3
  have c3 := rb_.cell 3
  have a4 := ra.cell 4
  have c4 := rb_.cell 4
  have a5 := ra.cell 5
  have c5 := rb_.cell 5
  have a6 := ra.cell 6
  have c6 := rb_.cell 6
  have a7 := ra.cell 7
  have c7 := rb_.cell 7
  have a8 := ra.cell 8
  have c8 := rb_.cell 8
  have a9 := ra.cell 9
  have c9 := rb_.cell 9
  have a10 := ra.cell 10
  have c10 := rb_.cell 10
  have a11 := ra.cell 11
  have c11 := rb_.cell 11
  simp only [List.getElem?_cons_succ, List.getElem?_cons_zero] at a3 c3 a4 c4 a5 c5 a6 c6 a7 c7 a8 c8 a9 c9 a10 c10 a11 c11
  clear px py
  go_wp2_with fail
  with_reducible refine (SameVote_eq d0 d1 d2 d3 d4 e0 e1 e2 e3 e4 n m on om f g l k A B C D ca cb cc cd _ R HR.out hx hy tx ty h9 h9m h9l h9k).mono ?_
  rintro e w2 ⟨rfl, b2⟩
  replace ra := ra.on b2
  replace rb_ := rb_.on b2
  replace bw := bw.trans (b2.mono bw.size)
  clear a3 c3 a4 c4 a5 c5 a6 c6 a7 c7 a8 c8 a9 c9 a10 c10 a11 c11 tx ty hx hy
  have a0 := ra.cell 0
  have c0 := rb_.cell 0
  simp only [List.getElem?_cons_zero] at a0 c0
  clear ra rb_ b1 b2 bA
  go_wp2_with fail
  go_ret
  exact ⟨rfl, bw⟩
def sameA (a b : Nat) (h j : Bool) (p q : List Pr) (v : Bool) : Bool := decide (a = b) && (sameT h j p q && v)
theorem SameAgg_eq (a b d0 d1 d2 d3 d4 e0 e1 e2 e3 e4 : Nat) (n m : Int) (on om : List Int) (f g h j : Bool) (l k p q : List Pr) (A B C D G I : Option Addr) (ca cb cc cd cg ci : Nat) (w : World) (R : Bool) (hR : sameA a b h j p q (sameV [d0, d1, d2, d3, d4] [e0, e1, e2, e3, e4] n on m om f g l k) = R)
    (hx : Bt w (.agg #[.int .i64 n, .slice A on.length ca]) n on) (hy : Bt w (.agg #[.int .i64 m, .slice C om.length cc]) m om) (tx : Tk w (.agg #[.bool f, .slice B l.length cb]) f l) (ty : Tk w (.agg #[.bool g, .slice D k.length cd]) g k)
    (h9 : on.length ≤ 1000000) (h9m : om.length ≤ 1000000) (h9l : l.length ≤ 1000000) (h9k : k.length ≤ 1000000) (px : Tk w (.agg #[.bool h, .slice G p.length cg]) h p) (py : Tk w (.agg #[.bool j, .slice I q.length ci]) j q) (h9p : p.length ≤ 1000000) (h9q : q.length ≤ 1000000) :
    Calls Tryz.prog 20 #[.agg #[.int .u64 (a : Int), .bool h, .slice G p.length cg, .int .u64 (d0 : Int), .int .u64 (d1 : Int), .int .u64 (d2 : Int), .int .u64 (d3 : Int), .int .u64 (d4 : Int), .int .i64 n, .slice A on.length ca, .bool f, .slice B l.length cb], .agg #[.int .u64 (b : Int), .bool j, .slice I q.length ci, .int .u64 (e0 : Int), .int .u64 (e1 : Int), .int .u64 (e2 : Int), .int .u64 (e3 : Int), .int .u64 (e4 : Int), .int .i64 m, .slice C om.length cc, .bool g, .slice D k.length cd]] w fun e w' => e = .returned (.bool R) ∧ Below w.heap.size w w' := by
  unfold sameA at hR
  by_cases qa : a = b
  · subst qa
    rw [decide_eq_true rfl, Bool.true_and] at hR
    cases hp : sameT h j p q
    · rw [hp, Bool.false_and] at hR
      subst hR
      exact SameAggregate_np a d0 d1 d2 d3 d4 e0 e1 e2 e3 e4 n m on om f g h j l k p q A B C D G I ca cb cc cd cg ci w _ rfl hp hx hy tx ty h9 h9m h9l h9k px py h9p h9q
    · rw [hp, Bool.true_and] at hR
      exact SameAggregate_eq a d0 d1 d2 d3 d4 e0 e1 e2 e3 e4 n m on om f g h j l k p q A B C D G I ca cb cc cd cg ci w R hR hp hx hy tx ty h9 h9m h9l h9k px py h9p h9q
  · rw [decide_eq_false qa, Bool.false_and] at hR
    subst hR
    exact SameAggregate_ne a b d0 d1 d2 d3 d4 e0 e1 e2 e3 e4 n m on om f g h j l k p q A B C D G I ca cb cc cd cg ci w _ _ rfl rfl (ne_spell qa) hx hy tx ty h9 h9m h9l h9k px py h9p h9q
end Go.Proofs.YtieheieiolobaaaGreatDoor

namespace Go.Proofs.YtieheieiolobaaaGreatDoor
open Go.RowKit

/-- What Vote makes of raw numbers: a vote with these, in memory of its own. -/
def VoteAns (d0 d1 d2 d3 d4 : Nat) (n : Int) (on : List Int) (f : Bool) (l : List Pr) (w : World) (e : Ending) (w' : World) : Prop :=
  ∃ A c B k, e = .returned (.agg #[.int .u64 (d0 : Int), .int .u64 (d1 : Int), .int .u64 (d2 : Int), .int .u64 (d3 : Int), .int .u64 (d4 : Int), .int .i64 n, .slice A on.length c, .bool f, .slice B l.length k]) ∧
    Bt w' (.agg #[.int .i64 n, .slice A on.length c]) n on ∧ Tk w' (.agg #[.bool f, .slice B l.length k]) f l ∧ Below w.heap.size w w' ∧ Newer w.heap.size (.agg #[.int .i64 n, .slice A on.length c]) ∧ Newer w.heap.size (.agg #[.bool f, .slice B l.length k])

set_option maxHeartbeats 4000000 in
set_option maxRecDepth 100000 in
theorem rawVote_any (x0 x1 x2 x3 x4 n : Int) (on pr : List Int) (A B : Option Addr) (c k : Nat) (b : Bool) (w : World) (b0 : I64 x0) (b1 : I64 x1) (b2 : I64 x2) (b3 : I64 x3) (b4 : I64 x4) (bn : I64 n)
    (ho : Ints w w.heap.size (.slice A on.length c) on) (io : ∀ r ∈ on, I64 r) (hp : Ints w w.heap.size (.slice B pr.length k) pr) (ip : ∀ r ∈ pr, I64 r) (h9 : pr.length ≤ maxLen)
    (d0 d1 d2 d3 d4 N : Nat) (e0 : pickN x0 300 = d0) (e1 : pickN x1 9 = d1) (e2 : pickN x2 4 = d2) (e3 : pickN x3 20 = d3) (e4 : pickN x4 20 = d4) (eN : pickOf n 40 = (N : Int)) (ON : List Int) (eO : pickSet N on = ON) (l : List Pr) (el : tokL pr = l) :
    Calls Tryz.prog 5 #[.agg #[.int .i64 x0, .int .i64 x1, .int .i64 x2, .int .i64 x3, .int .i64 x4, .int .i64 n, .slice A on.length c, .slice B pr.length k, .bool b]] w (VoteAns d0 d1 d2 d3 d4 N ON b l w) := by
  have l0 := pickN_lt x0 300 (by decide)
  have l1 := pickN_lt x1 9 (by decide)
  have l2 := pickN_lt x2 4 (by decide)
  have l3 := pickN_lt x3 20 (by decide)
  have l4 := pickN_lt x4 20 (by decide)
  have c0 := fun W => pick6_any x0 300 W b0 (by decide) (by decide)
  have c1 := fun W => pick6_any x1 9 W b1 (by decide) (by decide)
  have c2 := fun W => pick6_any x2 4 W b2 (by decide) (by decide)
  have c3 := fun W => pick6_any x3 20 W b3 (by decide) (by decide)
  have c4 := fun W => pick6_any x4 20 W b4 (by decide) (by decide)
  rw [e0] at l0 c0
  rw [e1] at l1 c1
  rw [e2] at l2 c2
  rw [e3] at l3 c3
  rw [e4] at l4 c4
  have cB := fun W (hv : Ints W W.heap.size (.slice A on.length c) on) => Bits_new n 40 on (.slice A on.length c) W hv bn io (by decide) (by decide)
  rw [eN, Int.toNat_natCast, eO] at cB
  have cT := fun W (hv : Ints W W.heap.size (.slice B pr.length k) pr) => Token_new (.slice B pr.length k) pr b W hv ip h9
  rw [el] at cT
  clear e0 e1 e2 e3 e4 eN eO el b0 b1 b2 b3 b4 bn io ip h9
  have q0 : IntKind.u64.wrap (d0 : Int) = (d0 : Int) := wrap_u64 (by omega)
  have q1 : IntKind.u64.wrap (d1 : Int) = (d1 : Int) := wrap_u64 (by omega)
  have q2 : IntKind.u64.wrap (d2 : Int) = (d2 : Int) := wrap_u64 (by omega)
  have q3 : IntKind.u64.wrap (d3 : Int) = (d3 : Int) := wrap_u64 (by omega)
  have q4 : IntKind.u64.wrap (d4 : Int) = (d4 : Int) := wrap_u64 (by omega)
  clear l0 l1 l2 l3 l4
  go_enter Tryz.func5, Tryz.ntmps5
  go_upto_region 1 with (fail)
  obtain ⟨wa, hwa⟩ : ∃ wa, wa = (w.alloc (.cells #[.int .i64 x0, .int .i64 x1, .int .i64 x2, .int .i64 x3, .int .i64 x4, .int .i64 n, .slice A on.length c, .slice B pr.length k, .bool b] 35)).alloc (.cells #[.int .u64 0, .int .u64 0, .int .u64 0, .int .u64 0, .int .u64 0, .int .i64 0, .slice none 0 0, .bool false, .slice none 0 0] 32) := ⟨_, rfl⟩
  have hba : Below w.heap.size w wa := by rw [hwa]; exact ((Below.refl _ _).alloc (Nat.le_refl _) _).alloc (by simp) _
  have R0 : RowAt wa w.heap.size 35 [.int .i64 x0, .int .i64 x1, .int .i64 x2, .int .i64 x3, .int .i64 x4, .int .i64 n, .slice A on.length c, .slice B pr.length k, .bool b] := by rw [hwa]; exact (RowAt.new w 35 #[.int .i64 x0, .int .i64 x1, .int .i64 x2, .int .i64 x3, .int .i64 x4, .int .i64 n, .slice A on.length c, .slice B pr.length k, .bool b]).alloc _
  have R1 : RowAt wa (w.heap.size + 1) 32 [.int .u64 0, .int .u64 0, .int .u64 0, .int .u64 0, .int .u64 0, .int .i64 0, .slice none 0 0, .bool false, .slice none 0 0] := by
    have := RowAt.new (w.alloc (.cells #[.int .i64 x0, .int .i64 x1, .int .i64 x2, .int .i64 x3, .int .i64 x4, .int .i64 n, .slice A on.length c, .slice B pr.length k, .bool b] 35)) 32 #[.int .u64 0, .int .u64 0, .int .u64 0, .int .u64 0, .int .u64 0, .int .i64 0, .slice none 0 0, .bool false, .slice none 0 0]
    rw [World.size_alloc] at this
    rw [hwa]; exact this
  rw [← hwa]
  clear hwa
  have f0 : wa.cell? ⟨w.heap.size, 0, none⟩ = some (.int .i64 x0) := (by rw [R0.cell]; rfl)
  have f1 : wa.cell? ⟨w.heap.size, 1, none⟩ = some (.int .i64 x1) := (by rw [R0.cell]; rfl)
  have f2 : wa.cell? ⟨w.heap.size, 2, none⟩ = some (.int .i64 x2) := (by rw [R0.cell]; rfl)
  have f3 : wa.cell? ⟨w.heap.size, 3, none⟩ = some (.int .i64 x3) := (by rw [R0.cell]; rfl)
  have f4 : wa.cell? ⟨w.heap.size, 4, none⟩ = some (.int .i64 x4) := (by rw [R0.cell]; rfl)
  go_cut [3] from 4 to 29 (fun pv wx => pv = .pointer (some ⟨wa.heap.size, 0, none⟩) ∧ RowAt wx wa.heap.size 24 [.int .u64 (d0 : Int), .int .u64 (d1 : Int), .int .u64 (d2 : Int), .int .u64 (d3 : Int), .int .u64 (d4 : Int)] ∧ Below wa.heap.size wa wx)
  case first =>
    go_region_held3 (fun w' => w'.cell? ⟨w.heap.size, 0, none⟩ = some (.int .i64 x0) ∧ w'.cell? ⟨w.heap.size, 1, none⟩ = some (.int .i64 x1) ∧ w'.cell? ⟨w.heap.size, 2, none⟩ = some (.int .i64 x2) ∧ w'.cell? ⟨w.heap.size, 3, none⟩ = some (.int .i64 x3) ∧ w'.cell? ⟨w.heap.size, 4, none⟩ = some (.int .i64 x4)) (first | exact ⟨f0, f1, f2, f3, f4⟩ | go_keep) (first | ((with_reducible refine (c0 _).mono ?_); rintro e w1 ⟨rfl, rfl⟩) | ((with_reducible refine (c1 _).mono ?_); rintro e w1 ⟨rfl, rfl⟩) | ((with_reducible refine (c2 _).mono ?_); rintro e w1 ⟨rfl, rfl⟩) | ((with_reducible refine (c3 _).mono ?_); rintro e w1 ⟨rfl, rfl⟩) | ((with_reducible refine (c4 _).mono ?_); rintro e w1 ⟨rfl, rfl⟩))
    all_goals
      go_simp
      go_wp2_with fail
      go_meet
      exact ⟨rfl, RowAt.new wa 24 #[.int .u64 (d0 : Int), .int .u64 (d1 : Int), .int .u64 (d2 : Int), .int .u64 (d3 : Int), .int .u64 (d4 : Int)], ((Below.refl _ wa).alloc (Nat.le_refl _) _).drew⟩
  case rest =>
    obtain ⟨wx, hwx⟩ : ∃ wx, wx = wc := ⟨_, rfl⟩
    subst hwx
    obtain ⟨rfl, RD, hbx⟩ := hcut
    have hlt0 := R0.lt
    have hlt1 := R1.lt
    have RX := R0.below hbx hlt0
    have RV := R1.below hbx hlt1
    have hbw := hba.trans (hbx.mono hba.size)
    have hO := ho.below hbw (Nat.le_refl _)
    have hP := hp.below hbw (Nat.le_refl _)
    clear f0 f1 f2 f3 f4 R0 R1 c0 c1 c2 c3 c4 q0 q1 q2 q3 q4 ho hp
    have hgn : w.heap.size + 1 < wa.heap.size := hlt1
    generalize wa.heap.size = g at RD hbx hgn ⊢
    have hg1 : ¬ (w.heap.size + 1 = g) := by omega
    have hg2 : ¬ (g = w.heap.size + 1) := by omega
    have hz1 : w.heap.size < wx.heap.size := RX.lt
    have hz2 : w.heap.size + 1 < wx.heap.size := RV.lt
    have HO : ∀ W, Below wx.heap.size wx W → Ints W W.heap.size (.slice A on.length c) on := fun W hW => (hO.below hW (Nat.le_of_lt hz1)).more (Nat.le_trans (Nat.le_of_lt hz1) hW.size)
    have HP : ∀ W, Below wx.heap.size wx W → Ints W W.heap.size (.slice B pr.length k) pr := fun W hW => (hP.below hW (Nat.le_of_lt hz1)).more (Nat.le_trans (Nat.le_of_lt hz1) hW.size)
    clear hO hP hlt0 hlt1
    have f5 : wx.cell? ⟨w.heap.size, 5, none⟩ = some (.int .i64 n) := (by rw [RX.cell]; rfl)
    have f6 : wx.cell? ⟨w.heap.size, 6, none⟩ = some (.slice A on.length c) := (by rw [RX.cell]; rfl)
    have f7 : wx.cell? ⟨w.heap.size, 7, none⟩ = some (.slice B pr.length k) := (by rw [RX.cell]; rfl)
    have f8 : wx.cell? ⟨w.heap.size, 8, none⟩ = some (.bool b) := (by rw [RX.cell]; rfl)
    have g0 : wx.cell? ⟨g, 0, none⟩ = some (.int .u64 (d0 : Int)) := (by rw [RD.cell]; rfl)
    have g1 : wx.cell? ⟨g, 1, none⟩ = some (.int .u64 (d1 : Int)) := (by rw [RD.cell]; rfl)
    have g2 : wx.cell? ⟨g, 2, none⟩ = some (.int .u64 (d2 : Int)) := (by rw [RD.cell]; rfl)
    have g3 : wx.cell? ⟨g, 3, none⟩ = some (.int .u64 (d3 : Int)) := (by rw [RD.cell]; rfl)
    have g4 : wx.cell? ⟨g, 4, none⟩ = some (.int .u64 (d4 : Int)) := (by rw [RD.cell]; rfl)
    have v0 := RV.cell 0
    have v1 := RV.cell 1
    have v2 := RV.cell 2
    have v3 := RV.cell 3
    have v4 := RV.cell 4
    have v5 := RV.cell 5
    have v6 := RV.cell 6
    have v7 := RV.cell 7
    have v8 := RV.cell 8
    have z0 := RV.frozen 0
    have z1 := RV.frozen 1
    have z2 := RV.frozen 2
    have z3 := RV.frozen 3
    have z4 := RV.frozen 4
    have z5 := RV.frozen 5
    have z6 := RV.frozen 6
    have z7 := RV.frozen 7
    have z8 := RV.frozen 8
    simp only [List.getElem?_cons_succ, List.getElem?_cons_zero] at v0 v1 v2 v3 v4 v5 v6 v7 v8
    go_upto_region 2 with (fail)
    go_region_held3 (fun w' => w'.cell? ⟨w.heap.size, 5, none⟩ = some (.int .i64 n) ∧ w'.cell? ⟨w.heap.size, 6, none⟩ = some (.slice A on.length c) ∧ w'.cell? ⟨w.heap.size, 7, none⟩ = some (.slice B pr.length k) ∧ w'.cell? ⟨w.heap.size, 8, none⟩ = some (.bool b) ∧ w'.cell? ⟨g, 0, none⟩ = some (.int .u64 (d0 : Int)) ∧ w'.cell? ⟨g, 1, none⟩ = some (.int .u64 (d1 : Int)) ∧ w'.cell? ⟨g, 2, none⟩ = some (.int .u64 (d2 : Int)) ∧ w'.cell? ⟨g, 3, none⟩ = some (.int .u64 (d3 : Int)) ∧ w'.cell? ⟨g, 4, none⟩ = some (.int .u64 (d4 : Int))) (first | with_reducible exact ⟨f5, f6, f7, f8, g0, g1, g2, g3, g4⟩ | go_keep)
      (first
        | ((with_reducible refine (cB _ (HO _ (Below.refl _ wx).drew)).mono ?_); rintro e w4 ⟨x, rfl, tB, hb4, nB⟩; obtain ⟨A', c', rfl, _, _⟩ := tB.form; have hb4' : Below wx.heap.size wx w4 := ((Below.refl _ wx).drew).trans hb4; have RX4 := RX.below hb4' hz1; have RV4 := RV.below hb4' hz2; have RD4 := RD.below hb4' RD.lt; have f5 : w4.cell? ⟨w.heap.size, 5, none⟩ = some (.int .i64 n) := (by rw [RX4.cell]; rfl); have f6 : w4.cell? ⟨w.heap.size, 6, none⟩ = some (.slice A on.length c) := (by rw [RX4.cell]; rfl); have f7 : w4.cell? ⟨w.heap.size, 7, none⟩ = some (.slice B pr.length k) := (by rw [RX4.cell]; rfl); have f8 : w4.cell? ⟨w.heap.size, 8, none⟩ = some (.bool b) := (by rw [RX4.cell]; rfl); have g0 : w4.cell? ⟨g, 0, none⟩ = some (.int .u64 (d0 : Int)) := (by rw [RD4.cell]; rfl); have g1 : w4.cell? ⟨g, 1, none⟩ = some (.int .u64 (d1 : Int)) := (by rw [RD4.cell]; rfl); have g2 : w4.cell? ⟨g, 2, none⟩ = some (.int .u64 (d2 : Int)) := (by rw [RD4.cell]; rfl); have g3 : w4.cell? ⟨g, 3, none⟩ = some (.int .u64 (d3 : Int)) := (by rw [RD4.cell]; rfl); have g4 : w4.cell? ⟨g, 4, none⟩ = some (.int .u64 (d4 : Int)) := (by rw [RD4.cell]; rfl); have v0 := RV4.cell 0; have v1 := RV4.cell 1; have v2 := RV4.cell 2; have v3 := RV4.cell 3; have v4 := RV4.cell 4; have v5 := RV4.cell 5; have v6 := RV4.cell 6; have v7 := RV4.cell 7; have v8 := RV4.cell 8; have z0 := RV4.frozen 0; have z1 := RV4.frozen 1; have z2 := RV4.frozen 2; have z3 := RV4.frozen 3; have z4 := RV4.frozen 4; have z5 := RV4.frozen 5; have z6 := RV4.frozen 6; have z7 := RV4.frozen 7; have z8 := RV4.frozen 8; simp only [List.getElem?_cons_succ, List.getElem?_cons_zero] at v0 v1 v2 v3 v4 v5 v6 v7 v8)
        | ((with_reducible refine (cT _ (HP _ hb4')).mono ?_); rintro e w5 ⟨y, rfl, tT, hb5, nT⟩; obtain ⟨B', k', rfl, _, _⟩ := tT.form; have hb5' : Below wx.heap.size wx w5 := hb4'.trans (hb5.mono hb4'.size); have RX5 := RX.below hb5' hz1; have RV5 := RV.below hb5' hz2; have RD5 := RD.below hb5' RD.lt; have tB5 := tB.on hb5; have f5 : w5.cell? ⟨w.heap.size, 5, none⟩ = some (.int .i64 n) := (by rw [RX5.cell]; rfl); have f6 : w5.cell? ⟨w.heap.size, 6, none⟩ = some (.slice A on.length c) := (by rw [RX5.cell]; rfl); have f7 : w5.cell? ⟨w.heap.size, 7, none⟩ = some (.slice B pr.length k) := (by rw [RX5.cell]; rfl); have f8 : w5.cell? ⟨w.heap.size, 8, none⟩ = some (.bool b) := (by rw [RX5.cell]; rfl); have g0 : w5.cell? ⟨g, 0, none⟩ = some (.int .u64 (d0 : Int)) := (by rw [RD5.cell]; rfl); have g1 : w5.cell? ⟨g, 1, none⟩ = some (.int .u64 (d1 : Int)) := (by rw [RD5.cell]; rfl); have g2 : w5.cell? ⟨g, 2, none⟩ = some (.int .u64 (d2 : Int)) := (by rw [RD5.cell]; rfl); have g3 : w5.cell? ⟨g, 3, none⟩ = some (.int .u64 (d3 : Int)) := (by rw [RD5.cell]; rfl); have g4 : w5.cell? ⟨g, 4, none⟩ = some (.int .u64 (d4 : Int)) := (by rw [RD5.cell]; rfl); have v0 := RV5.cell 0; have v1 := RV5.cell 1; have v2 := RV5.cell 2; have v3 := RV5.cell 3; have v4 := RV5.cell 4; have v5 := RV5.cell 5; have v6 := RV5.cell 6; have v7 := RV5.cell 7; have v8 := RV5.cell 8; have z0 := RV5.frozen 0; have z1 := RV5.frozen 1; have z2 := RV5.frozen 2; have z3 := RV5.frozen 3; have z4 := RV5.frozen 4; have z5 := RV5.frozen 5; have z6 := RV5.frozen 6; have z7 := RV5.frozen 7; have z8 := RV5.frozen 8; simp only [List.getElem?_cons_succ, List.getElem?_cons_zero] at v0 v1 v2 v3 v4 v5 v6 v7 v8))
    have hbz := hbw.trans (hb5'.mono hbw.size)
    have hbz' := (((((((((hbz.setCell (p := ⟨w.heap.size + 1, 0, none⟩) (show w.heap.size ≤ w.heap.size + 1 by omega) (.int .u64 (d0 : Int))).setCell (p := ⟨w.heap.size + 1, 1, none⟩) (show w.heap.size ≤ w.heap.size + 1 by omega) (.int .u64 (d1 : Int))).setCell (p := ⟨w.heap.size + 1, 2, none⟩) (show w.heap.size ≤ w.heap.size + 1 by omega) (.int .u64 (d2 : Int))).setCell (p := ⟨w.heap.size + 1, 3, none⟩) (show w.heap.size ≤ w.heap.size + 1 by omega) (.int .u64 (d3 : Int))).setCell (p := ⟨w.heap.size + 1, 4, none⟩) (show w.heap.size ≤ w.heap.size + 1 by omega) (.int .u64 (d4 : Int))).setCell (p := ⟨w.heap.size + 1, 5, none⟩) (show w.heap.size ≤ w.heap.size + 1 by omega) (.int .i64 (N : Int))).setCell (p := ⟨w.heap.size + 1, 6, none⟩) (show w.heap.size ≤ w.heap.size + 1 by omega) (.slice A' ON.length c')).setCell (p := ⟨w.heap.size + 1, 7, none⟩) (show w.heap.size ≤ w.heap.size + 1 by omega) (.bool b)).setCell (p := ⟨w.heap.size + 1, 8, none⟩) (show w.heap.size ≤ w.heap.size + 1 by omega) (.slice B' l.length k'))
    have RF := (((((((((RV5.set 0 (.int .u64 (d0 : Int))).set 1 (.int .u64 (d1 : Int))).set 2 (.int .u64 (d2 : Int))).set 3 (.int .u64 (d3 : Int))).set 4 (.int .u64 (d4 : Int))).set 5 (.int .i64 (N : Int))).set 6 (.slice A' ON.length c')).set 7 (.bool b)).set 8 (.slice B' l.length k'))
    simp only [List.set_cons_zero, List.set_cons_succ] at RF
    have tBF := (((((((((tB5.setNew nB (show w.heap.size + 1 < wx.heap.size from hz2) (p := ⟨w.heap.size + 1, 0, none⟩) (.int .u64 (d0 : Int))).setNew nB (show w.heap.size + 1 < wx.heap.size from hz2) (p := ⟨w.heap.size + 1, 1, none⟩) (.int .u64 (d1 : Int))).setNew nB (show w.heap.size + 1 < wx.heap.size from hz2) (p := ⟨w.heap.size + 1, 2, none⟩) (.int .u64 (d2 : Int))).setNew nB (show w.heap.size + 1 < wx.heap.size from hz2) (p := ⟨w.heap.size + 1, 3, none⟩) (.int .u64 (d3 : Int))).setNew nB (show w.heap.size + 1 < wx.heap.size from hz2) (p := ⟨w.heap.size + 1, 4, none⟩) (.int .u64 (d4 : Int))).setNew nB (show w.heap.size + 1 < wx.heap.size from hz2) (p := ⟨w.heap.size + 1, 5, none⟩) (.int .i64 (N : Int))).setNew nB (show w.heap.size + 1 < wx.heap.size from hz2) (p := ⟨w.heap.size + 1, 6, none⟩) (.slice A' ON.length c')).setNew nB (show w.heap.size + 1 < wx.heap.size from hz2) (p := ⟨w.heap.size + 1, 7, none⟩) (.bool b)).setNew nB (show w.heap.size + 1 < wx.heap.size from hz2) (p := ⟨w.heap.size + 1, 8, none⟩) (.slice B' l.length k'))
    have tTF := (((((((((tT.setNew nT (show w.heap.size + 1 < w4.heap.size from RV4.lt) (p := ⟨w.heap.size + 1, 0, none⟩) (.int .u64 (d0 : Int))).setNew nT (show w.heap.size + 1 < w4.heap.size from RV4.lt) (p := ⟨w.heap.size + 1, 1, none⟩) (.int .u64 (d1 : Int))).setNew nT (show w.heap.size + 1 < w4.heap.size from RV4.lt) (p := ⟨w.heap.size + 1, 2, none⟩) (.int .u64 (d2 : Int))).setNew nT (show w.heap.size + 1 < w4.heap.size from RV4.lt) (p := ⟨w.heap.size + 1, 3, none⟩) (.int .u64 (d3 : Int))).setNew nT (show w.heap.size + 1 < w4.heap.size from RV4.lt) (p := ⟨w.heap.size + 1, 4, none⟩) (.int .u64 (d4 : Int))).setNew nT (show w.heap.size + 1 < w4.heap.size from RV4.lt) (p := ⟨w.heap.size + 1, 5, none⟩) (.int .i64 (N : Int))).setNew nT (show w.heap.size + 1 < w4.heap.size from RV4.lt) (p := ⟨w.heap.size + 1, 6, none⟩) (.slice A' ON.length c')).setNew nT (show w.heap.size + 1 < w4.heap.size from RV4.lt) (p := ⟨w.heap.size + 1, 7, none⟩) (.bool b)).setNew nT (show w.heap.size + 1 < w4.heap.size from RV4.lt) (p := ⟨w.heap.size + 1, 8, none⟩) (.slice B' l.length k'))
    have nBw := nB.less (Nat.le_of_lt hz1)
    have nTw := nT.less (Nat.le_of_lt RX4.lt)
    have e0 := RF.cell 0
    have e1 := RF.cell 1
    have e2 := RF.cell 2
    have e3 := RF.cell 3
    have e4 := RF.cell 4
    have e5 := RF.cell 5
    have e6 := RF.cell 6
    have e7 := RF.cell 7
    have e8 := RF.cell 8
    simp only [List.getElem?_cons_succ, List.getElem?_cons_zero] at e0 e1 e2 e3 e4 e5 e6 e7 e8
    generalize (((((((((w5.setCell ⟨w.heap.size + 1, 0, none⟩ (.int .u64 (d0 : Int))).setCell ⟨w.heap.size + 1, 1, none⟩ (.int .u64 (d1 : Int))).setCell ⟨w.heap.size + 1, 2, none⟩ (.int .u64 (d2 : Int))).setCell ⟨w.heap.size + 1, 3, none⟩ (.int .u64 (d3 : Int))).setCell ⟨w.heap.size + 1, 4, none⟩ (.int .u64 (d4 : Int))).setCell ⟨w.heap.size + 1, 5, none⟩ (.int .i64 (N : Int))).setCell ⟨w.heap.size + 1, 6, none⟩ (.slice A' ON.length c')).setCell ⟨w.heap.size + 1, 7, none⟩ (.bool b)).setCell ⟨w.heap.size + 1, 8, none⟩ (.slice B' l.length k')) = wf at *
    go_wp2_with fail
    refine bodyPost_ret (v := .agg #[.int .u64 (d0 : Int), .int .u64 (d1 : Int), .int .u64 (d2 : Int), .int .u64 (d3 : Int), .int .u64 (d4 : Int), .int .i64 (N : Int), .slice A' ON.length c', .bool b, .slice B' l.length k']) (by simp [results, Tryz.results5, go_sem, e0, e1, e2, e3, e4, e5, e6, e7, e8]) rfl ?_
    exact ⟨A', c', B', k', rfl, tBF, tTF, hbz', nBw, nTw⟩
end Go.Proofs.YtieheieiolobaaaGreatDoor

namespace Go.Proofs.YtieheieiolobaaaGreatDoor
open Go.RowKit

/-- What Aggregate makes of raw numbers: an aggregate with these, in memory of its own. -/
def AggAns (y0 : Nat) (g : Bool) (m : List Pr) (d0 d1 d2 d3 d4 : Nat) (n : Int) (on : List Int) (f : Bool) (l : List Pr) (w : World) (e : Ending) (w' : World) : Prop :=
  ∃ C j A c B k, e = .returned (.agg #[.int .u64 (y0 : Int), .bool g, .slice C m.length j, .int .u64 (d0 : Int), .int .u64 (d1 : Int), .int .u64 (d2 : Int), .int .u64 (d3 : Int), .int .u64 (d4 : Int), .int .i64 n, .slice A on.length c, .bool f, .slice B l.length k]) ∧
    Tk w' (.agg #[.bool g, .slice C m.length j]) g m ∧ Bt w' (.agg #[.int .i64 n, .slice A on.length c]) n on ∧ Tk w' (.agg #[.bool f, .slice B l.length k]) f l ∧ Below w.heap.size w w' ∧
    Newer w.heap.size (.agg #[.bool g, .slice C m.length j]) ∧ Newer w.heap.size (.agg #[.int .i64 n, .slice A on.length c]) ∧ Newer w.heap.size (.agg #[.bool f, .slice B l.length k])

set_option maxHeartbeats 4000000 in
set_option maxRecDepth 100000 in
theorem rawAgg_any (y x0 x1 x2 x3 x4 n : Int) (on pr po : List Int) (A B C : Option Addr) (c k j : Nat) (b : Bool) (w : World) (by_ : I64 y) (b0 : I64 x0) (b1 : I64 x1) (b2 : I64 x2) (b3 : I64 x3) (b4 : I64 x4) (bn : I64 n)
    (ho : Ints w w.heap.size (.slice A on.length c) on) (io : ∀ r ∈ on, I64 r) (hp : Ints w w.heap.size (.slice B pr.length k) pr) (ip : ∀ r ∈ pr, I64 r) (h9 : pr.length ≤ maxLen) (hq : Ints w w.heap.size (.slice C po.length j) po) (iq : ∀ r ∈ po, I64 r) (h9q : po.length ≤ maxLen)
    (y0 d0 d1 d2 d3 d4 N : Nat) (g : Bool) (ey : pickN y 100 = y0) (eg : decide (pickN y 7 = 0) = g) (e0 : pickN x0 300 = d0) (e1 : pickN x1 9 = d1) (e2 : pickN x2 4 = d2) (e3 : pickN x3 20 = d3) (e4 : pickN x4 20 = d4) (eN : pickOf n 40 = (N : Int)) (ON : List Int) (eO : pickSet N on = ON) (l m : List Pr) (el : tokL pr = l) (em : tokL po = m) :
    Calls Tryz.prog 6 #[.agg #[.int .i64 x0, .int .i64 x1, .int .i64 x2, .int .i64 x3, .int .i64 x4, .int .i64 n, .slice A on.length c, .slice B pr.length k, .bool b], .int .i64 y, .slice C po.length j] w (AggAns y0 g m d0 d1 d2 d3 d4 N ON b l w) := by
  have l0 := pickN_lt y 100 (by decide)
  have c0 := fun W => pick6_any y 100 W by_ (by decide) (by decide)
  have c1 := fun W => pick6_any y 7 W by_ (by decide) (by decide)
  rw [ey] at l0 c0
  have hsp : (((pickN y 7 : Nat) : Int) == 0) = g := by rw [← eg]; cases h : decide (pickN y 7 = 0) <;> simp at h ⊢ <;> omega
  generalize pickN y 7 = y7 at c1 hsp
  have cT := fun W (hv : Ints W W.heap.size (.slice C po.length j) po) => Token_new (.slice C po.length j) po g W hv iq h9q
  rw [em] at cT
  have cV := fun W (ho : Ints W W.heap.size (.slice A on.length c) on) (hp : Ints W W.heap.size (.slice B pr.length k) pr) => rawVote_any x0 x1 x2 x3 x4 n on pr A B c k b W b0 b1 b2 b3 b4 bn ho io hp ip h9 d0 d1 d2 d3 d4 N e0 e1 e2 e3 e4 eN ON eO l el
  clear e0 e1 e2 e3 e4 eN eO el b0 b1 b2 b3 b4 bn io ip h9 iq h9q by_ ey eg em
  have q0 : IntKind.u64.wrap (y0 : Int) = (y0 : Int) := wrap_u64 (by omega)
  clear l0
  go_enter Tryz.func6, Tryz.ntmps6
  go_upto_region 1 with (fail)
  obtain ⟨wx, hwx⟩ : ∃ wx, wx = (w.alloc (.cells #[.int .i64 x0, .int .i64 x1, .int .i64 x2, .int .i64 x3, .int .i64 x4, .int .i64 n, .slice A on.length c, .slice B pr.length k, .bool b] 35)).alloc (.cells #[.int .u64 0, .bool false, .slice none 0 0, .int .u64 0, .int .u64 0, .int .u64 0, .int .u64 0, .int .u64 0, .int .i64 0, .slice none 0 0, .bool false, .slice none 0 0] 41) := ⟨_, rfl⟩
  have hbw : Below w.heap.size w wx := by rw [hwx]; exact ((Below.refl _ _).alloc (Nat.le_refl _) _).alloc (by simp) _
  have RX : RowAt wx w.heap.size 35 [.int .i64 x0, .int .i64 x1, .int .i64 x2, .int .i64 x3, .int .i64 x4, .int .i64 n, .slice A on.length c, .slice B pr.length k, .bool b] := by rw [hwx]; exact (RowAt.new w 35 #[.int .i64 x0, .int .i64 x1, .int .i64 x2, .int .i64 x3, .int .i64 x4, .int .i64 n, .slice A on.length c, .slice B pr.length k, .bool b]).alloc _
  have RV : RowAt wx (w.heap.size + 1) 41 [.int .u64 0, .bool false, .slice none 0 0, .int .u64 0, .int .u64 0, .int .u64 0, .int .u64 0, .int .u64 0, .int .i64 0, .slice none 0 0, .bool false, .slice none 0 0] := by
    have := RowAt.new (w.alloc (.cells #[.int .i64 x0, .int .i64 x1, .int .i64 x2, .int .i64 x3, .int .i64 x4, .int .i64 n, .slice A on.length c, .slice B pr.length k, .bool b] 35)) 41 #[.int .u64 0, .bool false, .slice none 0 0, .int .u64 0, .int .u64 0, .int .u64 0, .int .u64 0, .int .u64 0, .int .i64 0, .slice none 0 0, .bool false, .slice none 0 0]
    rw [World.size_alloc] at this
    rw [hwx]; exact this
  rw [← hwx]
  clear hwx
  have hz1 : w.heap.size < wx.heap.size := RX.lt
  have hz2 : w.heap.size + 1 < wx.heap.size := RV.lt
  have hbd : Below wx.heap.size wx wx.drew := (Below.refl _ wx).drew
  have HI : ∀ {A : Option Addr} {q : Nat} {xs : List Int} W, Ints w w.heap.size (.slice A xs.length q) xs → Below wx.heap.size wx W → Ints W W.heap.size (.slice A xs.length q) xs := fun W h hW => ((h.below hbw (Nat.le_refl _)).below hW (Nat.le_of_lt hz1)).more (Nat.le_trans (Nat.le_of_lt hz1) hW.size)
  have f0 : wx.cell? ⟨w.heap.size, 0, none⟩ = some (.int .i64 x0) := (by rw [RX.cell]; rfl)
  have f1 : wx.cell? ⟨w.heap.size, 1, none⟩ = some (.int .i64 x1) := (by rw [RX.cell]; rfl)
  have f2 : wx.cell? ⟨w.heap.size, 2, none⟩ = some (.int .i64 x2) := (by rw [RX.cell]; rfl)
  have f3 : wx.cell? ⟨w.heap.size, 3, none⟩ = some (.int .i64 x3) := (by rw [RX.cell]; rfl)
  have f4 : wx.cell? ⟨w.heap.size, 4, none⟩ = some (.int .i64 x4) := (by rw [RX.cell]; rfl)
  have f5 : wx.cell? ⟨w.heap.size, 5, none⟩ = some (.int .i64 n) := (by rw [RX.cell]; rfl)
  have f6 : wx.cell? ⟨w.heap.size, 6, none⟩ = some (.slice A on.length c) := (by rw [RX.cell]; rfl)
  have f7 : wx.cell? ⟨w.heap.size, 7, none⟩ = some (.slice B pr.length k) := (by rw [RX.cell]; rfl)
  have f8 : wx.cell? ⟨w.heap.size, 8, none⟩ = some (.bool b) := (by rw [RX.cell]; rfl)
  have v0 := RV.cell 0
  have v1 := RV.cell 1
  have v2 := RV.cell 2
  have v3 := RV.cell 3
  have v4 := RV.cell 4
  have v5 := RV.cell 5
  have v6 := RV.cell 6
  have v7 := RV.cell 7
  have v8 := RV.cell 8
  have v9 := RV.cell 9
  have v10 := RV.cell 10
  have v11 := RV.cell 11
  have z0 := RV.frozen 0
  have z1 := RV.frozen 1
  have z2 := RV.frozen 2
  have z3 := RV.frozen 3
  have z4 := RV.frozen 4
  have z5 := RV.frozen 5
  have z6 := RV.frozen 6
  have z7 := RV.frozen 7
  have z8 := RV.frozen 8
  have z9 := RV.frozen 9
  have z10 := RV.frozen 10
  have z11 := RV.frozen 11
  simp only [List.getElem?_cons_succ, List.getElem?_cons_zero] at v0 v1 v2 v3 v4 v5 v6 v7 v8 v9 v10 v11
  go_region_held3 (fun w' => w'.cell? ⟨w.heap.size, 0, none⟩ = some (.int .i64 x0) ∧ w'.cell? ⟨w.heap.size, 1, none⟩ = some (.int .i64 x1) ∧ w'.cell? ⟨w.heap.size, 2, none⟩ = some (.int .i64 x2) ∧ w'.cell? ⟨w.heap.size, 3, none⟩ = some (.int .i64 x3) ∧ w'.cell? ⟨w.heap.size, 4, none⟩ = some (.int .i64 x4) ∧ w'.cell? ⟨w.heap.size, 5, none⟩ = some (.int .i64 n) ∧ w'.cell? ⟨w.heap.size, 6, none⟩ = some (.slice A on.length c) ∧ w'.cell? ⟨w.heap.size, 7, none⟩ = some (.slice B pr.length k) ∧ w'.cell? ⟨w.heap.size, 8, none⟩ = some (.bool b)) (first | with_reducible exact ⟨f0, f1, f2, f3, f4, f5, f6, f7, f8⟩ | go_keep)
    (first
      | ((with_reducible refine (c0 _).mono ?_); rintro e w1 ⟨rfl, rfl⟩)
      | ((with_reducible refine (c1 _).mono ?_); rintro e w1 ⟨rfl, rfl⟩)
      | ((with_reducible refine (cT _ (HI _ hq hbd)).mono ?_); rintro e w4 ⟨x, rfl, tM, hb4, nM⟩; obtain ⟨C', j', rfl, _, _⟩ := tM.form; have hb4' : Below wx.heap.size wx w4 := hbd.trans hb4; have RX4 := RX.below hb4' hz1; have RV4 := RV.below hb4' hz2; have f0 : w4.cell? ⟨w.heap.size, 0, none⟩ = some (.int .i64 x0) := (by rw [RX4.cell]; rfl); have f1 : w4.cell? ⟨w.heap.size, 1, none⟩ = some (.int .i64 x1) := (by rw [RX4.cell]; rfl); have f2 : w4.cell? ⟨w.heap.size, 2, none⟩ = some (.int .i64 x2) := (by rw [RX4.cell]; rfl); have f3 : w4.cell? ⟨w.heap.size, 3, none⟩ = some (.int .i64 x3) := (by rw [RX4.cell]; rfl); have f4 : w4.cell? ⟨w.heap.size, 4, none⟩ = some (.int .i64 x4) := (by rw [RX4.cell]; rfl); have f5 : w4.cell? ⟨w.heap.size, 5, none⟩ = some (.int .i64 n) := (by rw [RX4.cell]; rfl); have f6 : w4.cell? ⟨w.heap.size, 6, none⟩ = some (.slice A on.length c) := (by rw [RX4.cell]; rfl); have f7 : w4.cell? ⟨w.heap.size, 7, none⟩ = some (.slice B pr.length k) := (by rw [RX4.cell]; rfl); have f8 : w4.cell? ⟨w.heap.size, 8, none⟩ = some (.bool b) := (by rw [RX4.cell]; rfl); have v0 := RV4.cell 0; have v1 := RV4.cell 1; have v2 := RV4.cell 2; have v3 := RV4.cell 3; have v4 := RV4.cell 4; have v5 := RV4.cell 5; have v6 := RV4.cell 6; have v7 := RV4.cell 7; have v8 := RV4.cell 8; have v9 := RV4.cell 9; have v10 := RV4.cell 10; have v11 := RV4.cell 11; have z0 := RV4.frozen 0; have z1 := RV4.frozen 1; have z2 := RV4.frozen 2; have z3 := RV4.frozen 3; have z4 := RV4.frozen 4; have z5 := RV4.frozen 5; have z6 := RV4.frozen 6; have z7 := RV4.frozen 7; have z8 := RV4.frozen 8; have z9 := RV4.frozen 9; have z10 := RV4.frozen 10; have z11 := RV4.frozen 11; simp only [List.getElem?_cons_succ, List.getElem?_cons_zero] at v0 v1 v2 v3 v4 v5 v6 v7 v8 v9 v10 v11)
      | ((with_reducible refine (cV _ (HI _ ho hb4') (HI _ hp hb4')).mono ?_); rintro e w6 ⟨A', c', B', k', rfl, tB, tT, hb6, nB, nT⟩; have hb6' : Below wx.heap.size wx w6 := hb4'.trans (hb6.mono hb4'.size); have RX6 := RX.below hb6' hz1; have RV6 := RV.below hb6' hz2; have tM6 := tM.on hb6; have f0 : w6.cell? ⟨w.heap.size, 0, none⟩ = some (.int .i64 x0) := (by rw [RX6.cell]; rfl); have f1 : w6.cell? ⟨w.heap.size, 1, none⟩ = some (.int .i64 x1) := (by rw [RX6.cell]; rfl); have f2 : w6.cell? ⟨w.heap.size, 2, none⟩ = some (.int .i64 x2) := (by rw [RX6.cell]; rfl); have f3 : w6.cell? ⟨w.heap.size, 3, none⟩ = some (.int .i64 x3) := (by rw [RX6.cell]; rfl); have f4 : w6.cell? ⟨w.heap.size, 4, none⟩ = some (.int .i64 x4) := (by rw [RX6.cell]; rfl); have f5 : w6.cell? ⟨w.heap.size, 5, none⟩ = some (.int .i64 n) := (by rw [RX6.cell]; rfl); have f6 : w6.cell? ⟨w.heap.size, 6, none⟩ = some (.slice A on.length c) := (by rw [RX6.cell]; rfl); have f7 : w6.cell? ⟨w.heap.size, 7, none⟩ = some (.slice B pr.length k) := (by rw [RX6.cell]; rfl); have f8 : w6.cell? ⟨w.heap.size, 8, none⟩ = some (.bool b) := (by rw [RX6.cell]; rfl); have v0 := RV6.cell 0; have v1 := RV6.cell 1; have v2 := RV6.cell 2; have v3 := RV6.cell 3; have v4 := RV6.cell 4; have v5 := RV6.cell 5; have v6 := RV6.cell 6; have v7 := RV6.cell 7; have v8 := RV6.cell 8; have v9 := RV6.cell 9; have v10 := RV6.cell 10; have v11 := RV6.cell 11; have z0 := RV6.frozen 0; have z1 := RV6.frozen 1; have z2 := RV6.frozen 2; have z3 := RV6.frozen 3; have z4 := RV6.frozen 4; have z5 := RV6.frozen 5; have z6 := RV6.frozen 6; have z7 := RV6.frozen 7; have z8 := RV6.frozen 8; have z9 := RV6.frozen 9; have z10 := RV6.frozen 10; have z11 := RV6.frozen 11; simp only [List.getElem?_cons_succ, List.getElem?_cons_zero] at v0 v1 v2 v3 v4 v5 v6 v7 v8 v9 v10 v11))
  have hbz := hbw.trans (hb6'.mono hbw.size)
  have hbz' := ((((((((((((hbz.setCell (p := ⟨w.heap.size + 1, 0, none⟩) (show w.heap.size ≤ w.heap.size + 1 by omega) (.int .u64 (y0 : Int))).setCell (p := ⟨w.heap.size + 1, 1, none⟩) (show w.heap.size ≤ w.heap.size + 1 by omega) (.bool g)).setCell (p := ⟨w.heap.size + 1, 2, none⟩) (show w.heap.size ≤ w.heap.size + 1 by omega) (.slice C' m.length j')).setCell (p := ⟨w.heap.size + 1, 3, none⟩) (show w.heap.size ≤ w.heap.size + 1 by omega) (.int .u64 (d0 : Int))).setCell (p := ⟨w.heap.size + 1, 4, none⟩) (show w.heap.size ≤ w.heap.size + 1 by omega) (.int .u64 (d1 : Int))).setCell (p := ⟨w.heap.size + 1, 5, none⟩) (show w.heap.size ≤ w.heap.size + 1 by omega) (.int .u64 (d2 : Int))).setCell (p := ⟨w.heap.size + 1, 6, none⟩) (show w.heap.size ≤ w.heap.size + 1 by omega) (.int .u64 (d3 : Int))).setCell (p := ⟨w.heap.size + 1, 7, none⟩) (show w.heap.size ≤ w.heap.size + 1 by omega) (.int .u64 (d4 : Int))).setCell (p := ⟨w.heap.size + 1, 8, none⟩) (show w.heap.size ≤ w.heap.size + 1 by omega) (.int .i64 (N : Int))).setCell (p := ⟨w.heap.size + 1, 9, none⟩) (show w.heap.size ≤ w.heap.size + 1 by omega) (.slice A' ON.length c')).setCell (p := ⟨w.heap.size + 1, 10, none⟩) (show w.heap.size ≤ w.heap.size + 1 by omega) (.bool b)).setCell (p := ⟨w.heap.size + 1, 11, none⟩) (show w.heap.size ≤ w.heap.size + 1 by omega) (.slice B' l.length k'))
  have RF := ((((((((((((RV6.set 0 (.int .u64 (y0 : Int))).set 1 (.bool g)).set 2 (.slice C' m.length j')).set 3 (.int .u64 (d0 : Int))).set 4 (.int .u64 (d1 : Int))).set 5 (.int .u64 (d2 : Int))).set 6 (.int .u64 (d3 : Int))).set 7 (.int .u64 (d4 : Int))).set 8 (.int .i64 (N : Int))).set 9 (.slice A' ON.length c')).set 10 (.bool b)).set 11 (.slice B' l.length k'))
  simp only [List.set_cons_zero, List.set_cons_succ] at RF
  have tMF := ((((((((((((tM6.setNew nM (show w.heap.size + 1 < wx.heap.size from hz2) (p := ⟨w.heap.size + 1, 0, none⟩) (.int .u64 (y0 : Int))).setNew nM (show w.heap.size + 1 < wx.heap.size from hz2) (p := ⟨w.heap.size + 1, 1, none⟩) (.bool g)).setNew nM (show w.heap.size + 1 < wx.heap.size from hz2) (p := ⟨w.heap.size + 1, 2, none⟩) (.slice C' m.length j')).setNew nM (show w.heap.size + 1 < wx.heap.size from hz2) (p := ⟨w.heap.size + 1, 3, none⟩) (.int .u64 (d0 : Int))).setNew nM (show w.heap.size + 1 < wx.heap.size from hz2) (p := ⟨w.heap.size + 1, 4, none⟩) (.int .u64 (d1 : Int))).setNew nM (show w.heap.size + 1 < wx.heap.size from hz2) (p := ⟨w.heap.size + 1, 5, none⟩) (.int .u64 (d2 : Int))).setNew nM (show w.heap.size + 1 < wx.heap.size from hz2) (p := ⟨w.heap.size + 1, 6, none⟩) (.int .u64 (d3 : Int))).setNew nM (show w.heap.size + 1 < wx.heap.size from hz2) (p := ⟨w.heap.size + 1, 7, none⟩) (.int .u64 (d4 : Int))).setNew nM (show w.heap.size + 1 < wx.heap.size from hz2) (p := ⟨w.heap.size + 1, 8, none⟩) (.int .i64 (N : Int))).setNew nM (show w.heap.size + 1 < wx.heap.size from hz2) (p := ⟨w.heap.size + 1, 9, none⟩) (.slice A' ON.length c')).setNew nM (show w.heap.size + 1 < wx.heap.size from hz2) (p := ⟨w.heap.size + 1, 10, none⟩) (.bool b)).setNew nM (show w.heap.size + 1 < wx.heap.size from hz2) (p := ⟨w.heap.size + 1, 11, none⟩) (.slice B' l.length k'))
  have tBF := ((((((((((((tB.setNew nB (show w.heap.size + 1 < w4.heap.size from RV4.lt) (p := ⟨w.heap.size + 1, 0, none⟩) (.int .u64 (y0 : Int))).setNew nB (show w.heap.size + 1 < w4.heap.size from RV4.lt) (p := ⟨w.heap.size + 1, 1, none⟩) (.bool g)).setNew nB (show w.heap.size + 1 < w4.heap.size from RV4.lt) (p := ⟨w.heap.size + 1, 2, none⟩) (.slice C' m.length j')).setNew nB (show w.heap.size + 1 < w4.heap.size from RV4.lt) (p := ⟨w.heap.size + 1, 3, none⟩) (.int .u64 (d0 : Int))).setNew nB (show w.heap.size + 1 < w4.heap.size from RV4.lt) (p := ⟨w.heap.size + 1, 4, none⟩) (.int .u64 (d1 : Int))).setNew nB (show w.heap.size + 1 < w4.heap.size from RV4.lt) (p := ⟨w.heap.size + 1, 5, none⟩) (.int .u64 (d2 : Int))).setNew nB (show w.heap.size + 1 < w4.heap.size from RV4.lt) (p := ⟨w.heap.size + 1, 6, none⟩) (.int .u64 (d3 : Int))).setNew nB (show w.heap.size + 1 < w4.heap.size from RV4.lt) (p := ⟨w.heap.size + 1, 7, none⟩) (.int .u64 (d4 : Int))).setNew nB (show w.heap.size + 1 < w4.heap.size from RV4.lt) (p := ⟨w.heap.size + 1, 8, none⟩) (.int .i64 (N : Int))).setNew nB (show w.heap.size + 1 < w4.heap.size from RV4.lt) (p := ⟨w.heap.size + 1, 9, none⟩) (.slice A' ON.length c')).setNew nB (show w.heap.size + 1 < w4.heap.size from RV4.lt) (p := ⟨w.heap.size + 1, 10, none⟩) (.bool b)).setNew nB (show w.heap.size + 1 < w4.heap.size from RV4.lt) (p := ⟨w.heap.size + 1, 11, none⟩) (.slice B' l.length k'))
  have tTF := ((((((((((((tT.setNew nT (show w.heap.size + 1 < w4.heap.size from RV4.lt) (p := ⟨w.heap.size + 1, 0, none⟩) (.int .u64 (y0 : Int))).setNew nT (show w.heap.size + 1 < w4.heap.size from RV4.lt) (p := ⟨w.heap.size + 1, 1, none⟩) (.bool g)).setNew nT (show w.heap.size + 1 < w4.heap.size from RV4.lt) (p := ⟨w.heap.size + 1, 2, none⟩) (.slice C' m.length j')).setNew nT (show w.heap.size + 1 < w4.heap.size from RV4.lt) (p := ⟨w.heap.size + 1, 3, none⟩) (.int .u64 (d0 : Int))).setNew nT (show w.heap.size + 1 < w4.heap.size from RV4.lt) (p := ⟨w.heap.size + 1, 4, none⟩) (.int .u64 (d1 : Int))).setNew nT (show w.heap.size + 1 < w4.heap.size from RV4.lt) (p := ⟨w.heap.size + 1, 5, none⟩) (.int .u64 (d2 : Int))).setNew nT (show w.heap.size + 1 < w4.heap.size from RV4.lt) (p := ⟨w.heap.size + 1, 6, none⟩) (.int .u64 (d3 : Int))).setNew nT (show w.heap.size + 1 < w4.heap.size from RV4.lt) (p := ⟨w.heap.size + 1, 7, none⟩) (.int .u64 (d4 : Int))).setNew nT (show w.heap.size + 1 < w4.heap.size from RV4.lt) (p := ⟨w.heap.size + 1, 8, none⟩) (.int .i64 (N : Int))).setNew nT (show w.heap.size + 1 < w4.heap.size from RV4.lt) (p := ⟨w.heap.size + 1, 9, none⟩) (.slice A' ON.length c')).setNew nT (show w.heap.size + 1 < w4.heap.size from RV4.lt) (p := ⟨w.heap.size + 1, 10, none⟩) (.bool b)).setNew nT (show w.heap.size + 1 < w4.heap.size from RV4.lt) (p := ⟨w.heap.size + 1, 11, none⟩) (.slice B' l.length k'))
  have nMw := nM.less (Nat.le_of_lt hz1)
  have nBw := nB.less (Nat.le_of_lt RX4.lt)
  have nTw := nT.less (Nat.le_of_lt RX4.lt)
  have e0 := RF.cell 0
  have e1 := RF.cell 1
  have e2 := RF.cell 2
  have e3 := RF.cell 3
  have e4 := RF.cell 4
  have e5 := RF.cell 5
  have e6 := RF.cell 6
  have e7 := RF.cell 7
  have e8 := RF.cell 8
  have e9 := RF.cell 9
  have e10 := RF.cell 10
  have e11 := RF.cell 11
  simp only [List.getElem?_cons_succ, List.getElem?_cons_zero] at e0 e1 e2 e3 e4 e5 e6 e7 e8 e9 e10 e11
  generalize ((((((((((((w6.setCell ⟨w.heap.size + 1, 0, none⟩ (.int .u64 (y0 : Int))).setCell ⟨w.heap.size + 1, 1, none⟩ (.bool g)).setCell ⟨w.heap.size + 1, 2, none⟩ (.slice C' m.length j')).setCell ⟨w.heap.size + 1, 3, none⟩ (.int .u64 (d0 : Int))).setCell ⟨w.heap.size + 1, 4, none⟩ (.int .u64 (d1 : Int))).setCell ⟨w.heap.size + 1, 5, none⟩ (.int .u64 (d2 : Int))).setCell ⟨w.heap.size + 1, 6, none⟩ (.int .u64 (d3 : Int))).setCell ⟨w.heap.size + 1, 7, none⟩ (.int .u64 (d4 : Int))).setCell ⟨w.heap.size + 1, 8, none⟩ (.int .i64 (N : Int))).setCell ⟨w.heap.size + 1, 9, none⟩ (.slice A' ON.length c')).setCell ⟨w.heap.size + 1, 10, none⟩ (.bool b)).setCell ⟨w.heap.size + 1, 11, none⟩ (.slice B' l.length k')) = wf at *
  go_wp2_with fail
  refine bodyPost_ret (v := .agg #[.int .u64 (y0 : Int), .bool g, .slice C' m.length j', .int .u64 (d0 : Int), .int .u64 (d1 : Int), .int .u64 (d2 : Int), .int .u64 (d3 : Int), .int .u64 (d4 : Int), .int .i64 (N : Int), .slice A' ON.length c', .bool b, .slice B' l.length k']) (by simp [results, Tryz.results6, go_sem, e0, e1, e2, e3, e4, e5, e6, e7, e8, e9, e10, e11]) rfl ?_
  exact ⟨C', j', A', c', B', k', rfl, tMF, tBF, tTF, hbz', nMw, nBw, nTw⟩
end Go.Proofs.YtieheieiolobaaaGreatDoor
