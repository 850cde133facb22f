/- turned; small steps for BitsTells. -/
import Derived.Test.YtpojpikndlcbkaaRBitF
namespace Go.Proofs.Ytpojpikndlcbkaa
open Go.RowKit Go.Shelf

set_option maxHeartbeats 2000000 in
theorem turned_any (s : ByteArray) (at_ : Int) (cb : UInt8) (w : World) (hs : s.size ≤ 1000) (ha : -9223372036854775808 ≤ at_ ∧ at_ ≤ 9223372036854775807) :
    Calls Try.prog 22 #[.string s, .int .i64 at_, .int .u8 (cb.toNat : Int)] w fun e w' => ∃ t : ByteArray, e = .returned (.string t) ∧ t.size ≤ 3000 ∧ Below w.heap.size w w' := by
  rcases Nat.eq_zero_or_pos s.size with h0 | h0
  · have hd : ((s.size : Int) == 0) = true := by rw [h0]; rfl
    have h1 : s.size ≤ 3000 := by omega
    have H1 := Lib.hid h1
    clear h0 h1
    go_enter Try.func22, Try.ntmps22
    go_wp2_with fail
    go_ret
    exact ⟨s, rfl, H1.out, Below.refl _ _⟩
  · have hd : ((s.size : Int) == 0) = false := by simp only [beq_eq_false_iff_ne, ne_eq]; omega
    have HP := pick_any at_ (s.size : Int) w ha (by omega) (by omega)
    obtain ⟨K, hK, hK2⟩ := pick_nat at_ (s.size : Int) (by omega)
    rw [hK] at HP
    clear hK
    have hrow := RowAt.new w 5 #[.int .u8 (cb.toNat : Int)]
    have hcv1 := back_bytes 1 w.heap.size 1 [cb] (w.alloc (.cells #[.int .u8 (cb.toNat : Int)] 5)) rfl hrow
    have hcv2 := back_bytes 1 w.heap.size 1 [cb] (w.alloc (.cells #[.int .u8 (cb.toNat : Int)] 5)).drew rfl hrow
    clear hrow
    have hone : (⟨[cb].toArray⟩ : ByteArray).size = 1 := by simp [ByteArray.size]
    generalize (⟨[cb].toArray⟩ : ByteArray) = ONE at *
    have e1 : (s.extract 0 K).size ≤ 1000 := by rw [ByteArray.size_extract]; omega
    have e2 : (s.extract (K + 1) s.size).size ≤ 1000 := by rw [ByteArray.size_extract]; omega
    have HE1 := Lib.hid e1
    have HE2 := Lib.hid e2
    have HO := Lib.hid hone
    have e3 : K ≤ s.size := by omega
    have e4 : (K : Int) + 1 ≤ (s.size : Int) := by omega
    have e5 : (s.extract 0 K ++ ONE).size ≤ 1001 := by rw [ByteArray.size_append]; omega
    go_enter Try.func22, Try.ntmps22
    go_wp2_with fail
    with_reducible refine HP.mono ?_
    rintro e w1 ⟨rfl, rfl⟩
    go_wp2_with fail
    go_region
    all_goals
      go_wp2_with fail
      go_ret
      refine ⟨s.extract 0 K ++ ONE ++ s.extract (K + 1) s.size, rfl, ?_, ((Below.refl _ w).alloc (Nat.le_refl _) _).drew⟩
      have h1 := HE1.out
      have h2 := HE2.out
      have h3 := HO.out
      rw [ByteArray.size_append, ByteArray.size_append]
      omega

theorem BtRow.three {w : World} {n m l : Int} {a b c : List Int} {u v x : Value} (h : Ints w w.heap.size u a) (h' : Ints w w.heap.size v b) (h'' : Ints w w.heap.size x c) (t : TypeId) (B : Nat) (hB : w.heap.size = B) : BtRow (w.alloc (.cells #[.int .i64 n, u, .int .i64 m, v, .int .i64 l, x] t)) (.slice (some ⟨B, 0, none⟩) 3 3) [(n, a), (m, b), (l, c)] := by
  subst hB
  refine ⟨_, 3, rfl, Nat.le_refl _, fun _ => ⟨⟨w.heap.size, 0, none⟩, rfl, by simp, fun j y hj => ?_⟩⟩
  have hr := RowAt.new w t #[.int .i64 n, u, .int .i64 m, v, .int .i64 l, x]
  match j, hj with
  | 0, hj =>
    simp at hj
    subst hj
    exact ⟨u, hr.cell 0, hr.cell 1, h.alloc _⟩
  | 1, hj =>
    simp at hj
    subst hj
    exact ⟨v, hr.cell 2, hr.cell 3, h'.alloc _⟩
  | 2, hj =>
    simp at hj
    subst hj
    exact ⟨x, hr.cell 4, hr.cell 5, h''.alloc _⟩
theorem BtRow.pick {w : World} {g : Nat} {bs : List (Int × List Int)} {k L c : Nat} (h : BtRow w (.slice (some ⟨g, 0, none⟩) L c) bs) (hk : k < bs.length) :
    ∃ (n : Int) (on : List Int) (A : Option Addr) (c : Nat), bs[k]? = some (n, on) ∧ w.cell? ⟨g, k * 2, none⟩ = some (.int .i64 n) ∧ w.cell? ⟨g, k * 2 + 1, none⟩ = some (.slice A on.length c) ∧ Bt w (.agg #[.int .i64 n, .slice A on.length c]) n on := by
  obtain ⟨ad, u, had, -, h0, h1, hu⟩ := h.at_ hk
  injection had with had
  subst had
  rw [addr0] at h0 h1
  obtain ⟨A, c, rfl, -⟩ := hu.form
  exact ⟨_, _, A, c, List.getElem?_eq_getElem hk, h0, h1, _, rfl, hu⟩
theorem onsOf_len (l : List UInt8) : (onsOf l).length ≤ 8 * l.length := onsTo_length _ _
theorem unlist_len (l : List UInt8) (k : Int) (h : l.length ≤ 3000) : (unlistOf l k).2.1.length ≤ maxLen := by
  have h9 : maxLen = 9223372036854775807 := rfl
  have := onsOf_len l
  unfold unlistOf
  split
  · simp
  split
  · simp
  · simp only [List.length_dropLast]; omega
theorem unvec_len (l : List UInt8) (k : Int) (h : l.length ≤ 3000) : (unvecOf l k).2.1.length ≤ maxLen := by
  have h9 : maxLen = 9223372036854775807 := rfl
  have := onsOf_len l
  unfold unvecOf
  split
  · simp
  split
  · simp
  split
  · simp
  · show (onsOf l).length ≤ maxLen; omega
theorem unionOf_len (n : Int) (on : List Int) (more : List (Int × List Int)) : (unionOf n on more).2.1.length ≤ maxLen := by
  have h9 : maxLen = 9223372036854775807 := rfl
  unfold unionOf
  split
  · rename_i h
    simp only [Bool.and_eq_true] at h
    have hn := ((rightB_iff _ _).1 h.1).1
    have h2 := onsOf_len (putBits (vecOf n on) (more.flatMap (·.2)))
    rw [putBits_length, vecOf_length] at h2
    show (onsOf _).length ≤ maxLen
    omega
  · simp
theorem rUnion_eq (n : Int) (on : List Int) (v : Value) (more : List (Int × List Int)) (N err : Int) (res : List Int) (w : World) (h : unionOf n on more = (N, res, err)) (hm : BtRow w v ((n, on) :: more)) (h9m : ∀ b ∈ ((n, on) :: more), b.2.length ≤ maxLen) (hml : more.length ≤ 1000) :
    Calls Try.prog 16 #[v] w fun e w' => ∃ A c, e = .returned (.tuple #[.agg #[.int .i64 N, .slice A res.length c], .int .i64 err]) ∧ Bt w' (.agg #[.int .i64 N, .slice A res.length c]) N res ∧ Below w.heap.size w w' := by
  refine (rUnion_any n on more v w hm h9m hml).mono ?_
  rintro e w' ⟨x, rfl, hx, hb⟩
  rw [h] at hx ⊢
  obtain ⟨A, c, rfl, _, _⟩ := hx.form
  exact ⟨A, c, rfl, hx, hb⟩
theorem rUnlist_eq (s : ByteArray) (most N err : Int) (on : List Int) (w : World) (h : unlistOf s.data.toList most = (N, on, err)) (hs : s.size ≤ 1000000) :
    Calls Try.prog 24 #[.string s, .int .i64 most] w fun e w' => ∃ A c, e = .returned (.tuple #[.agg #[.int .i64 N, .slice A on.length c], .int .i64 err]) ∧ Bt w' (.agg #[.int .i64 N, .slice A on.length c]) N on ∧ Below w.heap.size w w' := by
  refine (rUnlist_any s most w hs).mono ?_
  rintro e w' ⟨x, rfl, hx, hb⟩
  rw [h] at hx ⊢
  obtain ⟨A, c, rfl, _, _⟩ := hx.form
  exact ⟨A, c, rfl, hx, hb⟩
theorem rUnvector_eq (s : ByteArray) (n N err : Int) (on : List Int) (w : World) (h : unvecOf s.data.toList n = (N, on, err)) (hs : s.size ≤ 1000000) :
    Calls Try.prog 26 #[.string s, .int .i64 n] w fun e w' => ∃ A c, e = .returned (.tuple #[.agg #[.int .i64 N, .slice A on.length c], .int .i64 err]) ∧ Bt w' (.agg #[.int .i64 N, .slice A on.length c]) N on ∧ Below w.heap.size w w' := by
  refine (rUnvector_any s n w hs).mono ?_
  rintro e w' ⟨x, rfl, hx, hb⟩
  rw [h] at hx ⊢
  obtain ⟨A, c, rfl, _, _⟩ := hx.form
  exact ⟨A, c, rfl, hx, hb⟩
theorem rList_eq (x : Value) (n : Int) (on : List Int) (w : World) (t : ByteArray) (err : Int) (ht : (⟨(lstOf n on).toArray⟩ : ByteArray) = t) (he : argErr (rightB n on) = err) (hx : Bt w x n on) (h9 : on.length ≤ maxLen) :
    Calls Try.prog 7 #[x] w fun e w' => e = .returned (.tuple #[.string t, .int .i64 err]) ∧ Below w.heap.size w w' := by
  subst ht he; exact rList_any x n on w hx h9
theorem rVector_eq (x : Value) (n : Int) (on : List Int) (w : World) (t : ByteArray) (err : Int) (ht : (⟨(vctOf n on).toArray⟩ : ByteArray) = t) (he : argErr (rightB n on) = err) (hx : Bt w x n on) (h9 : on.length ≤ maxLen) :
    Calls Try.prog 9 #[x] w fun e w' => e = .returned (.tuple #[.string t, .int .i64 err]) ∧ Below w.heap.size w w' := by
  subst ht he; exact rVector_any x n on w hx h9
end Go.Proofs.Ytpojpikndlcbkaa
