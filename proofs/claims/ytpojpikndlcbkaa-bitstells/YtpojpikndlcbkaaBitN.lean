/- awake: the first calls of layer 2, whose answers are fixed. -/
import Derived.Test.YtpojpikndlcbkaaBitM
namespace Go.Proofs.Ytpojpikndlcbkaa
open Go.RowKit Go.Shelf

theorem Unlist_eq (s : ByteArray) (most N err : Int) (on : List Int) (w : World) (h : unlistOf s.data.toList most = (N, on, err)) (hs : s.size ≤ 1000000000000000) :
    Calls Try.prog 23 #[.string s, .int .i64 most] w fun e w' => ∃ A c, e = .returned (.tuple #[.agg #[.int .i64 N, .slice A on.length c], .int .i64 err]) ∧ Bt w' (.agg #[.int .i64 N, .slice A on.length c]) N on ∧ Below w.heap.size w w' := by
  refine (Unlist_any s most w hs).mono ?_
  rintro e w' ⟨x, rfl, hx, hb⟩
  rw [h] at hx ⊢
  obtain ⟨A, c, rfl, _, _⟩ := hx.form
  exact ⟨A, c, rfl, hx, hb⟩
theorem Unvector_eq (s : ByteArray) (n N err : Int) (on : List Int) (w : World) (h : unvecOf s.data.toList n = (N, on, err)) :
    Calls Try.prog 25 #[.string s, .int .i64 n] w fun e w' => ∃ A c, e = .returned (.tuple #[.agg #[.int .i64 N, .slice A on.length c], .int .i64 err]) ∧ Bt w' (.agg #[.int .i64 N, .slice A on.length c]) N on ∧ Below w.heap.size w w' := by
  refine (Unvector_any s n w).mono ?_
  rintro e w' ⟨x, rfl, hx, hb⟩
  rw [h] at hx ⊢
  obtain ⟨A, c, rfl, _, _⟩ := hx.form
  exact ⟨A, c, rfl, hx, hb⟩
theorem Union_eq (x : Value) (n : Int) (on : List Int) (v : Value) (more : List (Int × List Int)) (N err : Int) (res : List Int) (w : World) (h : unionOf n on more = (N, res, err)) (hx : Bt w x n on) (hm : BtRow w v more) (h9 : on.length ≤ maxLen) (h9m : ∀ b ∈ more, b.2.length ≤ maxLen) (hml : more.length ≤ maxLen) :
    Calls Try.prog 15 #[x, v] w fun e w' => ∃ A c, e = .returned (.tuple #[.agg #[.int .i64 N, .slice A res.length c], .int .i64 err]) ∧ Bt w' (.agg #[.int .i64 N, .slice A res.length c]) N res ∧ Below w.heap.size w w' := by
  refine (Union_any x n on v more w hx hm h9 h9m hml).mono ?_
  rintro e w' ⟨x, rfl, hx, hb⟩
  rw [h] at hx ⊢
  obtain ⟨A, c, rfl, _, _⟩ := hx.form
  exact ⟨A, c, rfl, hx, hb⟩
/-- One more in a row: bits that were built. -/
theorem BtRow.one {w : World} {n : Int} {on : List Int} {v : Value} (h : Ints w w.heap.size v on) (t : TypeId) (B : Nat) (hB : w.heap.size = B) : BtRow (w.alloc (.cells #[.int .i64 n, v] t)) (.slice (some ⟨B, 0, none⟩) 1 1) [(n, on)] := by
  subst hB
  refine ⟨_, 1, rfl, Nat.le_refl _, fun _ => ⟨⟨w.heap.size, 0, none⟩, rfl, by simp, fun j b hj => ?_⟩⟩
  have hr := RowAt.new w t #[.int .i64 n, v]
  cases j with
  | zero =>
    simp at hj
    subst hj
    exact ⟨v, hr.cell 0, hr.cell 1, h.alloc _⟩
  | succ j => simp at hj
theorem BtRow.two {w : World} {n m : Int} {a b : List Int} {u v : Value} (h : Ints w w.heap.size u a) (h' : Ints w w.heap.size v b) (t : TypeId) (B : Nat) (hB : w.heap.size = B) : BtRow (w.alloc (.cells #[.int .i64 n, u, .int .i64 m, v] t)) (.slice (some ⟨B, 0, none⟩) 2 2) [(n, a), (m, b)] := by
  subst hB
  refine ⟨_, 2, rfl, Nat.le_refl _, fun _ => ⟨⟨w.heap.size, 0, none⟩, rfl, by simp, fun j x hj => ?_⟩⟩
  have hr := RowAt.new w t #[.int .i64 n, u, .int .i64 m, v]
  match j, hj with
  | 0, hj =>
    simp at hj
    subst hj
    exact ⟨u, hr.cell 0, hr.cell 1, h.alloc _⟩
  | 1, hj =>
    simp at hj
    subst hj
    exact ⟨v, hr.cell 2, hr.cell 3, h'.alloc _⟩
theorem Bt.ints {w : World} {n : Int} {A : Option Addr} {l c : Nat} {on : List Int} (h : Bt w (.agg #[.int .i64 n, .slice A l c]) n on) : Ints w w.heap.size (.slice A l c) on := by
  obtain ⟨v, e, hv⟩ := h
  have : v = .slice A l c := by
    injection e with e
    have := congrArg (fun (a : Array Value) => a[1]?) e
    simpa using this.symm
  rw [← this]; exact hv
theorem ints_new (w : World) (xs : List Int) (k : Nat) (hk : xs.length = k) (t : TypeId) : Ints (w.alloc (.cells (xs.map (Value.int .i64)).toArray t)) (w.alloc (.cells (xs.map (Value.int .i64)).toArray t)).heap.size (.slice (some ⟨w.heap.size, 0, none⟩) k k) xs := by
  subst hk
  exact Elems.row (by have := RowAt.new w t (xs.map (Value.int .i64)).toArray; simpa using this)
theorem bt_new2 (w : World) (n a b : Int) (t : TypeId) (B : Nat) (hB : w.heap.size = B) : Bt (w.alloc (.cells #[.int .i64 a, .int .i64 b] t)) (.agg #[.int .i64 n, .slice (some ⟨B, 0, none⟩) 2 2]) n [a, b] := by
  subst hB; exact ⟨_, rfl, ints_new w [a, b] 2 rfl t⟩
theorem bt_new1 (w : World) (n a : Int) (t : TypeId) (B : Nat) (hB : w.heap.size = B) : Bt (w.alloc (.cells #[.int .i64 a] t)) (.agg #[.int .i64 n, .slice (some ⟨B, 0, none⟩) 1 1]) n [a] := by
  subst hB; exact ⟨_, rfl, ints_new w [a] 1 rfl t⟩
theorem bt_nil (w : World) (n : Int) : Bt w (.agg #[.int .i64 n, .slice none 0 0]) n [] := ⟨_, rfl, Elems.nil _ _ _⟩

theorem List_eq (x : Value) (n : Int) (on : List Int) (w : World) (t : ByteArray) (err : Int) (ht : (⟨(lstOf n on).toArray⟩ : ByteArray) = t) (he : argErr (rightB n on) = err) (hx : Bt w x n on) (h9 : on.length ≤ maxLen) :
    Calls Try.prog 6 #[x] w fun e w' => e = .returned (.tuple #[.string t, .int .i64 err]) ∧ Below w.heap.size w w' := by
  subst ht he; exact List_any x n on w hx h9
theorem Vector_eq (x : Value) (n : Int) (on : List Int) (w : World) (t : ByteArray) (err : Int) (ht : (⟨(vctOf n on).toArray⟩ : ByteArray) = t) (he : argErr (rightB n on) = err) (hx : Bt w x n on) (h9 : on.length ≤ maxLen) :
    Calls Try.prog 8 #[x] w fun e w' => e = .returned (.tuple #[.string t, .int .i64 err]) ∧ Below w.heap.size w w' := by
  subst ht he; exact Vector_any x n on w hx h9
theorem Same_eq (x y : Value) (n m : Int) (a b : List Int) (w : World) (r : Bool) (hr : sameB n a m b = r) (hx : Bt w x n a) (hy : Bt w y m b) (h9 : a.length ≤ maxLen) (h9b : b.length ≤ maxLen) :
    Calls Try.prog 17 #[x, y] w fun e w' => e = .returned (.bool r) ∧ Below w.heap.size w w' := by
  subst hr; exact Same_any x y n m a b w hx hy h9 h9b
theorem Subset_eq (x y : Value) (n m : Int) (a b : List Int) (w : World) (r : Bool) (hr : subOf n a m b = r) (hx : Bt w x n a) (hy : Bt w y m b) (h9 : a.length ≤ maxLen) (h9b : b.length ≤ maxLen) :
    Calls Try.prog 20 #[x, y] w fun e w' => e = .returned (.bool r) ∧ Below w.heap.size w w' := by
  subst hr; exact Subset_any x y n m a b w hx hy h9 h9b
theorem Disjoint_eq (x y : Value) (n m : Int) (a b : List Int) (w : World) (r : Bool) (hr : disjOf n a m b = r) (hx : Bt w x n a) (hy : Bt w y m b) (h9 : a.length ≤ maxLen) (h9b : b.length ≤ maxLen) :
    Calls Try.prog 18 #[x, y] w fun e w' => e = .returned (.bool r) ∧ Below w.heap.size w w' := by
  subst hr; exact Disjoint_any x y n m a b w hx hy h9 h9b
theorem Has_eq (x : Value) (n : Int) (on : List Int) (i : Int) (w : World) (r : Bool) (hr : hasOf n on i = r) (hx : Bt w x n on) (h9 : on.length ≤ maxLen) :
    Calls Try.prog 12 #[x, .int .i64 i] w fun e w' => e = .returned (.bool r) ∧ Below w.heap.size w w' := by
  subst hr; exact Has_any x n on i w hx h9
theorem Right_eq (x : Value) (n : Int) (on : List Int) (w : World) (r : Bool) (hr : rightB n on = r) (hx : Bt w x n on) (h9 : on.length ≤ maxLen) :
    Calls Try.prog 10 #[x] w fun e w' => e = .returned (.bool r) ∧ Below w.heap.size w w' := by
  subst hr; exact Right_any x n on w hx h9

theorem len_small (on : List Int) (k : Nat) (h : on.length = k) (hk : k ≤ 100) : on.length ≤ maxLen := by
  have : maxLen = 9223372036854775807 := rfl
  omega

set_option maxHeartbeats 4000000 in
set_option maxRecDepth 100000 in
theorem awake_any (w : World) :
    Calls Try.prog 4 #[] w fun e w' => e = .returned (.bool true) ∧ Below w.heap.size w w' := by
  go_enter Try.func4, Try.ntmps4
  have hA1 : Below (w).heap.size (w) (w.alloc (.cells #[.int .i64 0, .int .i64 2] 3)) := (Below.refl _ _).alloc (Nat.le_refl _) _
  have hw2 : Below w.heap.size w (w.alloc (.cells #[.int .i64 0, .int .i64 2] 3)) := hA1
  clear hA1
  go_wp2_with fail
  with_reducible refine (List_eq _ 3 [0, 2] _ ⟨#[13]⟩ 0 (by decide +kernel) (by decide +kernel) (bt_new2 w 3 0 2 _ _ rfl) (len_small _ 2 rfl (by omega))).mono ?_
  rintro e w1 ⟨rfl, hB3⟩
  have hw4 : Below w.heap.size w (w1) := hw2.trans (hB3.mono hw2.size)
  clear hw2
  clear hB3
  go_wp2_with fail
  with_reducible refine (List_eq _ 8 [] _ ⟨#[0, 1]⟩ 0 (by decide +kernel) (by decide +kernel) (bt_nil _ 8) (len_small _ 0 rfl (by omega))).mono ?_
  rintro e w2 ⟨rfl, hB5⟩
  have hw6 : Below w.heap.size w (w2) := hw4.trans (hB5.mono hw4.size)
  clear hw4
  clear hB5
  go_wp2_with fail
  with_reducible refine (Unlist_eq _ 3 3 0 [0, 2] _ (by decide +kernel) (by decide)).mono ?_
  rintro e w3 ⟨Ab, cAb, rfl, hAb, hB7⟩
  have hw8 : Below w.heap.size w (w3) := hw6.trans (hB7.mono hw6.size)
  clear hw6
  clear hB7
  simp only [List.length_cons, List.length_nil, Nat.zero_add, Nat.reduceAdd] at hAb ⊢
  have hA9 : Below (w3).heap.size (w3) (w3.alloc (.cells #[.int .i64 3, .slice Ab 2 cAb] 24)) := (Below.refl _ _).alloc (Nat.le_refl _) _
  have rb_ := RowAt.new (w3) 24 #[.int .i64 3, .slice Ab 2 cAb]
  replace hAb := hAb.on hA9
  have hw10 : Below w.heap.size w (w3.alloc (.cells #[.int .i64 3, .slice Ab 2 cAb] 24)) := hw8.trans (hA9.mono hw8.size)
  clear hw8
  clear hA9
  have rb : RowAt (w3.alloc (.cells #[.int .i64 3, .slice Ab 2 cAb] 24)) (w3.heap.size) 24 [.int .i64 3, .slice Ab 2 cAb] := rb_
  clear rb_
  obtain ⟨crb0_1, crb1_1⟩ := rb.two
  go_wp2_with fail
  with_reducible refine (Unlist_eq _ 2 0 4 [] _ (by decide +kernel) (by decide)).mono ?_
  rintro e w4 ⟨Ax, cAx, rfl, hAx, hB11⟩
  clear crb0_1 crb1_1
  replace hAb := hAb.on hB11
  replace rb := rb.on hB11
  have hw12 : Below w.heap.size w (w4) := hw10.trans (hB11.mono hw10.size)
  clear hw10
  clear hB11
  obtain ⟨crb0_2, crb1_2⟩ := rb.two
  simp only [List.length_cons, List.length_nil, Nat.zero_add, Nat.reduceAdd] at hAx ⊢
  clear hAx
  have hA13 : Below (w4).heap.size (w4) (w4.alloc (.cells #[.int .i64 0, .slice Ax 0 cAx] 24)) := (Below.refl _ _).alloc (Nat.le_refl _) _
  replace hAb := hAb.on hA13
  replace rb := rb.on hA13
  have hw14 : Below w.heap.size w (w4.alloc (.cells #[.int .i64 0, .slice Ax 0 cAx] 24)) := hw12.trans (hA13.mono hw12.size)
  clear hw12
  clear hA13
  obtain ⟨crb0_3, crb1_3⟩ := rb.two
  go_wp2_with fail
  with_reducible refine (Unlist_eq _ 2 0 2 [] _ (by decide +kernel) (by decide)).mono ?_
  rintro e w5 ⟨Ay, cAy, rfl, hAy, hB15⟩
  clear crb0_2 crb1_2 crb0_3 crb1_3
  replace hAb := hAb.on hB15
  replace rb := rb.on hB15
  have hw16 : Below w.heap.size w (w5) := hw14.trans (hB15.mono hw14.size)
  clear hw14
  clear hB15
  obtain ⟨crb0_4, crb1_4⟩ := rb.two
  simp only [List.length_cons, List.length_nil, Nat.zero_add, Nat.reduceAdd] at hAy ⊢
  clear hAy
  have hA17 : Below (w5).heap.size (w5) (w5.alloc (.cells #[.int .i64 0, .slice Ay 0 cAy] 24)) := (Below.refl _ _).alloc (Nat.le_refl _) _
  replace hAb := hAb.on hA17
  replace rb := rb.on hA17
  have hw18 : Below w.heap.size w (w5.alloc (.cells #[.int .i64 0, .slice Ay 0 cAy] 24)) := hw16.trans (hA17.mono hw16.size)
  clear hw16
  clear hA17
  obtain ⟨crb0_5, crb1_5⟩ := rb.two
  have hA19 : Below (w5.alloc (.cells #[.int .i64 0, .slice Ay 0 cAy] 24)).heap.size (w5.alloc (.cells #[.int .i64 0, .slice Ay 0 cAy] 24)) ((w5.alloc (.cells #[.int .i64 0, .slice Ay 0 cAy] 24)).alloc (.cells #[.int .i64 2] 3)) := (Below.refl _ _).alloc (Nat.le_refl _) _
  replace hAb := hAb.on hA19
  replace rb := rb.on hA19
  have hw20 : Below w.heap.size w ((w5.alloc (.cells #[.int .i64 0, .slice Ay 0 cAy] 24)).alloc (.cells #[.int .i64 2] 3)) := hw18.trans (hA19.mono hw18.size)
  clear hw18
  clear hA19
  obtain ⟨crb0_6, crb1_6⟩ := rb.two
  go_wp2_with fail
  with_reducible refine (Vector_eq _ 3 [2] _ ⟨#[4]⟩ 0 (by decide +kernel) (by decide +kernel) (bt_new1 _ 3 2 _ _ (by simp)) (len_small _ 1 rfl (by omega))).mono ?_
  rintro e w6 ⟨rfl, hB21⟩
  clear crb0_4 crb1_4 crb0_5 crb1_5 crb0_6 crb1_6
  replace hAb := hAb.on hB21
  replace rb := rb.on hB21
  have hw22 : Below w.heap.size w (w6) := hw20.trans (hB21.mono hw20.size)
  clear hw20
  clear hB21
  obtain ⟨crb0_7, crb1_7⟩ := rb.two
  go_wp2_with fail
  with_reducible refine (Unvector_eq _ 3 3 0 [2] _ (by decide +kernel)).mono ?_
  rintro e w7 ⟨Aw, cAw, rfl, hAw, hB23⟩
  clear crb0_7 crb1_7
  replace hAb := hAb.on hB23
  replace rb := rb.on hB23
  have hw24 : Below w.heap.size w (w7) := hw22.trans (hB23.mono hw22.size)
  clear hw22
  clear hB23
  obtain ⟨crb0_8, crb1_8⟩ := rb.two
  simp only [List.length_cons, List.length_nil, Nat.zero_add, Nat.reduceAdd] at hAw ⊢
  have hA25 : Below (w7).heap.size (w7) (w7.alloc (.cells #[.int .i64 3, .slice Aw 1 cAw] 24)) := (Below.refl _ _).alloc (Nat.le_refl _) _
  have rw_ := RowAt.new (w7) 24 #[.int .i64 3, .slice Aw 1 cAw]
  replace hAb := hAb.on hA25
  replace hAw := hAw.on hA25
  replace rb := rb.on hA25
  have hw26 : Below w.heap.size w (w7.alloc (.cells #[.int .i64 3, .slice Aw 1 cAw] 24)) := hw24.trans (hA25.mono hw24.size)
  clear hw24
  clear hA25
  obtain ⟨crb0_9, crb1_9⟩ := rb.two
  have rw : RowAt (w7.alloc (.cells #[.int .i64 3, .slice Aw 1 cAw] 24)) (w7.heap.size) 24 [.int .i64 3, .slice Aw 1 cAw] := rw_
  clear rw_
  obtain ⟨crw0_10, crw1_10⟩ := rw.two
  go_wp2_with fail
  with_reducible refine (Unvector_eq _ 3 0 2 [] _ (by decide +kernel)).mono ?_
  rintro e w8 ⟨Az, cAz, rfl, hAz, hB27⟩
  clear crb0_8 crb1_8 crb0_9 crb1_9 crw0_10 crw1_10
  replace hAb := hAb.on hB27
  replace hAw := hAw.on hB27
  replace rb := rb.on hB27
  replace rw := rw.on hB27
  have hw28 : Below w.heap.size w (w8) := hw26.trans (hB27.mono hw26.size)
  clear hw26
  clear hB27
  obtain ⟨crb0_11, crb1_11⟩ := rb.two
  obtain ⟨crw0_12, crw1_12⟩ := rw.two
  simp only [List.length_cons, List.length_nil, Nat.zero_add, Nat.reduceAdd] at hAz ⊢
  clear hAz
  have hA29 : Below (w8).heap.size (w8) (w8.alloc (.cells #[.int .i64 0, .slice Az 0 cAz] 24)) := (Below.refl _ _).alloc (Nat.le_refl _) _
  replace hAb := hAb.on hA29
  replace hAw := hAw.on hA29
  replace rb := rb.on hA29
  replace rw := rw.on hA29
  have hw30 : Below w.heap.size w (w8.alloc (.cells #[.int .i64 0, .slice Az 0 cAz] 24)) := hw28.trans (hA29.mono hw28.size)
  clear hw28
  clear hA29
  obtain ⟨crb0_13, crb1_13⟩ := rb.two
  obtain ⟨crw0_14, crw1_14⟩ := rw.two
  have hm9 := BtRow.one (n := 3) hAw.ints 24 (w8.heap.size + 1) (by simp)
  have hA31 : Below (w8.alloc (.cells #[.int .i64 0, .slice Az 0 cAz] 24)).heap.size (w8.alloc (.cells #[.int .i64 0, .slice Az 0 cAz] 24)) ((w8.alloc (.cells #[.int .i64 0, .slice Az 0 cAz] 24)).alloc (.cells #[.int .i64 3, .slice Aw 1 cAw] 24)) := (Below.refl _ _).alloc (Nat.le_refl _) _
  replace hAb := hAb.on hA31
  replace hAw := hAw.on hA31
  replace rb := rb.on hA31
  replace rw := rw.on hA31
  have hw32 : Below w.heap.size w ((w8.alloc (.cells #[.int .i64 0, .slice Az 0 cAz] 24)).alloc (.cells #[.int .i64 3, .slice Aw 1 cAw] 24)) := hw30.trans (hA31.mono hw30.size)
  clear hw30
  clear hA31
  obtain ⟨crb0_15, crb1_15⟩ := rb.two
  obtain ⟨crw0_16, crw1_16⟩ := rw.two
  go_wp2_with fail
  with_reducible refine (Union_eq _ 3 [0, 2] _ [(3, [2])] 3 0 [0, 2] _ (by decide +kernel) hAb hm9 (len_small _ 2 rfl (by omega)) (by simp [maxLen]) (by simp [maxLen])).mono ?_
  rintro e w9 ⟨Au, cAu, rfl, hAu, hB33⟩
  clear crb0_11 crb1_11 crw0_12 crw1_12 crb0_13 crb1_13 crw0_14 crw1_14 crb0_15 crb1_15 crw0_16 crw1_16
  replace hAb := hAb.on hB33
  replace hAw := hAw.on hB33
  replace rb := rb.on hB33
  replace rw := rw.on hB33
  have hw34 : Below w.heap.size w (w9) := hw32.trans (hB33.mono hw32.size)
  clear hw32
  clear hB33
  obtain ⟨crb0_17, crb1_17⟩ := rb.two
  obtain ⟨crw0_18, crw1_18⟩ := rw.two
  simp only [List.length_cons, List.length_nil, Nat.zero_add, Nat.reduceAdd] at hAu ⊢
  clear hm9
  have hA35 : Below (w9).heap.size (w9) (w9.alloc (.cells #[.int .i64 3, .slice Au 2 cAu] 24)) := (Below.refl _ _).alloc (Nat.le_refl _) _
  have ru_ := RowAt.new (w9) 24 #[.int .i64 3, .slice Au 2 cAu]
  replace hAb := hAb.on hA35
  replace hAw := hAw.on hA35
  replace hAu := hAu.on hA35
  replace rb := rb.on hA35
  replace rw := rw.on hA35
  have hw36 : Below w.heap.size w (w9.alloc (.cells #[.int .i64 3, .slice Au 2 cAu] 24)) := hw34.trans (hA35.mono hw34.size)
  clear hw34
  clear hA35
  obtain ⟨crb0_19, crb1_19⟩ := rb.two
  obtain ⟨crw0_20, crw1_20⟩ := rw.two
  have ru : RowAt (w9.alloc (.cells #[.int .i64 3, .slice Au 2 cAu] 24)) (w9.heap.size) 24 [.int .i64 3, .slice Au 2 cAu] := ru_
  clear ru_
  obtain ⟨cru0_21, cru1_21⟩ := ru.two
  have hA37 : Below (w9.alloc (.cells #[.int .i64 3, .slice Au 2 cAu] 24)).heap.size (w9.alloc (.cells #[.int .i64 3, .slice Au 2 cAu] 24)) ((w9.alloc (.cells #[.int .i64 3, .slice Au 2 cAu] 24)).alloc (.cells #[.int .i64 0, .int .i64 2] 3)) := (Below.refl _ _).alloc (Nat.le_refl _) _
  replace hAb := hAb.on hA37
  replace hAw := hAw.on hA37
  replace hAu := hAu.on hA37
  replace rb := rb.on hA37
  replace rw := rw.on hA37
  replace ru := ru.on hA37
  have hw38 : Below w.heap.size w ((w9.alloc (.cells #[.int .i64 3, .slice Au 2 cAu] 24)).alloc (.cells #[.int .i64 0, .int .i64 2] 3)) := hw36.trans (hA37.mono hw36.size)
  clear hw36
  clear hA37
  obtain ⟨crb0_22, crb1_22⟩ := rb.two
  obtain ⟨crw0_23, crw1_23⟩ := rw.two
  obtain ⟨cru0_24, cru1_24⟩ := ru.two
  go_wp2_with fail
  with_reducible refine (Same_eq _ _ 3 3 [0, 2] [0, 2] _ true (by decide +kernel) hAb (bt_new2 _ 3 0 2 _ _ (by simp)) (len_small _ 2 rfl (by omega)) (len_small _ 2 rfl (by omega))).mono ?_
  rintro e w10 ⟨rfl, hB39⟩
  clear crb0_17 crb1_17 crw0_18 crw1_18 crb0_19 crb1_19 crw0_20 crw1_20 cru0_21 cru1_21 crb0_22 crb1_22 crw0_23 crw1_23 cru0_24 cru1_24
  replace hAb := hAb.on hB39
  replace hAw := hAw.on hB39
  replace hAu := hAu.on hB39
  replace rb := rb.on hB39
  replace rw := rw.on hB39
  replace ru := ru.on hB39
  have hw40 : Below w.heap.size w (w10) := hw38.trans (hB39.mono hw38.size)
  clear hw38
  clear hB39
  obtain ⟨crb0_25, crb1_25⟩ := rb.two
  obtain ⟨crw0_26, crw1_26⟩ := rw.two
  obtain ⟨cru0_27, cru1_27⟩ := ru.two
  have hA41 : Below (w10).heap.size (w10) (w10.alloc (.cells #[.int .i64 2] 3)) := (Below.refl _ _).alloc (Nat.le_refl _) _
  replace hAb := hAb.on hA41
  replace hAw := hAw.on hA41
  replace hAu := hAu.on hA41
  replace rb := rb.on hA41
  replace rw := rw.on hA41
  replace ru := ru.on hA41
  have hw42 : Below w.heap.size w (w10.alloc (.cells #[.int .i64 2] 3)) := hw40.trans (hA41.mono hw40.size)
  clear hw40
  clear hA41
  obtain ⟨crb0_28, crb1_28⟩ := rb.two
  obtain ⟨crw0_29, crw1_29⟩ := rw.two
  obtain ⟨cru0_30, cru1_30⟩ := ru.two
  go_wp2_with fail
  with_reducible refine (Same_eq _ _ 3 3 [2] [2] _ true (by decide +kernel) hAw (bt_new1 _ 3 2 _ _ (by simp)) (len_small _ 1 rfl (by omega)) (len_small _ 1 rfl (by omega))).mono ?_
  rintro e w11 ⟨rfl, hB43⟩
  clear crb0_25 crb1_25 crw0_26 crw1_26 cru0_27 cru1_27 crb0_28 crb1_28 crw0_29 crw1_29 cru0_30 cru1_30
  replace hAb := hAb.on hB43
  replace hAw := hAw.on hB43
  replace hAu := hAu.on hB43
  replace rb := rb.on hB43
  replace rw := rw.on hB43
  replace ru := ru.on hB43
  have hw44 : Below w.heap.size w (w11) := hw42.trans (hB43.mono hw42.size)
  clear hw42
  clear hB43
  obtain ⟨crb0_31, crb1_31⟩ := rb.two
  obtain ⟨crw0_32, crw1_32⟩ := rw.two
  obtain ⟨cru0_33, cru1_33⟩ := ru.two
  go_wp2_with fail
  with_reducible refine (Same_eq _ _ 3 3 [0, 2] [0, 2] _ true (by decide +kernel) hAu hAb (len_small _ 2 rfl (by omega)) (len_small _ 2 rfl (by omega))).mono ?_
  rintro e w12 ⟨rfl, hB45⟩
  clear crb0_31 crb1_31 crw0_32 crw1_32 cru0_33 cru1_33
  replace hAb := hAb.on hB45
  replace hAw := hAw.on hB45
  replace hAu := hAu.on hB45
  replace rb := rb.on hB45
  replace rw := rw.on hB45
  replace ru := ru.on hB45
  have hw46 : Below w.heap.size w (w12) := hw44.trans (hB45.mono hw44.size)
  clear hw44
  clear hB45
  obtain ⟨crb0_34, crb1_34⟩ := rb.two
  obtain ⟨crw0_35, crw1_35⟩ := rw.two
  obtain ⟨cru0_36, cru1_36⟩ := ru.two
  go_wp2_with fail
  with_reducible refine (Subset_eq _ _ 3 3 [2] [0, 2] _ true (by decide +kernel) hAw hAb (len_small _ 1 rfl (by omega)) (len_small _ 2 rfl (by omega))).mono ?_
  rintro e w13 ⟨rfl, hB47⟩
  clear crb0_34 crb1_34 crw0_35 crw1_35 cru0_36 cru1_36
  replace hAb := hAb.on hB47
  replace hAw := hAw.on hB47
  replace hAu := hAu.on hB47
  replace rb := rb.on hB47
  replace rw := rw.on hB47
  replace ru := ru.on hB47
  have hw48 : Below w.heap.size w (w13) := hw46.trans (hB47.mono hw46.size)
  clear hw46
  clear hB47
  obtain ⟨crb0_37, crb1_37⟩ := rb.two
  obtain ⟨crw0_38, crw1_38⟩ := rw.two
  obtain ⟨cru0_39, cru1_39⟩ := ru.two
  go_wp2_with fail
  with_reducible refine (Disjoint_eq _ _ 3 3 [2] [0, 2] _ false (by decide +kernel) hAw hAb (len_small _ 1 rfl (by omega)) (len_small _ 2 rfl (by omega))).mono ?_
  rintro e w14 ⟨rfl, hB49⟩
  clear crb0_37 crb1_37 crw0_38 crw1_38 cru0_39 cru1_39
  replace hAb := hAb.on hB49
  replace hAw := hAw.on hB49
  replace hAu := hAu.on hB49
  replace rb := rb.on hB49
  replace rw := rw.on hB49
  replace ru := ru.on hB49
  have hw50 : Below w.heap.size w (w14) := hw48.trans (hB49.mono hw48.size)
  clear hw48
  clear hB49
  obtain ⟨crb0_40, crb1_40⟩ := rb.two
  obtain ⟨crw0_41, crw1_41⟩ := rw.two
  obtain ⟨cru0_42, cru1_42⟩ := ru.two
  go_wp2_with fail
  with_reducible refine (Has_eq _ 3 [0, 2] 2 _ true (by decide +kernel) hAb (len_small _ 2 rfl (by omega))).mono ?_
  rintro e w15 ⟨rfl, hB51⟩
  clear crb0_40 crb1_40 crw0_41 crw1_41 cru0_42 cru1_42
  replace hAb := hAb.on hB51
  replace hAw := hAw.on hB51
  replace hAu := hAu.on hB51
  replace rb := rb.on hB51
  replace rw := rw.on hB51
  replace ru := ru.on hB51
  have hw52 : Below w.heap.size w (w15) := hw50.trans (hB51.mono hw50.size)
  clear hw50
  clear hB51
  obtain ⟨crb0_43, crb1_43⟩ := rb.two
  obtain ⟨crw0_44, crw1_44⟩ := rw.two
  obtain ⟨cru0_45, cru1_45⟩ := ru.two
  go_wp2_with fail
  with_reducible refine (Has_eq _ 3 [0, 2] 1 _ false (by decide +kernel) hAb (len_small _ 2 rfl (by omega))).mono ?_
  rintro e w16 ⟨rfl, hB53⟩
  clear crb0_43 crb1_43 crw0_44 crw1_44 cru0_45 cru1_45
  replace hAb := hAb.on hB53
  replace hAw := hAw.on hB53
  replace hAu := hAu.on hB53
  replace rb := rb.on hB53
  replace rw := rw.on hB53
  replace ru := ru.on hB53
  have hw54 : Below w.heap.size w (w16) := hw52.trans (hB53.mono hw52.size)
  clear hw52
  clear hB53
  obtain ⟨crb0_46, crb1_46⟩ := rb.two
  obtain ⟨crw0_47, crw1_47⟩ := rw.two
  obtain ⟨cru0_48, cru1_48⟩ := ru.two
  go_wp2_with fail
  with_reducible refine (Right_eq _ 3 [0, 2] _ true (by decide +kernel) hAb (len_small _ 2 rfl (by omega))).mono ?_
  rintro e w17 ⟨rfl, hB55⟩
  clear crb0_46 crb1_46 crw0_47 crw1_47 cru0_48 cru1_48
  replace hAb := hAb.on hB55
  replace hAw := hAw.on hB55
  replace hAu := hAu.on hB55
  replace rb := rb.on hB55
  replace rw := rw.on hB55
  replace ru := ru.on hB55
  have hw56 : Below w.heap.size w (w17) := hw54.trans (hB55.mono hw54.size)
  clear hw54
  clear hB55
  obtain ⟨crb0_49, crb1_49⟩ := rb.two
  obtain ⟨crw0_50, crw1_50⟩ := rw.two
  obtain ⟨cru0_51, cru1_51⟩ := ru.two
  have hA57 : Below (w17).heap.size (w17) (w17.alloc (.cells #[.int .i64 1] 3)) := (Below.refl _ _).alloc (Nat.le_refl _) _
  replace hAb := hAb.on hA57
  replace hAw := hAw.on hA57
  replace hAu := hAu.on hA57
  replace rb := rb.on hA57
  replace rw := rw.on hA57
  replace ru := ru.on hA57
  have hw58 : Below w.heap.size w (w17.alloc (.cells #[.int .i64 1] 3)) := hw56.trans (hA57.mono hw56.size)
  clear hw56
  clear hA57
  obtain ⟨crb0_52, crb1_52⟩ := rb.two
  obtain ⟨crw0_53, crw1_53⟩ := rw.two
  obtain ⟨cru0_54, cru1_54⟩ := ru.two
  go_wp2_with fail
  with_reducible refine (Right_eq _ 1 [1] _ false (by decide +kernel) (bt_new1 _ 1 1 _ _ (by simp)) (len_small _ 1 rfl (by omega))).mono ?_
  rintro e w18 ⟨rfl, hB59⟩
  clear crb0_49 crb1_49 crw0_50 crw1_50 cru0_51 cru1_51 crb0_52 crb1_52 crw0_53 crw1_53 cru0_54 cru1_54
  replace hAb := hAb.on hB59
  replace hAw := hAw.on hB59
  replace hAu := hAu.on hB59
  replace rb := rb.on hB59
  replace rw := rw.on hB59
  replace ru := ru.on hB59
  have hw60 : Below w.heap.size w (w18) := hw58.trans (hB59.mono hw58.size)
  clear hw58
  clear hB59
  obtain ⟨crb0_55, crb1_55⟩ := rb.two
  obtain ⟨crw0_56, crw1_56⟩ := rw.two
  obtain ⟨cru0_57, cru1_57⟩ := ru.two
  go_wp2_with fail
  go_ret
  exact ⟨rfl, hw60⟩
end Go.Proofs.Ytpojpikndlcbkaa
