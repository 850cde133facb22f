/- The document's bits, beside the other layers. -/
import Derived.Test.YtieheieiolobaaaGreatDoorBitM
import Derived.Test.YtieheieiolobaaaGreatDoorTokL
import Derived.Test.YtieheieiolobaaaGreatDoorLagL
import Derived.Test.YtieheieiolobaaaGreatDoorOctA
namespace Go.Proofs.YtieheieiolobaaaGreatDoor
open Go.RowKit Go.Shelf

theorem Unlist_eq (s : ByteArray) (most N err : Int) (on : List Int) (w : World) (h : unlistOf s.data.toList most = (N, on, err)) (hs : s.size ≤ 1000000000000000) :
    Calls Tryz.prog 67 #[.string s, .int .i64 most] w fun e w' => ∃ A c, e = .returned (.tuple #[.agg #[.int .i64 N, .slice A on.length c], .int .i64 err]) ∧ Bt w' (.agg #[.int .i64 N, .slice A on.length c]) N on ∧ Below w.heap.size w w' := by
  refine (Unlist_any s most w hs).mono ?_
  rintro e w' ⟨x, rfl, hx, hb⟩
  rw [h] at hx ⊢
  obtain ⟨A, c, rfl, _, _⟩ := hx.form
  exact ⟨A, c, rfl, hx, hb⟩
/-- One more in a row: bits that were built. -/
theorem BtRow.one {w : World} {n : Int} {on : List Int} {v : Value} (h : Ints w w.heap.size v on) (t : TypeId) (B : Nat) (hB : w.heap.size = B) : BtRow (w.alloc (.cells #[.int .i64 n, v] t)) (.slice (some ⟨B, 0, none⟩) 1 1) [(n, on)] := by
  subst hB
  refine ⟨_, 1, rfl, Nat.le_refl _, fun _ => ⟨⟨w.heap.size, 0, none⟩, rfl, by simp, fun j b hj => ?_⟩⟩
  have hr := RowAt.new w t #[.int .i64 n, v]
  cases j with
  | zero =>
    simp at hj
    subst hj
    exact ⟨v, hr.cell 0, hr.cell 1, h.alloc _⟩
  | succ j => simp at hj
theorem BtRow.two {w : World} {n m : Int} {a b : List Int} {u v : Value} (h : Ints w w.heap.size u a) (h' : Ints w w.heap.size v b) (t : TypeId) (B : Nat) (hB : w.heap.size = B) : BtRow (w.alloc (.cells #[.int .i64 n, u, .int .i64 m, v] t)) (.slice (some ⟨B, 0, none⟩) 2 2) [(n, a), (m, b)] := by
  subst hB
  refine ⟨_, 2, rfl, Nat.le_refl _, fun _ => ⟨⟨w.heap.size, 0, none⟩, rfl, by simp, fun j x hj => ?_⟩⟩
  have hr := RowAt.new w t #[.int .i64 n, u, .int .i64 m, v]
  match j, hj with
  | 0, hj =>
    simp at hj
    subst hj
    exact ⟨u, hr.cell 0, hr.cell 1, h.alloc _⟩
  | 1, hj =>
    simp at hj
    subst hj
    exact ⟨v, hr.cell 2, hr.cell 3, h'.alloc _⟩
theorem Bt.ints {w : World} {n : Int} {A : Option Addr} {l c : Nat} {on : List Int} (h : Bt w (.agg #[.int .i64 n, .slice A l c]) n on) : Ints w w.heap.size (.slice A l c) on := by
  obtain ⟨v, e, hv⟩ := h
  have : v = .slice A l c := by
    injection e with e
    have := congrArg (fun (a : Array Value) => a[1]?) e
    simpa using this.symm
  rw [← this]; exact hv
theorem ints_new (w : World) (xs : List Int) (k : Nat) (hk : xs.length = k) (t : TypeId) : Ints (w.alloc (.cells (xs.map (Value.int .i64)).toArray t)) (w.alloc (.cells (xs.map (Value.int .i64)).toArray t)).heap.size (.slice (some ⟨w.heap.size, 0, none⟩) k k) xs := by
  subst hk
  exact Elems.row (by have := RowAt.new w t (xs.map (Value.int .i64)).toArray; simpa using this)
theorem bt_new2 (w : World) (n a b : Int) (t : TypeId) (B : Nat) (hB : w.heap.size = B) : Bt (w.alloc (.cells #[.int .i64 a, .int .i64 b] t)) (.agg #[.int .i64 n, .slice (some ⟨B, 0, none⟩) 2 2]) n [a, b] := by
  subst hB; exact ⟨_, rfl, ints_new w [a, b] 2 rfl t⟩
theorem bt_new1 (w : World) (n a : Int) (t : TypeId) (B : Nat) (hB : w.heap.size = B) : Bt (w.alloc (.cells #[.int .i64 a] t)) (.agg #[.int .i64 n, .slice (some ⟨B, 0, none⟩) 1 1]) n [a] := by
  subst hB; exact ⟨_, rfl, ints_new w [a] 1 rfl t⟩
theorem bt_nil (w : World) (n : Int) : Bt w (.agg #[.int .i64 n, .slice none 0 0]) n [] := ⟨_, rfl, Elems.nil _ _ _⟩
theorem List_eq (x : Value) (n : Int) (on : List Int) (w : World) (t : ByteArray) (err : Int) (ht : (⟨(lstOf n on).toArray⟩ : ByteArray) = t) (he : argErr (rightB n on) = err) (hx : Bt w x n on) (h9 : on.length ≤ maxLen) :
    Calls Tryz.prog 58 #[x] w fun e w' => e = .returned (.tuple #[.string t, .int .i64 err]) ∧ Below w.heap.size w w' := by
  subst ht he; exact List_any x n on w hx h9
theorem rbSame_eq (x y : Value) (n m : Int) (a b : List Int) (w : World) (r : Bool) (hr : sameB n a m b = r) (hx : Bt w x n a) (hy : Bt w y m b) (h9 : a.length ≤ maxLen) (h9b : b.length ≤ maxLen) :
    Calls Tryz.prog 47 #[x, y] w fun e w' => e = .returned (.bool r) ∧ Below w.heap.size w w' := by
  subst hr; exact Same_any x y n m a b w hx hy h9 h9b
theorem rbRight_eq (x : Value) (n : Int) (on : List Int) (w : World) (r : Bool) (hr : rightB n on = r) (hx : Bt w x n on) (h9 : on.length ≤ maxLen) :
    Calls Tryz.prog 81 #[x] w fun e w' => e = .returned (.bool r) ∧ Below w.heap.size w w' := by
  subst hr; exact Right_any x n on w hx h9
theorem len_small (on : List Int) (k : Nat) (h : on.length = k) (hk : k ≤ 100) : on.length ≤ maxLen := by
  have : maxLen = 9223372036854775807 := rfl
  omega
theorem Bits_eq (n below : Int) (raw : List Int) (v : Value) (w : World) (P : Nat) (hP : pickOf n below = (P : Int)) (hv : Ints w w.heap.size v raw) (hn : I64 n) (hr : ∀ r ∈ raw, I64 r) (hb0 : 0 < below) (hb1 : below ≤ 2000) :
    Calls Tryz.prog 25 #[.int .i64 n, .int .i64 below, v] w fun e w' => ∃ A c, e = .returned (.agg #[.int .i64 (P : Int), .slice A (pickSet P raw).length c]) ∧ Bt w' (.agg #[.int .i64 (P : Int), .slice A (pickSet P raw).length c]) P (pickSet P raw) ∧ Below w.heap.size w w' := by
  refine (Bits_any n below raw v w hv hn hr hb0 hb1).mono ?_
  rintro e w' ⟨x, rfl, hx, hb⟩
  rw [hP] at hx
  simp only [Int.toNat_natCast] at hx
  obtain ⟨A, c, rfl, _, _⟩ := hx.form
  exact ⟨A, c, rfl, hx, hb⟩
theorem pick_nat (n below : Int) (h : 0 < below) : ∃ P : Nat, pickOf n below = (P : Int) ∧ (P : Int) < below := by
  obtain ⟨h0, h1⟩ := pickOf_bd n below h
  obtain ⟨P, hP⟩ := Int.eq_ofNat_of_zero_le h0
  exact ⟨P, hP, by omega⟩
theorem pickSet_length (P : Nat) (raw : List Int) (h : P ≤ 2000) : (pickSet P raw).length ≤ 2000 := Nat.le_trans (pickTo_length P raw P) h
theorem small_len {l : List Int} (h : l.length ≤ 5000) : l.length ≤ maxLen := by
  have : maxLen = 9223372036854775807 := rfl
  omega
theorem rb_mk_list (l : List UInt8) : (⟨l.toArray⟩ : ByteArray).data.toList = l := rfl
theorem mk_size (l : List UInt8) : (⟨l.toArray⟩ : ByteArray).size = l.length := by simp [ByteArray.size]
theorem toList_mk (l : List UInt8) : (⟨l.toArray⟩ : ByteArray).toList = l := by rw [ByteArray.toList_eq]
theorem right_ext {P : Nat} {a b : List Int} (ha : rightB P a = true) (hb : rightB P b = true) (h : ∀ x, x ∈ a ↔ x ∈ b) : a = b :=
  rise_ext ((rightB_iff _ _).1 ha).2.1 ((rightB_iff _ _).1 hb).2.1 h
theorem putBits_mem (P : Nat) (a : List Int) (more : List (Int × List Int)) (ha : rightB P a = true) (hm : more.all (likeB P) = true) (j : Nat) :
    bitAt (putBits (vecOf P a) (more.flatMap (·.2))) j = decide ((j : Int) ∈ a ∨ ∃ b ∈ more, (j : Int) ∈ b.2) := by
  rw [bitAt_putBits _ _ _ (fun x hx => ?_), bitAt_vecOf ha]
  · by_cases h1 : (j : Int) ∈ a
    · simp [h1]
    · by_cases h2 : ∃ b ∈ more, (j : Int) ∈ b.2
      · have h3 : (j : Int) ∈ more.flatMap (·.2) := by obtain ⟨b, hb, hj⟩ := h2; exact List.mem_flatMap.2 ⟨b, hb, hj⟩
        simp only [h1, h2, h3, decide_true, decide_false, Bool.or_true, or_true]
      · have h3 : ¬ (j : Int) ∈ more.flatMap (·.2) := fun h => h2 (by obtain ⟨b, hb, hj⟩ := List.mem_flatMap.1 h; exact ⟨b, hb, hj⟩)
        simp only [h1, h2, h3, decide_false, Bool.or_false, or_false]
  · obtain ⟨b, hb, hxb⟩ := List.mem_flatMap.1 hx
    have h1 := List.all_eq_true.1 hm b hb
    simp only [likeB, Bool.and_eq_true, decide_eq_true_eq] at h1
    have h2 := ((rightB_iff _ _).1 h1.1).2.2 x hxb
    rw [vecOf_length, Int.toNat_natCast]
    omega
theorem union_of (P : Nat) (a : List Int) (more : List (Int × List Int)) (ha : rightB P a = true) (hm : more.all (likeB P) = true) :
    ∃ u, unionOf P a more = ((P : Int), u, 0) ∧ rightB P u = true ∧ ∀ x, x ∈ u ↔ (x ∈ a ∨ ∃ b ∈ more, x ∈ b.2) := by
  refine ⟨onsOf (putBits (vecOf P a) (more.flatMap (·.2))), ?_, ?_, ?_⟩
  · unfold unionOf
    rw [if_pos (by rw [ha, hm]; rfl)]
  · obtain ⟨h1, h2, h3⟩ := (rightB_iff _ _).1 ha
    refine (rightB_iff _ _).2 ⟨h1, onsOf_rises _, fun x hx => ?_⟩
    obtain ⟨g0, g1⟩ := mem_onsOf.1 hx
    rw [putBits_mem P a more ha hm] at g1
    simp only [decide_eq_true_eq] at g1
    have e : ((x.toNat : Nat) : Int) = x := by omega
    rw [e] at g1
    refine ⟨g0, ?_⟩
    rcases g1 with g1 | ⟨b, hb, g1⟩
    · exact (h3 x g1).2
    · have h4 := List.all_eq_true.1 hm b hb
      simp only [likeB, Bool.and_eq_true, decide_eq_true_eq] at h4
      have h5 := ((rightB_iff _ _).1 h4.1).2.2 x g1
      omega
  · intro x
    rw [mem_onsOf]
    constructor
    · rintro ⟨g0, g1⟩
      rw [putBits_mem P a more ha hm] at g1
      simp only [decide_eq_true_eq] at g1
      have e : ((x.toNat : Nat) : Int) = x := by omega
      rw [e] at g1
      exact g1
    · intro h
      have hx : 0 ≤ x := by
        rcases h with h | ⟨b, hb, h⟩
        · exact (((rightB_iff _ _).1 ha).2.2 x h).1
        · have h4 := List.all_eq_true.1 hm b hb
          simp only [likeB, Bool.and_eq_true, decide_eq_true_eq] at h4
          exact (((rightB_iff _ _).1 h4.1).2.2 x h).1
      have e : ((x.toNat : Nat) : Int) = x := by omega
      refine ⟨hx, ?_⟩
      rw [putBits_mem P a more ha hm, e]
      simpa using h
/-- A rising list of numbers below P has at most P. -/
theorem rise_len : ∀ (l : List Int) (lo hi : Int), l.Pairwise (· < ·) → (∀ x ∈ l, lo ≤ x ∧ x < hi) → (l.length : Int) ≤ max 0 (hi - lo)
  | [], lo, hi, _, _ => by simp; omega
  | x :: l, lo, hi, hr, hb => by
    have hx := hb x (by simp)
    have h := rise_len l (x + 1) hi (List.pairwise_cons.1 hr).2 (fun y hy => ⟨by have := (List.pairwise_cons.1 hr).1 y hy; omega, (hb y (by simp [hy])).2⟩)
    simp only [List.length_cons]
    omega
theorem rb_right_len {P : Nat} {a : List Int} (ha : rightB P a = true) (hP : P ≤ 2000) : a.length ≤ 2000 := by
  obtain ⟨h1, h2, h3⟩ := (rightB_iff _ _).1 ha
  have := rise_len a 0 P h2 h3
  omega
theorem rise_nodup {a : List Int} (h : a.Pairwise (· < ·)) : a.Nodup := h.imp fun h => by omega
/-- How many of a list's elements are in another, and how many are not. -/
theorem sub_of {P : Nat} {a b : List Int} (ha : rightB P a = true) (hb : rightB P b = true) : subOf P a P b = true ↔ ∀ x ∈ a, x ∈ b := by
  simp [subOf, alikeB, ha, hb]
theorem disj_of {P : Nat} {a b : List Int} (ha : rightB P a = true) (hb : rightB P b = true) : disjOf P a P b = true ↔ ∀ x ∈ a, ¬ x ∈ b := by
  simp [disjOf, alikeB, ha, hb]
theorem rise_filter {l : List Int} (p : Int → Bool) (h : l.Pairwise (· < ·)) : (l.filter p).Pairwise (· < ·) := List.Pairwise.filter _ h
theorem len_parts (p : Int → Bool) : ∀ l : List Int, l.length = (l.filter p).length + (l.filter fun x => !p x).length
  | [] => rfl
  | x :: l => by
    have h := len_parts p l
    by_cases hx : p x = true
    · simp only [List.filter_cons, hx, if_true, List.length_cons, Bool.not_true, Bool.false_eq_true, if_false]; omega
    · simp only [List.filter_cons, hx, if_false, List.length_cons, Bool.not_false, Bool.false_eq_true, if_true, show p x = false by simpa using hx]; omega
theorem sub_len {a b : List Int} (ha : a.Pairwise (· < ·)) (hb : b.Pairwise (· < ·)) (h : ∀ x ∈ a, x ∈ b) : a.length ≤ b.length := by
  have e : a = b.filter (fun x => decide (x ∈ a)) := rise_ext ha (rise_filter _ hb) (fun x => by
    simp only [List.mem_filter, decide_eq_true_eq]
    exact ⟨fun hx => ⟨h x hx, hx⟩, fun hx => hx.2⟩)
  rw [e]
  exact List.length_filter_le _ _
/-- Of two rising lists, and one that has what is in either. -/
theorem union_len {u a b : List Int} (hu : u.Pairwise (· < ·)) (ha : a.Pairwise (· < ·)) (hb : b.Pairwise (· < ·)) (h : ∀ x, x ∈ u ↔ (x ∈ a ∨ x ∈ b)) : u.length + (bothOf a b).length = a.length + b.length := by
  have e1 : u.filter (fun x => decide (x ∈ a)) = a := rise_ext (rise_filter _ hu) ha (fun x => by
    simp only [List.mem_filter, decide_eq_true_eq, h]
    exact ⟨fun hx => hx.2, fun hx => ⟨.inl hx, hx⟩⟩)
  have e2 : u.filter (fun x => !decide (x ∈ a)) = b.filter (fun x => !decide (x ∈ a)) := rise_ext (rise_filter _ hu) (rise_filter _ hb) (fun x => by
    simp only [List.mem_filter, Bool.not_eq_true', decide_eq_false_iff_not, h]
    constructor
    · rintro ⟨h1 | h1, h2⟩
      · exact absurd h1 h2
      · exact ⟨h1, h2⟩
    · rintro ⟨h1, h2⟩; exact ⟨.inr h1, h2⟩)
  have e3 : b.filter (fun x => decide (x ∈ a)) = bothOf a b := rise_ext (rise_filter _ hb) (rise_filter _ ha) (fun x => by
    unfold bothOf
    simp only [List.mem_filter, decide_eq_true_eq]
    exact ⟨fun hx => ⟨hx.2, hx.1⟩, fun hx => ⟨hx.2, hx.1⟩⟩)
  have h1 := len_parts (fun x => decide (x ∈ a)) u
  have h2 := len_parts (fun x => decide (x ∈ a)) b
  rw [e1, e2] at h1
  rw [e3] at h2
  omega
theorem union_le {u a b : List Int} (hu : u.Pairwise (· < ·)) (ha : a.Pairwise (· < ·)) (hb : b.Pairwise (· < ·)) (h : ∀ x, x ∈ u ↔ (x ∈ a ∨ x ∈ b)) : u.length ≤ a.length + b.length := by
  have := union_len hu ha hb h
  omega
instance (w : World) : Inhabited (Later w) := ⟨⟨w, Below.refl _ _⟩⟩
theorem RowAt.later {w : World} {g : Nat} {t : TypeId} {l : List Value} (h : RowAt w g t l) (i : Nat) (x : Value) (hi : l[i]? = some x) : ∀ p : Later w, p.W.cell? ⟨g, i, none⟩ = some x := fun p => ((h.on p.h).cell i).trans hi
theorem bit_mod (b : UInt8) (r : Nat) : ((b.toNat : Int) / 2 ^ r).tmod 2 = if b.toNat.testBit r then 1 else 0 := by
  have e : ((b.toNat : Int) / 2 ^ r) = ((b.toNat / 2 ^ r : Nat) : Int) := by rw [Int.natCast_ediv, Int.natCast_pow]; rfl
  rw [e, Nat.testBit_eq_decide_div_mod_eq]
  generalize b.toNat / 2 ^ r = y
  rw [Int.tmod_eq_emod_of_nonneg (Int.natCast_nonneg y)]
  by_cases h : y % 2 = 1
  · simp [h]; omega
  · simp [h]; omega
theorem onsTo_len_step (l : List UInt8) (k : Nat) : ((onsTo l (k + 1)).length : Int) = (onsTo l k).length + (if bitAt l k then 1 else 0) := by
  cases h : bitAt l k
  · rw [onsTo_succ_off h]; simp
  · rw [onsTo_succ_on h]; simp
theorem rise_at (n : Int) (on : List Int) (k : Nat) (hk : k < on.length) (last : Int) : risesFrom n last (on.drop k) = (decide (last < on[k]) && decide (on[k] < n) && risesFrom n on[k] (on.drop (k + 1))) := risesFrom_take_step n on k hk last
theorem HP1 {on : List Int} {k : Nat} {y : Int} (h : on[k]? = some y) : Hid (∀ j, k + 1 = j + 1 → on[j]? = some y) := fun j hj => by
  obtain rfl : k = j := by omega
  exact h
set_option maxHeartbeats 1000000 in
theorem rbRight_any (x : Value) (n : Int) (on : List Int) (w : World) (hx : Bt w x n on) (h9 : on.length ≤ maxLen) :
    Calls Tryz.prog 61 #[x] w fun e w' => e = .returned (.bool (rightB n on)) ∧ Below w.heap.size w w' := by
  obtain ⟨A, c, rfl, hc, hv⟩ := hx.form
  obtain ⟨W0, hW0⟩ : ∃ W0, W0 = w.alloc (.cells #[.int .i64 n, .slice A on.length c] 27) := ⟨_, rfl⟩
  have hb0 : Below w.heap.size w W0 := by rw [hW0]; exact (Below.refl _ w).alloc (Nat.le_refl _) _
  have r0 : RowAt W0 w.heap.size 27 [.int .i64 n, .slice A on.length c] := by rw [hW0]; exact RowAt.new w 27 #[.int .i64 n, .slice A on.length c]
  have hv0 := hv.on hb0
  have h9' : on.length ≤ 9223372036854775807 := h9
  by_cases hf : fitsB n = true
  · obtain ⟨hn0, hn1⟩ := (fitsB_iff n).1 hf
    go_enter Tryz.func61, Tryz.ntmps61
    go_wp2_with fail
    rw [← hW0]
    clear hW0
    go_loopw [3] (fun i wr => ∃ (k : Nat) (last : Int), k ≤ on.length ∧ i = .int .i64 k ∧ Hid (rightB n on = risesFrom n last (on.drop k)) ∧ -1 ≤ last ∧ (k = 0 → last = -1) ∧ Hid (∀ j, k = j + 1 → on[j]? = some last) ∧ Below W0.heap.size W0 wr) (fun i _ => on.length - (intOf i).toNat)
    case atStart => exact ⟨0, -1, Nat.zero_le _, rfl, by simp [rightB, hf, Hid], by omega, fun _ => rfl, fun j hj => by omega, Below.refl _ _⟩
    case round =>
      obtain ⟨k, last, hk, rfl, HE, hl1, hl0, HP, hbw⟩ := hrel
      have q0 := r0.on hbw
      have hvq := hv0.on hbw
      obtain ⟨c0, c1⟩ := q0.two
      have hB := hb0.trans (hbw.mono hb0.size)
      by_cases hlt : k < on.length
      · obtain ⟨ad, rfl, hbl, hcell⟩ := hvq.at_ hlt
        have HS := Lib.hid (rise_at n on k hlt last)
        have HK : Hid (on[k]? = some on[k]) := List.getElem?_eq_getElem hlt
        generalize hy : on[k] = y at *
        clear hy
        by_cases c2 : y < 0
        · have d1 : decide (y < 0) = true := by simpa using c2
          have hfalse : rightB n on = false := by rw [HE.out, HS.out]; simp; intros; omega
          have HF := Lib.hid hfalse
          clear hfalse
          go_wp2_with fail
          go_quiet (fail)
          go_wp2_with fail
          go_ret
          exact ⟨by rw [HF.out]; rfl, ⟨hB.os, hB.tape, hB.output, hB.size, hB.block⟩⟩
        · have d1 : decide (y < 0) = false := by simpa using c2
          by_cases c3 : n ≤ y
          · have d2 : decide (n ≤ y) = true := by simpa using c3
            have hfalse : rightB n on = false := by rw [HE.out, HS.out]; simp; intros; omega
            have HF := Lib.hid hfalse
            clear hfalse
            go_wp2_with fail
            go_quiet (fail)
            go_wp2_with fail
            go_ret
            exact ⟨by rw [HF.out]; rfl, ⟨hB.os, hB.tape, hB.output, hB.size, hB.block⟩⟩
          · have d2 : decide (n ≤ y) = false := by simpa using c3
            by_cases hk0 : k = 0
            · subst hk0
              obtain rfl := hl0 rfl
              have hcell0 : wr.cell? ad = some (.int .i64 y) := hcell
              go_wp2_with fail
              go_quiet (fail)
              go_wp2_with fail
              go_roundw
              case rel => exact ⟨1, y, by omega, rfl, by show rightB n on = _; rw [HE.out, HS.out]; simp; omega, by omega, fun h => by omega, HP1 HK.out, ⟨hbw.os, hbw.tape, hbw.output, hbw.size, hbw.block⟩⟩
              case measure => simp [intOf]; omega
            · obtain ⟨ad', had, -, hcell'⟩ := hvq.at_ (show k - 1 < on.length by omega)
              injection had with had
              subst had
              have hlast : on[k - 1] = last := by
                have := HP.out (k - 1) (by omega)
                rw [List.getElem?_eq_getElem (by omega)] at this
                injection this
              rw [hlast] at hcell'
              have hk1 : 0 < k := by omega
              have d3 : decide ((0 : Int) < (k : Int)) = true := by simp; omega
              have i1 : (k : Int) - 1 < (on.length : Int) := by omega
              have i2 : (0 : Int) ≤ (k : Int) - 1 := by omega
              clear hlast hk0
              by_cases c4 : y ≤ last
              · have hfalse : rightB n on = false := by rw [HE.out, HS.out]; simp; intros; omega
                have HF := Lib.hid hfalse
                clear hfalse
                have d4 : decide (y ≤ last) = true := by simpa using c4
                go_wp2_with fail
                go_quiet (fail)
                go_wp2_with fail
                go_ret
                exact ⟨by rw [HF.out]; rfl, ⟨hB.os, hB.tape, hB.output, hB.size, hB.block⟩⟩
              · have d4 : decide (y ≤ last) = false := by simpa using c4
                go_wp2_with fail
                go_quiet (fail)
                go_wp2_with fail
                go_roundw
                case rel => exact ⟨k + 1, y, by omega, by go_num, by show rightB n on = _; rw [HE.out, HS.out]; simp; omega, by omega, fun h => by omega, HP1 HK.out, ⟨hbw.os, hbw.tape, hbw.output, hbw.size, hbw.block⟩⟩
                case measure => simp [intOf]; omega
      · have HF : Hid (rightB n on = true) := by rw [HE.out, List.drop_of_length_le (by omega)]; rfl
        go_wp2_with fail
        go_ret
        exact ⟨by rw [HF.out]; rfl, hB⟩
  · have hf' : fitsB n = false := by simpa using hf
    have hr : rightB n on = false := by simp [rightB, hf']
    have hcs : n < 0 ∨ 2048 < n := by
      rcases Int.lt_or_le n 0 with h | h
      · exact .inl h
      · rcases Int.lt_or_le 2048 n with h2 | h2
        · exact .inr h2
        · exact absurd ((fitsB_iff n).2 ⟨h, h2⟩) hf
    rw [hr]
    clear hr hf hf'
    rcases Int.lt_or_le n 0 with h | h
    · go_enter Tryz.func61, Tryz.ntmps61
      go_wp2_with fail
      rw [← hW0]
      go_ret
      exact ⟨rfl, hb0⟩
    · have h2 : 2048 < n := by omega
      go_enter Tryz.func61, Tryz.ntmps61
      go_wp2_with fail
      rw [← hW0]
      go_ret
      exact ⟨rfl, hb0⟩
set_option maxHeartbeats 1000000 in
theorem ron_any (x : Value) (n : Int) (on : List Int) (i : Int) (w : World) (hx : Bt w x n on) (h9 : on.length ≤ maxLen) :
    Calls Tryz.prog 90 #[x, .int .i64 i] w fun e w' => e = .returned (.bool (decide (i ∈ on))) ∧ Below w.heap.size w w' := by
  obtain ⟨A, c, rfl, hc, hv⟩ := hx.form
  have h9' : on.length ≤ 9223372036854775807 := h9
  have hb0 : Below w.heap.size w (w.alloc (.cells #[.int .i64 n, .slice A on.length c] 27)) := (Below.refl _ w).alloc (Nat.le_refl _) _
  have hv0 := hv.on hb0
  go_enter Tryz.func90, Tryz.ntmps90
  go_wp2_with fail
  go_loop [5] (fun iv => ∃ k : Nat, k ≤ on.length ∧ iv = .int .i64 k ∧ Hid (∀ y ∈ on.take k, y ≠ i)) (fun iv => on.length - (intOf iv).toNat)
  case atStart => exact ⟨0, Nat.zero_le _, rfl, by simp [Hid]⟩
  case round =>
    obtain ⟨k, hk, rfl, HE⟩ := hrel
    by_cases hlt : k < on.length
    · obtain ⟨ad, rfl, hb, hcell⟩ := hv0.at_ hlt
      have HT := Lib.hid (show on.take (k + 1) = on.take k ++ [on[k]] from List.take_succ_eq_append_getElem hlt)
      have HM := Lib.hid (List.getElem_mem hlt)
      generalize hy : on[k] = y at *
      clear hy
      by_cases c1 : y = i
      · subst c1
        have HF : Hid (decide (y ∈ on) = true) := by have := HM.out; simp [this, Hid]
        go_wp2_with fail
        go_ret
        exact ⟨by rw [HF.out]; rfl, hb0⟩
      · have c2 : (y == i) = false := by simpa using c1
        go_wp2_with fail
        go_round
        case rel =>
          refine ⟨k + 1, by omega, by go_num, ?_⟩
          show ∀ y ∈ on.take (k + 1), y ≠ i
          rw [HT.out]
          intro z hz
          simp only [List.mem_append, List.mem_singleton] at hz
          rcases hz with hz | rfl
          · exact HE.out z hz
          · exact c1
        case measure => simp [intOf]; omega
    · have HF : Hid (decide (i ∈ on) = false) := by
        have h1 := HE.out
        rw [List.take_of_length_le (by omega)] at h1
        exact decide_eq_false (fun h => h1 i h rfl)
      go_wp2_with fail
      go_ret
      exact ⟨by rw [HF.out]; rfl, hb0⟩
theorem add_or : ∀ a : Fin 256, ∀ r : Fin 8, a.val.testBit r.val = false → a.val + 2 ^ r.val = a.val ||| 2 ^ r.val := by decide +kernel
def marksTo (S : Nat → Bool) (n : Nat) : Nat → List UInt8
  | 0 => List.replicate n 0
  | i + 1 => if S i then putBit (marksTo S n i) i else marksTo S n i
theorem marksTo_length (S : Nat → Bool) (n : Nat) : ∀ i, (marksTo S n i).length = n
  | 0 => by simp [marksTo]
  | i + 1 => by
    unfold marksTo
    split
    · rw [putBit_length, marksTo_length S n i]
    · exact marksTo_length S n i
theorem bitAt_marksTo (S : Nat → Bool) (n : Nat) : ∀ i j, i ≤ 8 * n → bitAt (marksTo S n i) j = (decide (j < i) && S j)
  | 0, j, _ => by simp [marksTo, bitAt_zeros]
  | i + 1, j, h => by
    have ih := bitAt_marksTo S n i j (by omega)
    unfold marksTo
    by_cases hS : S i = true
    · rw [if_pos hS, bitAt_putBit _ _ _ (by rw [marksTo_length]; omega), ih]
      by_cases hj : i = j
      · subst hj; simp [hS]
      · by_cases h2 : j < i
        · simp [h2, show j < i + 1 by omega, hj]
        · simp [h2, show ¬ j < i + 1 by omega, hj]
    · rw [if_neg hS, ih]
      by_cases hj : i = j
      · subst hj; simp [show S i = false by simpa using hS]
      · by_cases h2 : j < i
        · simp [h2, show j < i + 1 by omega]
        · simp [h2, show ¬ j < i + 1 by omega]
theorem marks_add (S : Nat → Bool) (n i : Nat) (h : i < 8 * n) : ((marksTo S n i).getD (i / 8) 0).toNat + 2 ^ (i % 8) = ((marksTo S n i).getD (i / 8) 0).toNat ||| 2 ^ (i % 8) := by
  have hb := bitAt_marksTo S n i i (by omega)
  simp only [Nat.lt_irrefl, decide_false, Bool.false_and] at hb
  unfold bitAt at hb
  exact add_or ⟨_, UInt8.toNat_lt _⟩ ⟨i % 8, Nat.mod_lt _ (by omega)⟩ hb
theorem byte_add (z : UInt8) (r : Nat) (hr : r < 8) (h : z.toNat + 2 ^ r = z.toNat ||| 2 ^ r) : ((z.toNat : Int) + 2 ^ r) % 256 = ((UInt8.ofNat (z.toNat ||| 2 ^ r)).toNat : Int) := by
  have h1 := or_lt_256 _ _ (UInt8.toNat_lt z) (pow_lt_256 r hr)
  have h2 := pow_lt_256 r hr
  rw [UInt8.toNat_ofNat_of_lt' h1, ← h]
  have h3 : ((2 ^ r : Nat) : Int) = 2 ^ r := by simp
  rw [← h3]
  generalize 2 ^ r = y at *
  omega
/-- Which bits 'bytes' sets. -/
def wants (on : List Int) (more : Int) (j : Nat) : Bool := decide ((j : Int) = more) || decide ((j : Int) ∈ on)
set_option maxHeartbeats 2000000 in
set_option maxRecDepth 100000 in
theorem rbytes_any (x : Value) (n : Int) (on : List Int) (k : Nat) (more : Int) (w : World) (hx : Bt w x n on) (h9 : on.length ≤ maxLen) (hk : k ≤ 300) :
    Calls Tryz.prog 62 #[x, .int .i64 k, .int .i64 more] w fun e w' => e = .returned (.string ⟨(marksTo (wants on more) k (8 * k)).toArray⟩) ∧ Below w.heap.size w w' := by
  obtain ⟨A, c, rfl, hc, hv⟩ := hx.form
  obtain ⟨M, hM, hmk⟩ := make_bytes (k : Int) k rfl (by omega)
  obtain ⟨W0, hW0⟩ : ∃ W0, W0 = (w.alloc (.cells #[.int .i64 n, .slice A on.length c] 27)).alloc (.cells M 5) := ⟨_, rfl⟩
  have hb0 : Below w.heap.size w W0 := by rw [hW0]; exact ((Below.refl _ w).alloc (Nat.le_refl _) _).alloc (by simp) _
  have r0 : RowAt W0 w.heap.size 27 [.int .i64 n, .slice A on.length c] := by rw [hW0]; exact (RowAt.new w 27 #[.int .i64 n, .slice A on.length c]).alloc _
  have r1 : RowAt W0 (w.heap.size + 1) 5 (byteVals (List.replicate k 0)) := by
    have := RowAt.new (w.alloc (.cells #[.int .i64 n, .slice A on.length c] 27)) 5 M
    rw [World.size_alloc, hM] at this
    rw [hW0]; exact this
  have hs0 : w.heap.size + 2 ≤ W0.heap.size := by rw [hW0]; simp
  go_enter Tryz.func62, Tryz.ntmps62
  go_wp2_with fail
  rw [← hW0]
  clear hW0 hmk hM
  go_loopw [8] (fun iv wr => ∃ i : Nat, i ≤ 8 * k ∧ iv = .int .i64 i ∧ RowAt wr (w.heap.size + 1) 5 (byteVals (marksTo (wants on more) k i)) ∧ RowAt wr w.heap.size 27 [.int .i64 n, .slice A on.length c] ∧ Below w.heap.size w wr) (fun iv _ => 8 * k - (intOf iv).toNat)
  case atStart => exact ⟨0, Nat.zero_le _, rfl, r1, r0, hb0⟩
  case round =>
    clear r0 r1 hb0
    obtain ⟨i, hi, rfl, r1, r0, hB⟩ := hrel
    obtain ⟨c00, c01⟩ := r0.two
    by_cases hlt : i < 8 * k
    · have hx1 : Bt wr (.agg #[.int .i64 n, .slice A on.length c]) n on := hx.on hB
      have HON := ron_any _ n on (i : Int) wr hx1 h9
      have hlen := marksTo_length (wants on more) k i
      have hadd := marks_add (wants on more) k i hlt
      have HSt : Hid (marksTo (wants on more) k (i + 1) = if wants on more i then putBit (marksTo (wants on more) k i) i else marksTo (wants on more) k i) := rfl
      have HW : Hid (wants on more i = (decide ((i : Int) = more) || decide ((i : Int) ∈ on))) := rfl
      generalize hm : marksTo (wants on more) k i = m at *
      clear hm
      by_cases c1 : (i : Int) = more
      · have d1 : ((i : Int) == more) = true := by simpa using c1
        have hw1 : wants on more i = true := by rw [HW.out]; simp [c1]
        rw [hw1] at HSt
        have HS2 : Hid (marksTo (wants on more) k (i + 1) = putBit m i) := HSt
        clear hw1 c1
        have hc1 : wr.cell? ⟨w.heap.size + 1, i / 8, none⟩ = some (.int .u8 ((m.getD (i / 8) 0).toNat : Int)) := by rw [r1.cell, mark_cell m i (by omega)]
        have hf1 := r1.frozen (i / 8)
        have R := r1.set (i / 8) (.int .u8 ((UInt8.ofNat ((m.getD (i / 8) 0).toNat ||| 2 ^ (i % 8))).toNat : Int))
        rw [mark_row] at R
        have HO := Lib.hid (byte_add (m.getD (i / 8) 0) (i % 8) (by omega) hadd)
        have HR := Lib.hid R
        have r0' := r0.far (p := ⟨w.heap.size + 1, i / 8, none⟩) (by simp) (.int .u8 ((UInt8.ofNat ((m.getD (i / 8) 0).toNat ||| 2 ^ (i % 8))).toNat : Int))
        have hb2 := hB.setCell (p := ⟨w.heap.size + 1, i / 8, none⟩) (by simp) (.int .u8 ((UInt8.ofNat ((m.getD (i / 8) 0).toNat ||| 2 ^ (i % 8))).toNat : Int))
        have HB := Lib.hid hb2
        have HR0 := Lib.hid r0'
        clear R hb2 r1 r0' hadd
        generalize hq : (UInt8.ofNat ((m.getD (i / 8) 0).toNat ||| 2 ^ (i % 8))) = q at *
        generalize hz : m.getD (i / 8) 0 = z at *
        clear hq hz
        go_wp2_with fail
        go_region
        go_wp2_with fail
        go_roundw
        case rel => exact ⟨i + 1, by omega, by go_num, by rw [HS2.out, HO.out]; exact HR.out, by rw [HO.out]; exact HR0.out, by rw [HO.out]; exact HB.out.drew⟩
        case measure => simp [intOf]; omega
      · have d1 : ((i : Int) == more) = false := by simpa using c1
        have hw1 : wants on more i = decide ((i : Int) ∈ on) := by rw [HW.out]; simp [c1]
        rw [hw1] at HSt
        clear hw1 c1
        generalize decide ((i : Int) ∈ on) = t at *
        cases t
        · have HS2 : Hid (marksTo (wants on more) k (i + 1) = m) := HSt
          go_wp2_with fail
          with_reducible refine HON.mono ?_
          rintro e w2 ⟨rfl, hb2⟩
          go_wp2_with fail
          go_roundw
          case rel => exact ⟨i + 1, by omega, by go_num, by rw [HS2.out]; exact r1.on hb2, r0.on hb2, hB.trans (hb2.mono hB.size)⟩
          case measure => simp [intOf]; omega
        · have HS2 : Hid (marksTo (wants on more) k (i + 1) = putBit m i) := HSt
          go_wp2_with fail
          with_reducible refine HON.mono ?_
          rintro e w2 ⟨rfl, hb2⟩
          replace r1 := r1.on hb2
          replace r0 := r0.on hb2
          replace hB := hB.trans (hb2.mono hB.size)
          have hc1 : w2.cell? ⟨w.heap.size + 1, i / 8, none⟩ = some (.int .u8 ((m.getD (i / 8) 0).toNat : Int)) := by rw [r1.cell, mark_cell m i (by omega)]
          have hf1 := r1.frozen (i / 8)
          have R := r1.set (i / 8) (.int .u8 ((UInt8.ofNat ((m.getD (i / 8) 0).toNat ||| 2 ^ (i % 8))).toNat : Int))
          rw [mark_row] at R
          have HO := Lib.hid (byte_add (m.getD (i / 8) 0) (i % 8) (by omega) hadd)
          have HR := Lib.hid R
          have r0' := r0.far (p := ⟨w.heap.size + 1, i / 8, none⟩) (by simp) (.int .u8 ((UInt8.ofNat ((m.getD (i / 8) 0).toNat ||| 2 ^ (i % 8))).toNat : Int))
          have hbb := hB.setCell (p := ⟨w.heap.size + 1, i / 8, none⟩) (by simp) (.int .u8 ((UInt8.ofNat ((m.getD (i / 8) 0).toNat ||| 2 ^ (i % 8))).toNat : Int))
          have HB := Lib.hid hbb
          have HR0 := Lib.hid r0'
          clear R hbb r1 r0' hadd hb2
          generalize hq : (UInt8.ofNat ((m.getD (i / 8) 0).toNat ||| 2 ^ (i % 8))) = q at *
          generalize hz : m.getD (i / 8) 0 = z at *
          clear hq hz
          go_wp2_with fail
          go_region
          go_wp2_with fail
          go_roundw
          case rel => exact ⟨i + 1, by omega, by go_num, by rw [HS2.out, HO.out]; exact HR.out, by rw [HO.out]; exact HR0.out, by rw [HO.out]; exact HB.out.drew⟩
          case measure => simp [intOf]; omega
    · obtain rfl : i = 8 * k := by omega
      have hcv := back_bytes k (w.heap.size + 1) k _ wr (marksTo_length _ _ _) r1
      clear r1
      go_wp2_with fail
      go_ret
      exact ⟨rfl, hB⟩
theorem marks_list {n : Int} {on : List Int} (h : rightB n on = true) : marksTo (wants on n) (n.toNat / 8 + 1) (8 * (n.toNat / 8 + 1)) = listOf n on := by
  obtain ⟨⟨h1, h2⟩, h3, h4⟩ := (rightB_iff _ _).1 h
  refine bytes_ext_bits (by rw [marksTo_length, listOf_length]) fun j => ?_
  rw [bitAt_marksTo _ _ _ _ (Nat.le_refl _), bitAt_listOf h]
  unfold wants
  by_cases hj : j < 8 * (n.toNat / 8 + 1)
  · have e : (n.toNat = j) = ((j : Int) = n) := by apply propext; omega
    simp only [hj, decide_true, Bool.true_and, e, Bool.or_comm]
  · have e1 : ¬ (j : Int) ∈ on := fun h => by have := (h4 _ h).2; omega
    have e2 : ¬ n.toNat = j := by omega
    simp [hj, e1, e2]
theorem marks_vec {n : Int} {on : List Int} (h : rightB n on = true) : marksTo (wants on (-1)) ((n.toNat + 7) / 8) (8 * ((n.toNat + 7) / 8)) = vecOf n on := by
  obtain ⟨⟨h1, h2⟩, h3, h4⟩ := (rightB_iff _ _).1 h
  refine bytes_ext_bits (by rw [marksTo_length, vecOf_length]) fun j => ?_
  rw [bitAt_marksTo _ _ _ _ (Nat.le_refl _), bitAt_vecOf h]
  unfold wants
  have e0 : ¬ (j : Int) = -1 := by omega
  by_cases hj : j < 8 * ((n.toNat + 7) / 8)
  · simp only [hj, decide_true, Bool.true_and, e0, decide_false, Bool.false_or]
  · have e1 : ¬ (j : Int) ∈ on := fun h => by have := (h4 _ h).2; omega
    simp [hj, e1]
set_option maxHeartbeats 1000000 in
theorem rList_any (x : Value) (n : Int) (on : List Int) (w : World) (hx : Bt w x n on) (h9 : on.length ≤ maxLen) :
    Calls Tryz.prog 30 #[x] w fun e w' => e = .returned (.tuple #[.string ⟨(lstOf n on).toArray⟩, .int .i64 (argErr (rightB n on))]) ∧ Below w.heap.size w w' := by
  obtain ⟨A, c, rfl, hc, hv⟩ := hx.form
  have hx1 := hx.alloc (.cells #[.int .i64 n, .slice A on.length c] 27)
  have HR := rbRight_any _ _ _ _ hx1 h9
  unfold lstOf argErr
  cases hr : rightB n on
  · rw [hr] at HR
    go_enter Tryz.func30, Tryz.ntmps30
    go_wp2_with fail
    with_reducible refine HR.mono ?_
    rintro e w1 ⟨rfl, hb1⟩
    clear HR hr
    go_wp2_with fail
    go_ret2
    exact ⟨rfl, ((Below.refl _ w).alloc (Nat.le_refl _) _).trans (hb1.mono (by simp))⟩
  · rw [hr] at HR
    have HL := Lib.hid (marks_list hr)
    obtain ⟨m, rfl, hm, hon⟩ := right_nat hr
    rw [Int.toNat_natCast] at HL
    go_enter Tryz.func30, Tryz.ntmps30
    go_wp2_with fail
    with_reducible refine HR.mono ?_
    rintro e w1 ⟨rfl, hb1⟩
    obtain ⟨hc0, hc1⟩ := box_bits _ _ _ hb1
    have hw1 : Below w.heap.size w w1 := ((Below.refl _ w).alloc (Nat.le_refl _) _).trans (hb1.mono (by simp))
    clear HR hr hb1
    have e1 : ((m / 8 + 1 : Nat) : Int) = (m : Int) / 8 + 1 := by omega
    have HB := rbytes_any _ (m : Int) on (m / 8 + 1) (m : Int) w1 (hx.on hw1) h9 (by omega)
    rw [e1, HL.out] at HB
    clear HL e1
    go_wp2_with fail
    with_reducible refine HB.mono ?_
    rintro e w2 ⟨rfl, hb2⟩
    clear HB
    go_wp2_with fail
    go_ret2
    exact ⟨rfl, hw1.trans (hb2.mono hw1.size)⟩
def rdisj (t : Bool) (a b : List Int) : Bool := t && !(a.any fun x => decide (x ∈ b))
theorem any_step (a b : List Int) (k : Nat) (hk : k < a.length) : ((a.take (k + 1)).any fun x => decide (x ∈ b)) = ((a.take k).any (fun x => decide (x ∈ b)) || decide (a[k] ∈ b)) := by
  rw [List.take_succ_eq_append_getElem hk, List.any_append]; simp
theorem all_step (a b : List Int) (k : Nat) (hk : k < a.length) : ((a.take (k + 1)).all fun x => decide (x ∈ b)) = ((a.take k).all (fun x => decide (x ∈ b)) && decide (a[k] ∈ b)) := by
  rw [List.take_succ_eq_append_getElem hk, List.all_append]; simp
set_option maxHeartbeats 2000000 in
set_option maxRecDepth 100000 in
theorem rset_any (s : ByteArray) (n : Nat) (w : World) (hn : n ≤ 8 * s.size) (hs : n ≤ 100000) :
    Calls Tryz.prog 71 #[.string s, .int .i64 n] w fun e w' => ∃ A c, e = .returned (.agg #[.int .i64 (n : Int), .slice A (onsTo s.data.toList n).length c]) ∧ Bt w' (.agg #[.int .i64 (n : Int), .slice A (onsTo s.data.toList n).length c]) n (onsTo s.data.toList n) ∧ FromOn w.heap.size (.slice A (onsTo s.data.toList n).length c) ∧ Below w.heap.size w w' := by
  obtain ⟨i0, hi, hz0, hz1, hz2⟩ := info_parts info_int
  obtain ⟨W0, hW0⟩ : ∃ W0, W0 = (w.alloc (.cells #[.int .i64 0, .slice none 0 0] 27)).alloc (.cells #[.int .i64 (n : Int), .slice none 0 0] 27) := ⟨_, rfl⟩
  have p0 : RowAt W0 w.heap.size 27 [.int .i64 0, .slice none 0 0] := by rw [hW0]; exact (RowAt.new w 27 #[.int .i64 0, .slice none 0 0]).alloc _
  have p1 : RowAt W0 (w.heap.size + 1) 27 [.int .i64 (n : Int), .slice none 0 0] := by
    have := RowAt.new (w.alloc (.cells #[.int .i64 0, .slice none 0 0] 27)) 27 #[.int .i64 (n : Int), .slice none 0 0]
    rw [World.size_alloc] at this
    rw [hW0]; exact this
  have hB0 : Below w.heap.size w W0 := by rw [hW0]; exact ((Below.refl _ w).alloc (Nat.le_refl _) _).alloc (by simp) _
  have hs0 : w.heap.size + 2 ≤ W0.heap.size := by rw [hW0]; simp
  go_enter Tryz.func71, Tryz.ntmps71
  go_wp2_with fail
  rw [← hW0]
  clear hW0
  go_loopw [6] (fun iv wr => ∃ i : Nat, i ≤ n ∧ iv = .int .i64 i ∧ (∃ u, RowAt wr (w.heap.size + 1) 27 [.int .i64 (n : Int), u] ∧ wr.ownsRow W0.heap.size 3 1 u (onsTo s.data.toList i).length ((onsTo s.data.toList i).map (Value.int .i64))) ∧ RowAt wr w.heap.size 27 [.int .i64 0, .slice none 0 0] ∧ W0.heap.size ≤ wr.heap.size ∧ Below w.heap.size w wr) (fun i _ => n - (intOf i).toNat)
  case atStart => exact ⟨0, Nat.zero_le _, rfl, ⟨_, p1, World.ownsRow_nil _ _ _ _⟩, p0, Nat.le_refl _, hB0⟩
  case round =>
    obtain ⟨i, hip, rfl, ⟨u, q1, hown⟩, q0, hsz, hB⟩ := hrel
    clear p0 p1 hB0
    obtain ⟨c10, c11⟩ := q1.two
    by_cases hlt : i < n
    · have hidx : i / 8 < s.size := by omega
      have hbit : s[i / 8].toNat.testBit (i % 8) = bitAt s.data.toList i := by
        unfold bitAt
        rw [byte_getD]
      have hmod := bit_mod s[i / 8] (i % 8)
      rw [hbit] at hmod
      have hlen := onsTo_length s.data.toList i
      have HON := Lib.hid (@onsTo_succ_on s.data.toList i)
      have HOFF := Lib.hid (@onsTo_succ_off s.data.toList i)
      generalize bitAt s.data.toList i = t at *
      clear hbit
      cases t
      · simp only [Bool.false_eq_true, if_false] at hmod
        go_wp2_with fail
        go_roundw
        case rel =>
          refine ⟨i + 1, by omega, by go_num, ⟨u, q1, ?_⟩, q0, hsz, hB⟩
          rw [HOFF.out (by trivial)]; exact hown
        case measure => simp [intOf]; omega
      · simp only [if_true] at hmod
        go_wp2_with (at_builtin; refine wpList_append_own _ rfl _ _ 25 rfl W0.heap.size 3 i0 (.int .i64 0) 1 8 Tryz.underlying25 hi hz0 hz1 hz2 rfl (by decide) _ _ _ rfl (hown.alloc _) ⟨wr.heap.size, 0, none⟩ 1 1 [.int .i64 (i : Int)] rfl rfl (cell_one_new _ _ _) (by simp [Value.oneCell']) (by have : maxLen = 9223372036854775807 := rfl; omega) (by omega) (by simp; omega) ?_; intro v' w1 hown2 hgrow _; obtain ⟨g', cap', rfl⟩ := ownsRow_succ hown2; have d3 := rowAt_append hown hgrow q1 (by omega); have d31 := d3.cell 1; have d30 := d3.frozen 1; simp only [List.getElem?_cons_zero, List.getElem?_cons_succ] at d31)
        have hgrow' : (wr.alloc (.cells #[.int .i64 (i : Int)] 3)).grownBy w1 u.ownBlock := hgrow
        go_roundw
        case rel =>
          refine ⟨i + 1, by omega, by go_num, ⟨_, d3.set 1 _, ?_⟩, (rowAt_append hown hgrow' q0 (by omega)).far (p := ⟨w.heap.size + 1, 1, none⟩) (by simp) _, ?_, hB.trans (below_append hown hgrow' (by omega) (by have := hB.size; omega) (p := ⟨w.heap.size + 1, 1, none⟩) (by simp) _)⟩
          · have := ownsRow_setCell_below hown2 (a := ⟨w.heap.size + 1, 1, none⟩) (by show w.heap.size + 1 < _; omega) (.slice (some ⟨g', 0, none⟩) ((onsTo s.data.toList i).length + 1) cap')
            rw [HON.out (by trivial)]
            simpa using this
          · have := hgrow'.size
            simp [World.setCell] at this ⊢
            omega
        case measure => simp [intOf]; omega
    · obtain rfl : n = i := by omega
      obtain ⟨Au, cu, rfl⟩ : ∃ Au cu, u = .slice Au (onsTo s.data.toList n).length cu := by
        obtain ⟨Au, cu, e, _⟩ := (Elems.own (enc := Value.int .i64) (xs := onsTo s.data.toList n) hown).form
        exact ⟨Au, cu, e⟩
      have HO := Lib.hid hown
      have HQ := Lib.hid q0
      obtain ⟨c00, c01⟩ := q0.two
      have f0 := q0.frozen 0
      have f1 := q0.frozen 1
      clear hown q0
      go_wp2_with fail
      have R := (HQ.out.set 0 (.int .i64 (n : Int))).set 1 (.slice Au (onsTo s.data.toList n).length cu)
      have e0 := R.cell 0
      have e1 := R.cell 1
      simp only [List.set_cons_zero, List.set_cons_succ, List.getElem?_cons_zero, List.getElem?_cons_succ] at e0 e1
      refine bodyPost_ret (v := .agg #[.int .i64 (n : Int), .slice Au (onsTo s.data.toList n).length cu]) (by simp [results, Tryz.results71, go_sem, e0, e1]) rfl ?_
      refine ⟨Au, cu, rfl, ⟨_, rfl, ?_⟩, (fromOn_own HO.out).less (by omega), (hB.setCell (p := ⟨w.heap.size, 0, none⟩) (Nat.le_refl _) _).setCell (p := ⟨w.heap.size, 1, none⟩) (Nat.le_refl _) _⟩
      have := ownsRow_setCell_below (ownsRow_setCell_below HO.out (a := ⟨w.heap.size, 0, none⟩) (by show w.heap.size < _; omega) (.int .i64 (n : Int))) (a := ⟨w.heap.size, 1, none⟩) (by show w.heap.size < _; omega) (.slice Au (onsTo s.data.toList n).length cu)
      exact Elems.own this
theorem ints_store2 {w : World} {v : Value} {l : List Int} {g lo : Nat} (h : Ints w w.heap.size v l) (hf : FromOn lo v) (hg : g < lo) (u u' : Value) : Ints ((w.setCell ⟨g, 0, none⟩ u).setCell ⟨g, 1, none⟩ u') ((w.setCell ⟨g, 0, none⟩ u).setCell ⟨g, 1, none⟩ u').heap.size v l := by
  have hne : ∀ ad n c, v = .slice (some ad) n c → ad.block ≠ g := fun ad n c e => by have := hf ad n c e; omega
  have := Elems.apart_of (Elems.apart_of h hne (p := ⟨g, 0, none⟩) rfl u) hne (p := ⟨g, 1, none⟩) rfl u'
  simpa [World.setCell] using this
theorem onsTo_end {l : List UInt8} (h0 : l ≠ []) (h1 : l.getD (l.length - 1) 0 ≠ 0) : onsTo l (endAt l).toNat = (onsOf l).dropLast := by
  obtain ⟨e0, e1, e2, e3⟩ := end_top h0 h1
  obtain ⟨p, hm⟩ := drop_mem h0 h1
  refine rise_ext (onsTo_rises _ _) p fun x => ?_
  rw [mem_onsTo, hm]
  constructor
  · rintro ⟨g0, g1, g2⟩; exact ⟨g0, g2, by omega⟩
  · rintro ⟨g0, g1, g2⟩; exact ⟨g0, by omega, g1⟩
theorem bits_of_vec (l : List UInt8) (n : Nat) (hn : n ≤ 2048) (hl : l.length = (n + 7) / 8) : (vecOf n (onsTo l n) = l ↔ ∀ y ∈ onsOf l, y < (n : Int)) ∧ rightB n (onsTo l n) = true ∧ ((∀ y ∈ onsOf l, y < (n : Int)) → onsTo l n = onsOf l) := by
  have hr : rightB n (onsTo l n) = true := (rightB_iff _ _).2 ⟨⟨by omega, by omega⟩, onsTo_rises _ _, fun x hx => by have := mem_onsTo.1 hx; omega⟩
  refine ⟨⟨fun h y hy => ?_, fun h => ?_⟩, hr, fun h => ?_⟩
  · have h2 := onsOf_vecOf hr
    rw [h] at h2
    rw [h2] at hy
    exact (mem_onsTo.1 hy).2.1
  · refine bytes_ext_bits (by rw [vecOf_length, hl, Int.toNat_natCast]) fun j => ?_
    rw [bitAt_vecOf hr]
    have e : ((j : Int).toNat) = j := by omega
    by_cases hb : bitAt l j = true
    · have hj := h (j : Int) (mem_onsOf.2 ⟨by omega, by rw [e]; exact hb⟩)
      have : (j : Int) ∈ onsTo l n := mem_onsTo.2 ⟨by omega, hj, by rw [e]; exact hb⟩
      simp [this, hb]
    · have : ¬ (j : Int) ∈ onsTo l n := fun k => hb (by have := (mem_onsTo.1 k).2.2; rwa [e] at this)
      simp [this, hb]
  · refine rise_ext (onsTo_rises _ _) (onsOf_rises _) fun x => ?_
    rw [mem_onsTo, mem_onsOf]
    constructor
    · rintro ⟨g0, _, g2⟩; exact ⟨g0, g2⟩
    · rintro ⟨g0, g2⟩; exact ⟨g0, h x (mem_onsOf.2 ⟨g0, g2⟩), g2⟩
set_option maxHeartbeats 2000000 in
theorem rUnlist_form (s : ByteArray) (most : Int) (w : World) (hs : s.size ≤ 1000000) (h : s.data.toList = [] ∨ s.data.toList.getD (s.data.toList.length - 1) 0 = 0) :
    Calls Tryz.prog 40 #[.string s, .int .i64 most] w fun e w' => e = .returned (.tuple #[.agg #[.int .i64 0, .slice none 0 0], .int .i64 2]) ∧ Below w.heap.size w w' := by
  rcases Nat.eq_zero_or_pos s.size with h0 | h0
  · obtain rfl : s = ⟨#[]⟩ := by
      apply WideShapes.bytes_inj
      exact List.eq_nil_of_length_eq_zero (by simpa using h0)
    clear h h0 hs
    go_enter Tryz.func40, Tryz.ntmps40
    go_wp2_with fail
    refine bodyPost_ret (v := .tuple #[.agg #[.int .i64 0, .slice none 0 0], .int .i64 2]) (by simp [results, Tryz.results40, go_sem]) rfl ?_
    exact ⟨rfl, (Below.refl _ w).alloc (Nat.le_refl _) _⟩
  · have hz : s[s.size - 1].toNat = 0 := by
      rw [byte_getD]
      rcases h with h | h
      · have h1 : s.data.toList.length = 0 := by rw [h]; rfl
        rw [bytes_length] at h1; omega
      · rw [bytes_length] at h
        rw [h]; rfl
    have hd : ((s.size : Int) == 0) = false := by simp only [beq_eq_false_iff_ne, ne_eq]; omega
    clear h
    go_enter Tryz.func40, Tryz.ntmps40
    go_wp2_with fail
    refine bodyPost_ret (v := .tuple #[.agg #[.int .i64 0, .slice none 0 0], .int .i64 2]) (by simp [results, Tryz.results40, go_sem]) rfl ?_
    exact ⟨rfl, (Below.refl _ w).alloc (Nat.le_refl _) _⟩
set_option maxHeartbeats 4000000 in
set_option maxRecDepth 100000 in
theorem rUnlist_rest (s : ByteArray) (most : Int) (w : World) (hs : s.size ≤ 1000000) (h : ¬ (s.data.toList = [] ∨ s.data.toList.getD (s.data.toList.length - 1) 0 = 0)) :
    Calls Tryz.prog 40 #[.string s, .int .i64 most] w fun e w' => ∃ x, e = .returned (.tuple #[x, .int .i64 (unlistOf s.data.toList most).2.2]) ∧ Bt w' x (unlistOf s.data.toList most).1 (unlistOf s.data.toList most).2.1 ∧ Below w.heap.size w w' := by
  obtain ⟨h0, hne, hz⟩ := not_nil_of h
  have hz1 : ((s[s.size - 1].toNat : Int) == 0) = false := by
    rw [byte_getD]
    simp only [beq_eq_false_iff_ne, ne_eq]
    intro e
    exact hz (UInt8.toNat_inj.1 (by simpa using e))
  have hd : ((s.size : Int) == 0) = false := by simp only [beq_eq_false_iff_ne, ne_eq]; omega
  obtain ⟨e0, e1, e2, e3⟩ := end_top (l := s.data.toList) (fun e => h (.inl e)) (fun e => h (.inr e))
  have HE := Lib.hid (onsTo_end (l := s.data.toList) (fun e => h (.inl e)) (fun e => h (.inr e)))
  have HU : Hid (unlistOf s.data.toList most = if most < endAt s.data.toList ∨ 2048 < endAt s.data.toList then (0, [], 4) else (endAt s.data.toList, (onsOf s.data.toList).dropLast, 0)) := by
    unfold unlistOf
    rw [if_neg h]; rfl
  rw [bytes_length] at e3
  obtain ⟨E, hE⟩ := Int.eq_ofNat_of_zero_le e0
  rw [hE] at e1 e2 e3 HE HU
  rw [Int.toNat_natCast] at e1 e3 HE
  clear h hz hne e0 hE
  have E2 := Lib.hid e2
  have hE8 : E < 8 * s.size := by omega
  clear e2 e3
  have r0 : RowAt (w.alloc (.cells #[.int .i64 0, .slice none 0 0] 27)) w.heap.size 27 [.int .i64 0, .slice none 0 0] := RowAt.new w 27 #[.int .i64 0, .slice none 0 0]
  have hw0 : Below w.heap.size w (w.alloc (.cells #[.int .i64 0, .slice none 0 0] 27)) := (Below.refl _ w).alloc (Nat.le_refl _) _
  go_enter Tryz.func40, Tryz.ntmps40
  go_wp2_with fail
  go_loop [6] (fun nv => ∃ j : Nat, E ≤ j ∧ j < 8 * s.size ∧ nv = .int .i64 j) (fun nv => (intOf nv).toNat)
  case atStart => exact ⟨8 * s.size - 1, by omega, by omega, by go_num⟩
  case round =>
    obtain ⟨j, hj1, hj2, rfl⟩ := hrel
    have hidx : j / 8 < s.size := by omega
    have hbit : s[j / 8].toNat.testBit (j % 8) = bitAt s.data.toList j := by
      unfold bitAt
      rw [byte_getD]
    have hmod := bit_mod s[j / 8] (j % 8)
    rw [hbit] at hmod
    by_cases hjE : j = E
    · subst hjE
      rw [e1] at hmod
      simp only [if_true] at hmod
      clear hbit
      by_cases c1 : most < (j : Int)
      · rw [if_pos (.inl c1)] at HU
        go_wp2_with fail
        refine bodyPost_ret (v := .tuple #[.agg #[.int .i64 0, .slice none 0 0], .int .i64 4]) (by simp [results, Tryz.results40, go_sem]) rfl ?_
        rw [HU.out]
        exact ⟨_, rfl, ⟨_, rfl, Elems.nil _ _ _⟩, hw0⟩
      · by_cases c2 : 2048 < (j : Int)
        · rw [if_pos (.inr c2)] at HU
          go_wp2_with fail
          refine bodyPost_ret (v := .tuple #[.agg #[.int .i64 0, .slice none 0 0], .int .i64 4]) (by simp [results, Tryz.results40, go_sem]) rfl ?_
          rw [HU.out]
          exact ⟨_, rfl, ⟨_, rfl, Elems.nil _ _ _⟩, hw0⟩
        · rw [if_neg (by omega)] at HU
          go_wp2_with fail
          with_reducible refine (rset_any s j _ (by omega) (by omega)).mono ?_
          rintro e w1 ⟨A, c, rfl, hA, hfo, hb1⟩
          have HA := Lib.hid hA.ints
          have HF := Lib.hid hfo
          clear hfo
          replace r0 := r0.on hb1
          have hw1 := hw0.trans (hb1.mono hw0.size)
          obtain ⟨c0, c1'⟩ := r0.two
          have f0 := r0.frozen 0
          have f1 := r0.frozen 1
          have HQ := Lib.hid r0
          clear hb1 r0 hmod
          go_wp2_with fail
          have R := (HQ.out.set 0 (.int .i64 (j : Int))).set 1 (.slice A (onsTo s.data.toList j).length c)
          have g0 := R.cell 0
          have g1 := R.cell 1
          simp only [List.set_cons_zero, List.set_cons_succ, List.getElem?_cons_zero, List.getElem?_cons_succ] at g0 g1
          refine bodyPost_ret (v := .tuple #[.agg #[.int .i64 (j : Int), .slice A (onsTo s.data.toList j).length c], .int .i64 0]) (by simp [results, Tryz.results40, go_sem, g0, g1]) rfl ?_
          rw [HU.out, ← HE.out]
          refine ⟨_, rfl, ⟨_, rfl, ?_⟩, (hw1.setCell (p := ⟨w.heap.size, 0, none⟩) (Nat.le_refl _) _).setCell (p := ⟨w.heap.size, 1, none⟩) (Nat.le_refl _) _⟩
          exact ints_store2 HA.out HF.out (by simp) _ _
    · have hoff := E2.out j (by omega)
      rw [hoff] at hmod
      simp only [Bool.false_eq_true, if_false] at hmod
      clear hbit hoff
      go_wp2_with fail
      go_round
      case rel => exact ⟨j - 1, by omega, by omega, by go_num⟩
      case measure => simp [intOf]; omega
theorem rUnlist_any (s : ByteArray) (most : Int) (w : World) (hs : s.size ≤ 1000000) :
    Calls Tryz.prog 40 #[.string s, .int .i64 most] w fun e w' => ∃ x, e = .returned (.tuple #[x, .int .i64 (unlistOf s.data.toList most).2.2]) ∧ Bt w' x (unlistOf s.data.toList most).1 (unlistOf s.data.toList most).2.1 ∧ Below w.heap.size w w' := by
  by_cases h : s.data.toList = [] ∨ s.data.toList.getD (s.data.toList.length - 1) 0 = 0
  · have e : unlistOf s.data.toList most = (0, [], 2) := by unfold unlistOf; rw [if_pos h]
    rw [e]
    exact (rUnlist_form s most w hs h).mono fun e w' ⟨he, hb⟩ => ⟨_, he, ⟨_, rfl, Elems.nil _ _ _⟩, hb⟩
  · exact rUnlist_rest s most w hs h
end Go.Proofs.YtieheieiolobaaaGreatDoor
