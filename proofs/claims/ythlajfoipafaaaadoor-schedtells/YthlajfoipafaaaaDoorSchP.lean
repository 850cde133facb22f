/- The statements' own small functions of layer 2: pick, Same.
   The statements' own Bits: of raw numbers, bits that are right.
   awake: the first calls of layer 2, whose answers are fixed.
   Steps that the laws of layer 2 share.
   Plain facts on unions (no program, but for unionOf).
   Plain facts for layer 11: which subnets are on, one behind the other; blocks of epochs; a number of bits. (No program.) -/
import Derived.Test.YthlajfoipafaaaaDoorBitK
import Derived.Test.YthlajfoipafaaaaDoorBitH
import Derived.Test.YthlajfoipafaaaaDoorBitG
import Derived.Test.YthlajfoipafaaaaDoorBitF
import Derived.Deep.QuietTactic
import Derived.BigQuiet
namespace Go.Proofs.YthlajfoipafaaaaDoor
open Go.RowKit Go.Shelf

/-- pick: which of n things a raw number speaks of. -/
def pickOf (c n : Int) : Int := (if c < 0 then -(c + 1) else c) % n
theorem pickOf_bd (c n : Int) (hn : 0 < n) : 0 ≤ pickOf c n ∧ pickOf c n < n := by
  unfold pickOf
  exact ⟨Int.emod_nonneg _ (by omega), Int.emod_lt_of_pos _ hn⟩

theorem take_eq_step {α : Type} (a b : List α) (k : Nat) (h1 : k < a.length) (h2 : k < b.length) (h : a.take k = b.take k) (he : a[k] = b[k]) : a.take (k + 1) = b.take (k + 1) := by
  rw [List.take_succ_eq_append_getElem h1, List.take_succ_eq_append_getElem h2, h, he]

def sameB (n : Int) (a : List Int) (m : Int) (b : List Int) : Bool := decide (n = m) && decide (a = b)

set_option maxHeartbeats 1000000 in
theorem Same_any (x y : Value) (n m : Int) (a b : List Int) (w : World) (hx : Bt w x n a) (hy : Bt w y m b) (h9 : a.length ≤ maxLen) (h9b : b.length ≤ maxLen) :
    Calls Tryd.prog 20 #[x, y] w fun e w' => e = .returned (.bool (sameB n a m b)) ∧ Below w.heap.size w w' := by
  obtain ⟨A, c, rfl, hc, hv⟩ := hx.form
  obtain ⟨A', c', rfl, hc', hv'⟩ := hy.form
  have h9' : a.length ≤ 9223372036854775807 := h9
  obtain ⟨W0, hW0⟩ : ∃ W0, W0 = (w.alloc (.cells #[.int .i64 n, .slice A a.length c] 37)).alloc (.cells #[.int .i64 m, .slice A' b.length c'] 37) := ⟨_, rfl⟩
  have p0 : RowAt W0 w.heap.size 37 [.int .i64 n, .slice A a.length c] := by rw [hW0]; exact (RowAt.new w 37 #[.int .i64 n, .slice A a.length c]).alloc _
  have p1 : RowAt W0 (w.heap.size + 1) 37 [.int .i64 m, .slice A' b.length c'] := by
    have := RowAt.new (w.alloc (.cells #[.int .i64 n, .slice A a.length c] 37)) 37 #[.int .i64 m, .slice A' b.length c']
    rw [World.size_alloc] at this
    rw [hW0]; exact this
  have hB0 : Below w.heap.size w W0 := by rw [hW0]; exact ((Below.refl _ w).alloc (Nat.le_refl _) _).alloc (by simp) _
  by_cases hnm : n = m
  · subst hnm
    by_cases hl : a.length = b.length
    · have hd : ((a.length : Int) != (b.length : Int)) = false := by simp [hl]
      have HL := Lib.hid hl
      clear hl
      go_enter Tryd.func20, Tryd.ntmps20
      go_wp2_with fail
      rw [← hW0]
      clear hW0
      go_loopw [5] (fun i wr => ∃ k : Nat, k ≤ a.length ∧ i = .int .i64 k ∧ a.take k = b.take k ∧ Below W0.heap.size W0 wr) (fun i _ => a.length - (intOf i).toNat)
      case atStart => exact ⟨0, Nat.zero_le _, rfl, by simp, Below.refl _ _⟩
      case round =>
        obtain ⟨k, hk, rfl, hte, hbw⟩ := hrel
        have HT := Lib.hid hte
        clear hte
        have q0 := p0.below hbw p0.lt
        have q1 := p1.below hbw p1.lt
        have c01 := q0.cell 1
        have c11 := q1.cell 1
        simp only [List.getElem?_cons_zero, List.getElem?_cons_succ] at c01 c11
        have hB := hB0.trans (hbw.mono hB0.size)
        by_cases hlt : k < a.length
        · have hlt2 : k < b.length := by have := HL.out; omega
          obtain ⟨ad, rfl, hbl, hcell⟩ := (hv.below hB (Nat.le_refl _)).at_ hlt
          obtain ⟨ad', rfl, hbl', hcell'⟩ := (hv'.below hB (Nat.le_refl _)).at_ hlt2
          have HS := Lib.hid (fun he => take_eq_step a b k hlt hlt2 HT.out he)
          have HG := Lib.hid (fun e : a = b => (show a[k] = b[k] by subst e; rfl))
          generalize hx : a[k] = x at *
          generalize hy : b[k] = y at *
          clear hx hy p0 p1
          go_wp2_with fail
          go_region
          all_goals (try go_wp2)
          · go_ret
            rename_i hne
            have hne2 : ¬ x = y := by simpa using hne
            have hdf : sameB n a n b = false := by
              unfold sameB
              rw [decide_eq_false (fun e => hne2 (HG.out e))]; simp
            exact ⟨by rw [hdf]; rfl, hB.drew⟩
          · rename_i hne
            have he : x = y := by simpa using hne
            go_roundw
            case rel => exact ⟨k + 1, by omega, by go_num, HS.out he, hbw.drew⟩
            case measure => simp [intOf]; omega
        · have hke : k = a.length := by omega
          have he : a = b := by
            have h1 := HT.out
            rw [List.take_of_length_le (by omega), List.take_of_length_le (by have := HL.out; omega)] at h1
            exact h1
          have HE := Lib.hid he
          clear he hke
          go_wp2_with fail
          go_ret
          exact ⟨by rw [show sameB n a n b = true by simp [sameB, HE.out]]; rfl, hB⟩
    · have hd : ((a.length : Int) != (b.length : Int)) = true := by simp; omega
      have he : sameB n a n b = false := by
        unfold sameB
        rw [decide_eq_false (fun e : a = b => hl (by rw [e]))]; simp
      rw [he]
      clear he
      go_enter Tryd.func20, Tryd.ntmps20
      go_wp2_with fail
      go_ret
      rw [← hW0]
      exact ⟨rfl, hB0⟩
  · have hd : (n != m) = true := by simpa using hnm
    have he : sameB n a m b = false := by simp [sameB, hnm]
    rw [he]
    clear he
    go_enter Tryd.func20, Tryd.ntmps20
    go_wp2_with fail
    go_ret
    rw [← hW0]
    exact ⟨rfl, hB0⟩
end Go.Proofs.YthlajfoipafaaaaDoor

namespace Go.Proofs.YthlajfoipafaaaaDoor
open Go.RowKit Go.Shelf

/-- Do the numbers tell i? -/
def toldBy (p : Nat) (raw : List Int) (i : Nat) : Bool := raw.any fun r => decide (pickOf r p = (i : Int))
/-- Those below k that the first forty numbers tell. -/
def pickTo (p : Nat) (raw : List Int) (k : Nat) : List Int := ((List.range k).filter fun i => toldBy p (raw.take 40) i).map fun i : Nat => (i : Int)
def pickSet (p : Nat) (raw : List Int) : List Int := pickTo p raw p
theorem pickTo_on {p : Nat} {raw : List Int} {k : Nat} (h : toldBy p (raw.take 40) k = true) : pickTo p raw (k + 1) = pickTo p raw k ++ [(k : Int)] := by
  simp [pickTo, List.range_succ, List.filter_append, h]
theorem pickTo_off {p : Nat} {raw : List Int} {k : Nat} (h : toldBy p (raw.take 40) k = false) : pickTo p raw (k + 1) = pickTo p raw k := by
  simp [pickTo, List.range_succ, List.filter_append, h]
theorem pickTo_length (p : Nat) (raw : List Int) (k : Nat) : (pickTo p raw k).length ≤ k := by
  unfold pickTo
  rw [List.length_map]
  exact Nat.le_trans (List.length_filter_le _ _) (by simp)
theorem pickSet_right (p : Nat) (raw : List Int) (h : p ≤ 2048) : rightB p (pickSet p raw) = true := by
  refine (rightB_iff _ _).2 ⟨⟨by omega, by omega⟩, ?_, ?_⟩
  · unfold pickSet pickTo
    rw [List.pairwise_map]
    exact (List.Pairwise.filter _ List.pairwise_lt_range).imp fun h => by omega
  · intro x hx
    simp only [pickSet, pickTo, List.mem_map, List.mem_filter, List.mem_range] at hx
    obtain ⟨i, ⟨h1, _⟩, rfl⟩ := hx
    omega
theorem toldBy_step (p : Nat) (raw : List Int) (k i : Nat) (hk : k < raw.length) : toldBy p (raw.take (k + 1)) i = (toldBy p (raw.take k) i || decide (pickOf raw[k] p = (i : Int))) := by
  unfold toldBy
  rw [List.take_succ_eq_append_getElem hk, List.any_append]
  simp

theorem owns_below {W W' : World} {base : Nat} {e : TypeId} {size k : Nat} {v : Value} {xs : List Value} (h : W.ownsRow base e size v k xs) (hb : Below W.heap.size W W') : W'.ownsRow base e size v k xs :=
  h.kept (row := none) ⟨hb.os, hb.tape, hb.output, hb.size, fun k hk _ => hb.block k hk⟩ (by
    rcases h.2 with ⟨rfl, _⟩ | ⟨g, cap, cur, rfl, _⟩
    · exact .inl rfl
    · exact .inr (by simp [Value.ownBlock]))

theorem Newer.own {W : World} {base lo : Nat} {e : TypeId} {size k : Nat} {h v : Value} {xs : List Value} (ho : W.ownsRow base e size v k xs) (hl : lo ≤ base) : Newer lo (.agg #[h, v]) := fun h' ad n c he => by
  injection he with he
  have e2 : #[h, v].toList = #[h', Value.slice (Option.some ad) n c].toList := by rw [he]
  simp at e2
  obtain ⟨_, rfl⟩ := e2
  exact Nat.le_trans hl (ho.lt _ rfl).1
end Go.Proofs.YthlajfoipafaaaaDoor

namespace Go.Proofs.YthlajfoipafaaaaDoor
open Go.RowKit Go.Shelf

/-- One more in a row: bits that were built. -/
theorem BtRow.one {w : World} {n : Int} {on : List Int} {v : Value} (h : Ints w w.heap.size v on) (t : TypeId) (B : Nat) (hB : w.heap.size = B) : BtRow (w.alloc (.cells #[.int .i64 n, v] t)) (.slice (some ⟨B, 0, none⟩) 1 1) [(n, on)] := by
  subst hB
  refine ⟨_, 1, rfl, Nat.le_refl _, fun _ => ⟨⟨w.heap.size, 0, none⟩, rfl, by simp, fun j b hj => ?_⟩⟩
  have hr := RowAt.new w t #[.int .i64 n, v]
  cases j with
  | zero =>
    simp at hj
    subst hj
    exact ⟨v, hr.cell 0, hr.cell 1, h.alloc _⟩
  | succ j => simp at hj
theorem BtRow.two {w : World} {n m : Int} {a b : List Int} {u v : Value} (h : Ints w w.heap.size u a) (h' : Ints w w.heap.size v b) (t : TypeId) (B : Nat) (hB : w.heap.size = B) : BtRow (w.alloc (.cells #[.int .i64 n, u, .int .i64 m, v] t)) (.slice (some ⟨B, 0, none⟩) 2 2) [(n, a), (m, b)] := by
  subst hB
  refine ⟨_, 2, rfl, Nat.le_refl _, fun _ => ⟨⟨w.heap.size, 0, none⟩, rfl, by simp, fun j x hj => ?_⟩⟩
  have hr := RowAt.new w t #[.int .i64 n, u, .int .i64 m, v]
  match j, hj with
  | 0, hj =>
    simp at hj
    subst hj
    exact ⟨u, hr.cell 0, hr.cell 1, h.alloc _⟩
  | 1, hj =>
    simp at hj
    subst hj
    exact ⟨v, hr.cell 2, hr.cell 3, h'.alloc _⟩
theorem Bt.ints {w : World} {n : Int} {A : Option Addr} {l c : Nat} {on : List Int} (h : Bt w (.agg #[.int .i64 n, .slice A l c]) n on) : Ints w w.heap.size (.slice A l c) on := by
  obtain ⟨v, e, hv⟩ := h
  have : v = .slice A l c := by
    injection e with e
    have := congrArg (fun (a : Array Value) => a[1]?) e
    simpa using this.symm
  rw [← this]; exact hv
theorem ints_new (w : World) (xs : List Int) (k : Nat) (hk : xs.length = k) (t : TypeId) : Ints (w.alloc (.cells (xs.map (Value.int .i64)).toArray t)) (w.alloc (.cells (xs.map (Value.int .i64)).toArray t)).heap.size (.slice (some ⟨w.heap.size, 0, none⟩) k k) xs := by
  subst hk
  exact Elems.row (by have := RowAt.new w t (xs.map (Value.int .i64)).toArray; simpa using this)
theorem bt_new2 (w : World) (n a b : Int) (t : TypeId) (B : Nat) (hB : w.heap.size = B) : Bt (w.alloc (.cells #[.int .i64 a, .int .i64 b] t)) (.agg #[.int .i64 n, .slice (some ⟨B, 0, none⟩) 2 2]) n [a, b] := by
  subst hB; exact ⟨_, rfl, ints_new w [a, b] 2 rfl t⟩
theorem bt_new1 (w : World) (n a : Int) (t : TypeId) (B : Nat) (hB : w.heap.size = B) : Bt (w.alloc (.cells #[.int .i64 a] t)) (.agg #[.int .i64 n, .slice (some ⟨B, 0, none⟩) 1 1]) n [a] := by
  subst hB; exact ⟨_, rfl, ints_new w [a] 1 rfl t⟩
theorem bt_nil (w : World) (n : Int) : Bt w (.agg #[.int .i64 n, .slice none 0 0]) n [] := ⟨_, rfl, Elems.nil _ _ _⟩

theorem Same_eq (x y : Value) (n m : Int) (a b : List Int) (w : World) (r : Bool) (hr : sameB n a m b = r) (hx : Bt w x n a) (hy : Bt w y m b) (h9 : a.length ≤ maxLen) (h9b : b.length ≤ maxLen) :
    Calls Tryd.prog 20 #[x, y] w fun e w' => e = .returned (.bool r) ∧ Below w.heap.size w w' := by
  subst hr; exact Same_any x y n m a b w hx hy h9 h9b
theorem Subset_eq (x y : Value) (n m : Int) (a b : List Int) (w : World) (r : Bool) (hr : subOf n a m b = r) (hx : Bt w x n a) (hy : Bt w y m b) (h9 : a.length ≤ maxLen) (h9b : b.length ≤ maxLen) :
    Calls Tryd.prog 24 #[x, y] w fun e w' => e = .returned (.bool r) ∧ Below w.heap.size w w' := by
  subst hr; exact Subset_any x y n m a b w hx hy h9 h9b
theorem Has_eq (x : Value) (n : Int) (on : List Int) (i : Int) (w : World) (r : Bool) (hr : hasOf n on i = r) (hx : Bt w x n on) (h9 : on.length ≤ maxLen) :
    Calls Tryd.prog 22 #[x, .int .i64 i] w fun e w' => e = .returned (.bool r) ∧ Below w.heap.size w w' := by
  subst hr; exact Has_any x n on i w hx h9
theorem Right_eq (x : Value) (n : Int) (on : List Int) (w : World) (r : Bool) (hr : rightB n on = r) (hx : Bt w x n on) (h9 : on.length ≤ maxLen) :
    Calls Tryd.prog 21 #[x] w fun e w' => e = .returned (.bool r) ∧ Below w.heap.size w w' := by
  subst hr; exact Right_any x n on w hx h9

theorem len_small (on : List Int) (k : Nat) (h : on.length = k) (hk : k ≤ 100) : on.length ≤ maxLen := by
  have : maxLen = 9223372036854775807 := rfl
  omega

end Go.Proofs.YthlajfoipafaaaaDoor

namespace Go.Proofs.YthlajfoipafaaaaDoor
open Go.RowKit Go.Shelf

def I64 (n : Int) : Prop := -9223372036854775808 ≤ n ∧ n ≤ 9223372036854775807
theorem pick_nat (n below : Int) (h : 0 < below) : ∃ P : Nat, pickOf n below = (P : Int) ∧ (P : Int) < below := by
  obtain ⟨h0, h1⟩ := pickOf_bd n below h
  obtain ⟨P, hP⟩ := Int.eq_ofNat_of_zero_le h0
  exact ⟨P, hP, by omega⟩
theorem pickSet_length (P : Nat) (raw : List Int) (h : P ≤ 2000) : (pickSet P raw).length ≤ 2000 := Nat.le_trans (pickTo_length P raw P) h
theorem small_len {l : List Int} (h : l.length ≤ 5000) : l.length ≤ maxLen := by
  have : maxLen = 9223372036854775807 := rfl
  omega
theorem mk_list (l : List UInt8) : (⟨l.toArray⟩ : ByteArray).data.toList = l := rfl
theorem mk_size (l : List UInt8) : (⟨l.toArray⟩ : ByteArray).size = l.length := by simp [ByteArray.size]
theorem toList_mk (l : List UInt8) : (⟨l.toArray⟩ : ByteArray).toList = l := by rw [ByteArray.toList_eq]
end Go.Proofs.YthlajfoipafaaaaDoor

namespace Go.Proofs.YthlajfoipafaaaaDoor
open Go.RowKit Go.Shelf

theorem right_ext {P : Nat} {a b : List Int} (ha : rightB P a = true) (hb : rightB P b = true) (h : ∀ x, x ∈ a ↔ x ∈ b) : a = b :=
  rise_ext ((rightB_iff _ _).1 ha).2.1 ((rightB_iff _ _).1 hb).2.1 h

theorem putBits_mem (P : Nat) (a : List Int) (more : List (Int × List Int)) (ha : rightB P a = true) (hm : more.all (likeB P) = true) (j : Nat) :
    bitAt (putBits (vecOf P a) (more.flatMap (·.2))) j = decide ((j : Int) ∈ a ∨ ∃ b ∈ more, (j : Int) ∈ b.2) := by
  rw [bitAt_putBits _ _ _ (fun x hx => ?_), bitAt_vecOf ha]
  · by_cases h1 : (j : Int) ∈ a
    · simp [h1]
    · by_cases h2 : ∃ b ∈ more, (j : Int) ∈ b.2
      · have h3 : (j : Int) ∈ more.flatMap (·.2) := by obtain ⟨b, hb, hj⟩ := h2; exact List.mem_flatMap.2 ⟨b, hb, hj⟩
        simp only [h1, h2, h3, decide_true, decide_false, Bool.or_true, or_true]
      · have h3 : ¬ (j : Int) ∈ more.flatMap (·.2) := fun h => h2 (by obtain ⟨b, hb, hj⟩ := List.mem_flatMap.1 h; exact ⟨b, hb, hj⟩)
        simp only [h1, h2, h3, decide_false, Bool.or_false, or_false]
  · obtain ⟨b, hb, hxb⟩ := List.mem_flatMap.1 hx
    have h1 := List.all_eq_true.1 hm b hb
    simp only [likeB, Bool.and_eq_true, decide_eq_true_eq] at h1
    have h2 := ((rightB_iff _ _).1 h1.1).2.2 x hxb
    rw [vecOf_length, Int.toNat_natCast]
    omega

theorem union_of (P : Nat) (a : List Int) (more : List (Int × List Int)) (ha : rightB P a = true) (hm : more.all (likeB P) = true) :
    ∃ u, unionOf P a more = ((P : Int), u, 0) ∧ rightB P u = true ∧ ∀ x, x ∈ u ↔ (x ∈ a ∨ ∃ b ∈ more, x ∈ b.2) := by
  refine ⟨onsOf (putBits (vecOf P a) (more.flatMap (·.2))), ?_, ?_, ?_⟩
  · unfold unionOf
    rw [if_pos (by rw [ha, hm]; rfl)]
  · obtain ⟨h1, h2, h3⟩ := (rightB_iff _ _).1 ha
    refine (rightB_iff _ _).2 ⟨h1, onsOf_rises _, fun x hx => ?_⟩
    obtain ⟨g0, g1⟩ := mem_onsOf.1 hx
    rw [putBits_mem P a more ha hm] at g1
    simp only [decide_eq_true_eq] at g1
    have e : ((x.toNat : Nat) : Int) = x := by omega
    rw [e] at g1
    refine ⟨g0, ?_⟩
    rcases g1 with g1 | ⟨b, hb, g1⟩
    · exact (h3 x g1).2
    · have h4 := List.all_eq_true.1 hm b hb
      simp only [likeB, Bool.and_eq_true, decide_eq_true_eq] at h4
      have h5 := ((rightB_iff _ _).1 h4.1).2.2 x g1
      omega
  · intro x
    rw [mem_onsOf]
    constructor
    · rintro ⟨g0, g1⟩
      rw [putBits_mem P a more ha hm] at g1
      simp only [decide_eq_true_eq] at g1
      have e : ((x.toNat : Nat) : Int) = x := by omega
      rw [e] at g1
      exact g1
    · intro h
      have hx : 0 ≤ x := by
        rcases h with h | ⟨b, hb, h⟩
        · exact (((rightB_iff _ _).1 ha).2.2 x h).1
        · have h4 := List.all_eq_true.1 hm b hb
          simp only [likeB, Bool.and_eq_true, decide_eq_true_eq] at h4
          exact (((rightB_iff _ _).1 h4.1).2.2 x h).1
      have e : ((x.toNat : Nat) : Int) = x := by omega
      refine ⟨hx, ?_⟩
      rw [putBits_mem P a more ha hm, e]
      simpa using h

/-- A rising list of numbers below P has at most P. -/
theorem rise_len : ∀ (l : List Int) (lo hi : Int), l.Pairwise (· < ·) → (∀ x ∈ l, lo ≤ x ∧ x < hi) → (l.length : Int) ≤ max 0 (hi - lo)
  | [], lo, hi, _, _ => by simp; omega
  | x :: l, lo, hi, hr, hb => by
    have hx := hb x (by simp)
    have h := rise_len l (x + 1) hi (List.pairwise_cons.1 hr).2 (fun y hy => ⟨by have := (List.pairwise_cons.1 hr).1 y hy; omega, (hb y (by simp [hy])).2⟩)
    simp only [List.length_cons]
    omega
theorem right_len {P : Nat} {a : List Int} (ha : rightB P a = true) (hP : P ≤ 2000) : a.length ≤ 2000 := by
  obtain ⟨h1, h2, h3⟩ := (rightB_iff _ _).1 ha
  have := rise_len a 0 P h2 h3
  omega
theorem rise_nodup {a : List Int} (h : a.Pairwise (· < ·)) : a.Nodup := h.imp fun h => by omega

/-- How many of a list's elements are in another, and how many are not. -/
theorem sub_of {P : Nat} {a b : List Int} (ha : rightB P a = true) (hb : rightB P b = true) : subOf P a P b = true ↔ ∀ x ∈ a, x ∈ b := by
  simp [subOf, alikeB, ha, hb]
theorem disj_of {P : Nat} {a b : List Int} (ha : rightB P a = true) (hb : rightB P b = true) : disjOf P a P b = true ↔ ∀ x ∈ a, ¬ x ∈ b := by
  simp [disjOf, alikeB, ha, hb]
theorem rise_filter {l : List Int} (p : Int → Bool) (h : l.Pairwise (· < ·)) : (l.filter p).Pairwise (· < ·) := List.Pairwise.filter _ h
theorem len_parts (p : Int → Bool) : ∀ l : List Int, l.length = (l.filter p).length + (l.filter fun x => !p x).length
  | [] => rfl
  | x :: l => by
    have h := len_parts p l
    by_cases hx : p x = true
    · simp only [List.filter_cons, hx, if_true, List.length_cons, Bool.not_true, Bool.false_eq_true, if_false]; omega
    · simp only [List.filter_cons, hx, if_false, List.length_cons, Bool.not_false, Bool.false_eq_true, if_true, show p x = false by simpa using hx]; omega
theorem sub_len {a b : List Int} (ha : a.Pairwise (· < ·)) (hb : b.Pairwise (· < ·)) (h : ∀ x ∈ a, x ∈ b) : a.length ≤ b.length := by
  have e : a = b.filter (fun x => decide (x ∈ a)) := rise_ext ha (rise_filter _ hb) (fun x => by
    simp only [List.mem_filter, decide_eq_true_eq]
    exact ⟨fun hx => ⟨h x hx, hx⟩, fun hx => hx.2⟩)
  rw [e]
  exact List.length_filter_le _ _
/-- Of two rising lists, and one that has what is in either. -/
theorem union_len {u a b : List Int} (hu : u.Pairwise (· < ·)) (ha : a.Pairwise (· < ·)) (hb : b.Pairwise (· < ·)) (h : ∀ x, x ∈ u ↔ (x ∈ a ∨ x ∈ b)) : u.length + (bothOf a b).length = a.length + b.length := by
  have e1 : u.filter (fun x => decide (x ∈ a)) = a := rise_ext (rise_filter _ hu) ha (fun x => by
    simp only [List.mem_filter, decide_eq_true_eq, h]
    exact ⟨fun hx => hx.2, fun hx => ⟨.inl hx, hx⟩⟩)
  have e2 : u.filter (fun x => !decide (x ∈ a)) = b.filter (fun x => !decide (x ∈ a)) := rise_ext (rise_filter _ hu) (rise_filter _ hb) (fun x => by
    simp only [List.mem_filter, Bool.not_eq_true', decide_eq_false_iff_not, h]
    constructor
    · rintro ⟨h1 | h1, h2⟩
      · exact absurd h1 h2
      · exact ⟨h1, h2⟩
    · rintro ⟨h1, h2⟩; exact ⟨.inr h1, h2⟩)
  have e3 : b.filter (fun x => decide (x ∈ a)) = bothOf a b := rise_ext (rise_filter _ hb) (rise_filter _ ha) (fun x => by
    unfold bothOf
    simp only [List.mem_filter, decide_eq_true_eq]
    exact ⟨fun hx => ⟨hx.2, hx.1⟩, fun hx => ⟨hx.2, hx.1⟩⟩)
  have h1 := len_parts (fun x => decide (x ∈ a)) u
  have h2 := len_parts (fun x => decide (x ∈ a)) b
  rw [e1, e2] at h1
  rw [e3] at h2
  omega
theorem union_le {u a b : List Int} (hu : u.Pairwise (· < ·)) (ha : a.Pairwise (· < ·)) (hb : b.Pairwise (· < ·)) (h : ∀ x, x ∈ u ↔ (x ∈ a ∨ x ∈ b)) : u.length ≤ a.length + b.length := by
  have := union_len hu ha hb h
  omega
end Go.Proofs.YthlajfoipafaaaaDoor

namespace Go.Proofs.YthlajfoipafaaaaDoor

/-- Subnet i, of N, is one of the k from f on. -/
def onB (N f k i : Nat) : Bool := decide (i < N) && decide ((i + N - f) % N < k)
def netsL (N f k : Nat) : List Nat := (List.range N).filter (onB N f k)
def netsI (N f k : Nat) : List Int := (netsL N f k).map fun n : Nat => (n : Int)

theorem onB_far {N f i : Nat} (hf : f < N) (hi : i < N) : (i + N - f) % N = if f ≤ i then i - f else i + N - f := by
  by_cases h : f ≤ i
  · rw [if_pos h, show i + N - f = (i - f) + N by omega, Nat.add_mod_right, Nat.mod_eq_of_lt (by omega)]
  · rw [if_neg h, Nat.mod_eq_of_lt (by omega)]
theorem ring_at {N f j : Nat} (hf : f < N) (hj : j < N) : (f + j) % N = if f + j < N then f + j else f + j - N := by
  by_cases h : f + j < N
  · rw [if_pos h, Nat.mod_eq_of_lt h]
  · rw [if_neg h, Nat.mod_eq_sub_mod (by omega), Nat.mod_eq_of_lt (by omega)]
theorem onB_zero (N f i : Nat) : onB N f 0 i = false := by simp [onB]
theorem onB_step {N f j i : Nat} (hf : f < N) (hj : j < N) : onB N f (j + 1) i = (decide (i = (f + j) % N) || onB N f j i) := by
  unfold onB
  by_cases hi : i < N
  · rw [onB_far hf hi, ring_at hf hj]
    simp only [hi, decide_true, Bool.true_and]
    rw [Bool.eq_iff_iff]
    simp only [decide_eq_true_eq, Bool.or_eq_true]
    split <;> split <;> omega
  · have h1 : ¬ i = (f + j) % N := fun h => hi (h ▸ Nat.mod_lt _ (by omega))
    simp [hi, h1]
theorem onB_new {N f j : Nat} (hf : f < N) (hj : j < N) : onB N f j ((f + j) % N) = false := by
  have hl : (f + j) % N < N := Nat.mod_lt _ (by omega)
  unfold onB
  rw [onB_far hf hl, ring_at hf hj]
  rw [Bool.and_eq_false_iff]
  right
  rw [decide_eq_false_iff_not]
  split <;> split <;> omega
theorem onB_min {N f k i : Nat} : onB N f (min k N) i = onB N f k i := by
  unfold onB
  by_cases hi : i < N
  · have : (i + N - f) % N < N := Nat.mod_lt _ (by omega)
    simp only [hi, decide_true, Bool.true_and]
    rw [Bool.eq_iff_iff, decide_eq_true_eq, decide_eq_true_eq]
    omega
  · simp [hi]
theorem countP_or_new (c : Nat) (p : Nat → Bool) (hp : p c = false) : ∀ l : List Nat, l.Nodup → c ∈ l → l.countP (fun i => decide (i = c) || p i) = l.countP p + 1
  | [], _, h => by cases h
  | a :: t, hn, h => by
    obtain ⟨h1, h2⟩ := List.nodup_cons.1 hn
    by_cases hac : a = c
    · subst hac
      have he : t.countP (fun i => decide (i = a) || p i) = t.countP p := by
        apply List.countP_congr
        intro x hx
        have : x ≠ a := fun e => h1 (e ▸ hx)
        simp [this]
      rw [List.countP_cons, List.countP_cons, he]
      simp [hp]
    · have hc : c ∈ t := by rcases List.mem_cons.1 h with e | e; exact absurd e.symm hac; exact e
      rw [List.countP_cons, List.countP_cons, countP_or_new c p hp t h2 hc]
      simp [hac]
      omega
theorem netsL_count {N f : Nat} (hf : f < N) : ∀ k, k ≤ N → (List.range N).countP (onB N f k) = k
  | 0, _ => by
    rw [List.countP_eq_zero]
    intro x _
    simp [onB_zero]
  | k + 1, h => by
    have e : onB N f (k + 1) = fun i => decide (i = (f + k) % N) || onB N f k i := by funext i; exact onB_step hf (by omega)
    rw [e, countP_or_new _ _ (onB_new hf (by omega)) _ List.nodup_range (List.mem_range.2 (Nat.mod_lt _ (by omega))), netsL_count hf k (by omega)]
theorem netsL_min (N f k : Nat) : netsL N f (min k N) = netsL N f k := by
  unfold netsL
  congr 1
  funext i
  exact onB_min
theorem netsL_len {N f : Nat} (hf : f < N) (k : Nat) : (netsL N f k).length = min k N := by
  rw [← netsL_min]
  unfold netsL
  rw [← List.countP_eq_length_filter, netsL_count hf _ (by omega)]
theorem netsI_len {N f : Nat} (hf : f < N) (k : Nat) : (netsI N f k).length = min k N := by rw [netsI, List.length_map, netsL_len hf]
theorem netsL_mem {N f k i : Nat} : i ∈ netsL N f k ↔ onB N f k i = true := by
  unfold netsL
  rw [List.mem_filter, List.mem_range]
  constructor
  · exact fun h => h.2
  · intro h
    refine ⟨?_, h⟩
    unfold onB at h
    simp at h
    exact h.1
theorem netsI_mem {N f k i : Nat} : (i : Int) ∈ netsI N f k ↔ onB N f k i = true := by
  unfold netsI
  rw [List.mem_map, ← netsL_mem]
  constructor
  · rintro ⟨a, ha, h⟩
    have : a = i := by omega
    exact this ▸ ha
  · exact fun h => ⟨i, h, rfl⟩
theorem netsI_in {N f k : Nat} {x : Int} (h : x ∈ netsI N f k) : ∃ i : Nat, x = i ∧ i < N ∧ onB N f k i = true := by
  unfold netsI at h
  obtain ⟨a, ha, rfl⟩ := List.mem_map.1 h
  have := netsL_mem.1 ha
  refine ⟨a, rfl, ?_, this⟩
  unfold onB at this
  simp at this
  exact this.1
theorem netsI_rises (N f k : Nat) : (netsI N f k).Pairwise (· < ·) := by
  unfold netsI netsL
  rw [List.pairwise_map]
  exact (List.pairwise_lt_range.filter _).imp fun h => by omega
theorem netsI_right (N f k : Nat) (hN : N ≤ 2048) : rightB (N : Int) (netsI N f k) = true := by
  rw [rightB_iff]
  refine ⟨by omega, netsI_rises N f k, fun x hx => ?_⟩
  obtain ⟨i, rfl, h, _⟩ := netsI_in hx
  omega
theorem netsI_has (N f k i : Nat) (hN : N ≤ 2048) : hasOf (N : Int) (netsI N f k) (i : Int) = onB N f k i := by
  unfold hasOf
  rw [netsI_right N f k hN, Bool.true_and, Bool.eq_iff_iff, decide_eq_true_eq, netsI_mem]
theorem netsI_sub {N f k m : Nat} (hN : N ≤ 2048) (h : k ≤ m ∨ N ≤ m) : subOf (N : Int) (netsI N f k) (N : Int) (netsI N f m) = true := by
  rw [sub_of (netsI_right N f k hN) (netsI_right N f m hN)]
  intro x hx
  obtain ⟨i, rfl, hi, ho⟩ := netsI_in hx
  rw [netsI_mem]
  unfold onB at ho ⊢
  have : (i + N - f) % N < N := Nat.mod_lt _ (by omega)
  simp at ho ⊢
  omega
/-- Where the bits that are set begin. -/
theorem begins_iff {N f k i : Nat} (hf : f < N) (hi : i < N) : (onB N f k i && !onB N f k ((i + N - 1) % N)) = (decide (i = f) && decide (0 < k) && decide (k < N)) := by
  have hl : (i + N - 1) % N < N := Nat.mod_lt _ (by omega)
  have hp : (i + N - 1) % N = if i = 0 then N - 1 else i - 1 := by
    by_cases h : i = 0
    · rw [if_pos h, h, Nat.mod_eq_of_lt (by omega)]; omega
    · rw [if_neg h, show i + N - 1 = (i - 1) + N by omega, Nat.add_mod_right, Nat.mod_eq_of_lt (by omega)]
  unfold onB
  rw [onB_far hf hi, onB_far hf hl, hp]
  have hl' := hl
  rw [hp] at hl'
  rw [Bool.eq_iff_iff]
  simp only [Bool.and_eq_true, Bool.not_eq_true', decide_eq_true_eq, Bool.and_eq_false_iff, decide_eq_false_iff_not]
  split <;> split <;> split <;> omega

/-- A number with bit j set where p says so, of the first m. -/
def wordTo (p : Nat → Bool) : Nat → Nat
  | 0 => 0
  | m + 1 => wordTo p m + if p m then 2 ^ m else 0
theorem wordTo_lt (p : Nat → Bool) : ∀ m, wordTo p m < 2 ^ m
  | 0 => by simp [wordTo]
  | m + 1 => by
    have := wordTo_lt p m
    unfold wordTo
    rw [Nat.pow_succ]
    split <;> omega
theorem wordTo_or (p : Nat → Bool) (m : Nat) (h : p m = true) : wordTo p m ||| 2 ^ m = wordTo p (m + 1) := by
  have := Nat.two_pow_add_eq_or_of_lt (wordTo_lt p m) 1
  rw [Nat.mul_one] at this
  rw [Nat.or_comm, ← this, Nat.add_comm]
  show _ = wordTo p m + if p m then 2 ^ m else 0
  rw [if_pos h]
theorem wordTo_off (p : Nat → Bool) (m : Nat) (h : p m = false) : wordTo p (m + 1) = wordTo p m := by simp [wordTo, h]
theorem wordTo_bit (p : Nat → Bool) : ∀ m i, (wordTo p m).testBit i = (decide (i < m) && p i)
  | 0, i => by simp [wordTo]
  | m + 1, i => by
    have hl := wordTo_lt p m
    cases h : p m with
    | false =>
      rw [wordTo_off p m h, wordTo_bit p m i]
      rcases Nat.lt_trichotomy i m with hi | hi | hi
      · simp [hi, show i < m + 1 by omega]
      · subst hi; simp [h]
      · simp [show ¬ i < m by omega, show ¬ i < m + 1 by omega]
    | true =>
      rw [← wordTo_or p m h, Nat.testBit_or, wordTo_bit p m i, Nat.testBit_two_pow]
      rcases Nat.lt_trichotomy i m with hi | hi | hi
      · simp [hi, show i < m + 1 by omega, show ¬ m = i by omega]
      · subst hi; simp [h]
      · simp [show ¬ i < m by omega, show ¬ i < m + 1 by omega, show ¬ m = i by omega]
/-- The same, summed over the list of those that are set. -/
theorem wordTo_sum (p : Nat → Bool) : ∀ m, (((List.range m).filter p).map fun i => 2 ^ i).sum = wordTo p m
  | 0 => by simp [wordTo]
  | m + 1 => by
    rw [List.range_succ, List.filter_append, List.map_append, List.sum_append, wordTo_sum p m]
    show _ = wordTo p m + if p m then 2 ^ m else 0
    cases h : p m <;> simp [h]
theorem wordTo_past (N f k : Nat) : ∀ m, N ≤ m → wordTo (onB N f k) m = wordTo (onB N f k) N
  | 0, h => by rw [show N = 0 by omega]
  | m + 1, h => by
    rcases Nat.lt_or_ge m N with h1 | h1
    · rw [show N = m + 1 by omega]
    · rw [wordTo_off _ m (by simp [onB, show ¬ m < N by omega]), wordTo_past N f k m h1]
/-- The word of an epoch's subnets. -/
def wordN (N f k : Nat) : Nat := wordTo (onB N f k) 64
theorem wordN_sum (N f k : Nat) (hN : N ≤ 64) : ((netsL N f k).map fun i => 2 ^ i).sum = wordN N f k := by
  rw [wordN, wordTo_past N f k 64 hN, ← wordTo_sum]; rfl
theorem wordN_lt (N f k : Nat) : wordN N f k < 18446744073709551616 := wordTo_lt _ 64
theorem sum_take_le (l : List Nat) (i : Nat) : (l.take i).sum ≤ l.sum := by
  have := congrArg List.sum (List.take_append_drop i l)
  rw [List.sum_append] at this
  omega
theorem wordN_bit (N f k i : Nat) (hi : i < 64) : (wordN N f k).testBit i = onB N f k i := by
  rw [wordN, wordTo_bit]; simp [hi]

/-- The block of an epoch, and the first epoch behind it. -/
def blkN (U P e : Nat) : Nat := (e + U % P) / P
def endN (U P b : Nat) : Nat := (b + 1) * P - U % P
theorem blk_bds {U P e : Nat} (hP : 1 ≤ P) : blkN U P e * P ≤ e + U % P ∧ e + U % P < blkN U P e * P + P := by
  unfold blkN
  have h1 := Nat.div_mul_le_self (e + U % P) P
  have h2 := Nat.lt_div_mul_add (a := e + U % P) (b := P) (by omega)
  exact ⟨h1, h2⟩
theorem blk_of {U P e b : Nat} (hP : 1 ≤ P) (h1 : b * P ≤ e + U % P) (h2 : e + U % P < b * P + P) : blkN U P e = b := by
  unfold blkN
  rw [Nat.div_eq_iff (by omega)]
  omega
theorem end_eq {U P e : Nat} (hP : 1 ≤ P) : endN U P (blkN U P e) + U % P = blkN U P e * P + P := by
  have hs : U % P < P := Nat.mod_lt _ (by omega)
  unfold endN
  rw [Nat.succ_mul]
  omega
theorem end_gt {U P e : Nat} (hP : 1 ≤ P) : e < endN U P (blkN U P e) ∧ endN U P (blkN U P e) ≤ e + P := by
  have := end_eq (U := U) (e := e) hP
  have := blk_bds (U := U) (e := e) hP
  omega
theorem blk_same {U P e y : Nat} (hP : 1 ≤ P) (h1 : e ≤ y) : blkN U P y = blkN U P e ↔ y < endN U P (blkN U P e) := by
  have h3 := end_eq (U := U) (e := e) hP
  have h4 := blk_bds (U := U) (e := e) hP
  constructor
  · intro h
    have h5 := blk_bds (U := U) (e := y) hP
    rw [h] at h5
    omega
  · intro h
    exact blk_of hP (by omega) (by omega)
theorem blk_end {U P e : Nat} (hP : 1 ≤ P) : blkN U P (endN U P (blkN U P e)) = blkN U P e + 1 := by
  have h3 := end_eq (U := U) (e := e) hP
  have hs : U % P < P := Nat.mod_lt _ (by omega)
  apply blk_of hP
  · rw [Nat.succ_mul]; omega
  · rw [Nat.succ_mul]; omega
theorem end_end {U P e : Nat} (hP : 1 ≤ P) : endN U P (blkN U P (endN U P (blkN U P e))) = endN U P (blkN U P e) + P := by
  rw [blk_end hP]
  have hs : U % P < P := Nat.mod_lt _ (by omega)
  have h3 := end_eq (U := U) (e := e) hP
  have h4 : endN U P (blkN U P e + 1) + U % P = blkN U P e * P + P + P := by
    unfold endN
    rw [Nat.succ_mul, Nat.succ_mul]
    omega
  omega
theorem blk_le {U P e : Nat} : blkN U P e ≤ e + U % P := Nat.div_le_self _ _
end Go.Proofs.YthlajfoipafaaaaDoor
