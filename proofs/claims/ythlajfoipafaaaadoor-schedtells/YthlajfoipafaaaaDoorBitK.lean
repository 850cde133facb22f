/- bits.alike, bits.shared and the iterator that it hands back.
   bits.shared, and the iterator that it hands back.
   bits.Disjoint, bits.Subset. -/
import Derived.Test.YthlajfoipafaaaaDoorBitC
namespace Go.Proofs.YthlajfoipafaaaaDoor
open Go.RowKit Go.Shelf
attribute [local go_sem] Oper.semAt_some

def alikeB (n : Int) (a : List Int) (m : Int) (b : List Int) : Bool := rightB n a && rightB m b && decide (n = m)

set_option maxHeartbeats 1000000 in
theorem alike_any (x y : Value) (n m : Int) (a b : List Int) (w : World) (hx : Bt w x n a) (hy : Bt w y m b) (h9 : a.length ≤ maxLen) (h9b : b.length ≤ maxLen) :
    Calls Tryd.prog 42 #[x, y] w fun e w' => e = .returned (.bool (alikeB n a m b)) ∧ Below w.heap.size w w' := by
  obtain ⟨A, c, rfl, hc, hv⟩ := hx.form
  obtain ⟨A', c', rfl, hc', hv'⟩ := hy.form
  have hx1 := (hx.alloc (.cells #[.int .i64 n, .slice A a.length c] 37)).alloc (.cells #[.int .i64 m, .slice A' b.length c'] 37)
  have hy1 := (hy.alloc (.cells #[.int .i64 n, .slice A a.length c] 37)).alloc (.cells #[.int .i64 m, .slice A' b.length c'] 37)
  have hb0 : Below w.heap.size w ((w.alloc (.cells #[.int .i64 n, .slice A a.length c] 37)).alloc (.cells #[.int .i64 m, .slice A' b.length c'] 37)) := ((Below.refl _ w).alloc (Nat.le_refl _) _).alloc (by simp) _
  have p0 : RowAt ((w.alloc (.cells #[.int .i64 n, .slice A a.length c] 37)).alloc (.cells #[.int .i64 m, .slice A' b.length c'] 37)) w.heap.size 37 [.int .i64 n, .slice A a.length c] := (RowAt.new w 37 #[.int .i64 n, .slice A a.length c]).alloc _
  have p1 : RowAt ((w.alloc (.cells #[.int .i64 n, .slice A a.length c] 37)).alloc (.cells #[.int .i64 m, .slice A' b.length c'] 37)) (w.heap.size + 1) 37 [.int .i64 m, .slice A' b.length c'] := by
    have := RowAt.new (w.alloc (.cells #[.int .i64 n, .slice A a.length c] 37)) 37 #[.int .i64 m, .slice A' b.length c']
    rw [World.size_alloc] at this
    exact this
  have HR := Right_any _ _ _ _ hx1 h9
  unfold alikeB
  cases hr : rightB n a
  · rw [hr] at HR
    go_enter Tryd.func42, Tryd.ntmps42
    go_wp2_with fail
    with_reducible refine HR.mono ?_
    rintro e w1 ⟨rfl, hb1⟩
    have hw1 := hb0.trans (hb1.mono hb0.size)
    clear HR hr
    go_wp2_with fail
    go_ret
    exact ⟨rfl, hw1⟩
  · rw [hr] at HR
    cases hr2 : rightB m b
    · go_enter Tryd.func42, Tryd.ntmps42
      go_wp2_with fail
      with_reducible refine HR.mono ?_
      rintro e w1 ⟨rfl, hb1⟩
      have hw1 := hb0.trans (hb1.mono hb0.size)
      have q1 := p1.below hb1 p1.lt
      have c10 := q1.cell 0
      have c11 := q1.cell 1
      simp only [List.getElem?_cons_zero, List.getElem?_cons_succ] at c10 c11
      have HR2 := Right_any _ _ _ _ (hy1.on hb1) h9b
      rw [hr2] at HR2
      clear HR hr hr2
      go_wp2_with fail
      with_reducible refine HR2.mono ?_
      rintro e w2 ⟨rfl, hb2⟩
      have hw2 := hw1.trans (hb2.mono hw1.size)
      clear HR2
      go_wp2_with fail
      go_ret
      exact ⟨rfl, hw2⟩
    · go_enter Tryd.func42, Tryd.ntmps42
      go_wp2_with fail
      with_reducible refine HR.mono ?_
      rintro e w1 ⟨rfl, hb1⟩
      have hw1 := hb0.trans (hb1.mono hb0.size)
      have q0 := p0.below hb1 p0.lt
      have q1 := p1.below hb1 p1.lt
      have c10 := q1.cell 0
      have c11 := q1.cell 1
      simp only [List.getElem?_cons_zero, List.getElem?_cons_succ] at c10 c11
      have HR2 := Right_any _ _ _ _ (hy1.on hb1) h9b
      rw [hr2] at HR2
      clear HR hr hr2
      go_wp2_with fail
      with_reducible refine HR2.mono ?_
      rintro e w2 ⟨rfl, hb2⟩
      have hw2 := hw1.trans (hb2.mono hw1.size)
      have r0 := q0.below hb2 q0.lt
      have r1 := q1.below hb2 q1.lt
      have d00 := r0.cell 0
      have d10 := r1.cell 0
      simp only [List.getElem?_cons_zero, List.getElem?_cons_succ] at d00 d10
      clear HR2
      go_wp2_with fail
      go_ret
      refine ⟨?_, hw2⟩
      show Ending.returned (Value.bool (n == m)) = _
      congr 2
end Go.Proofs.YthlajfoipafaaaaDoor

namespace Go.Proofs.YthlajfoipafaaaaDoor
open Go.RowKit Go.Shelf
attribute [local go_sem] Oper.semAt_some

def sliceLen : Value → Nat | .slice _ n _ => n | _ => 0
theorem shared_in (F : Fence) (n : Nat) (hF : F.fn 43) (hro : F.round = none) (na nb : Int) (A A' : Option Addr) (la lb' ca cb : Nat) (w : World) :
    CallsIn F n Tryd.prog 43 #[.agg #[.int .i64 na, .slice A la ca], .agg #[.int .i64 nb, .slice A' lb' cb]] w fun e w' =>
      e = .returned (.func (.func 57) #[] #[.pointer (some ⟨w.heap.size + 1, 0, none⟩), .pointer (some ⟨w.heap.size, 0, none⟩)]) ∧
      w' = (w.alloc (.cells #[.int .i64 na, .slice A la ca] 37)).alloc (.cells #[.int .i64 nb, .slice A' lb' cb] 37) := by
  refine callsIn_of_wp Tryd.func43 rfl hF ?_ hro
  simp only [Tryd.ntmps43, List.size_toArray, List.length_cons, List.length_nil, Nat.reduceAdd, Nat.reduceSub, Array.replicate_succ, Array.replicate_zero, List.push_toArray, List.append_toArray, List.nil_append, List.cons_append]
  gi_wp2
  go_ret
  exact ⟨rfl, rfl⟩

/-- What is in both. -/
def bothOf (a b : List Int) : List Int := a.filter fun x => decide (x ∈ b)
theorem bothOf_step (a b : List Int) (k : Nat) (hk : k < a.length) : bothOf (a.take (k + 1)) b = if a[k] ∈ b then bothOf (a.take k) b ++ [a[k]] else bothOf (a.take k) b := by
  unfold bothOf
  rw [List.take_succ_eq_append_getElem hk, List.filter_append]
  by_cases h : a[k] ∈ b
  · simp [h]
  · simp [h]
theorem bothOf_prefix (a b : List Int) (k : Nat) : bothOf (a.take k) b <+: bothOf a b := by
  unfold bothOf
  conv => rhs; rw [← List.take_append_drop k a, List.filter_append]
  exact List.prefix_append _ _
theorem bothOf_length (a b : List Int) : (bothOf a b).length ≤ a.length := List.length_filter_le _ _

/-- Of a rising list in two parts, the first one's all below x: is x in it? -/
theorem mem_rest {b q r : List Int} {x : Int} (hb : b = q ++ r) (hr : b.Pairwise (· < ·)) (hq : ∀ y ∈ q, y < x) (hh : ∀ y, r.head? = some y → x ≤ y) : x ∈ b ↔ r.head? = some x := by
  subst hb
  rw [List.pairwise_append] at hr
  constructor
  · intro h
    rw [List.mem_append] at h
    rcases h with h | h
    · have := hq x h; omega
    · cases r with
      | nil => cases h
      | cons y r =>
        have h1 := hh y rfl
        rw [List.mem_cons] at h
        rcases h with rfl | h
        · rfl
        · have := (List.pairwise_cons.1 hr.2.1).1 x h; omega
  · intro h
    rw [List.mem_append]
    exact .inr (List.mem_of_mem_head? h)

set_option maxRecDepth 100000 in
set_option maxHeartbeats 2000000 in
theorem shared1_in (F : Fence) (n : Nat) (hF : F.fn 57) (hro : F.round = none) (hn : 1 ≤ n) (l Ba Bb : Nat) (K : Nat → Prop) (na nb : Int) (va vb : Value) (a b : List Int) (J Jx : List Int → World → Prop)
    (hY : ∀ pre x W, J pre W → pre.length < a.length → YieldAt F (n - 1) Tryd.prog l #[.int .i64 x] W fun e W' =>
      (e = .returned (.bool true) ∧ J (pre ++ [x]) W' ∧ Kept K W W') ∨ (e = .returned (.bool false) ∧ Jx (pre ++ [x]) W'))
    (W : World) (B : Nat) (hKa : K Ba) (hKb : K Bb) (ra : RowAt W Ba 37 [.int .i64 na, va]) (rb : RowAt W Bb 37 [.int .i64 nb, vb])
    (hva : Ints W B va a) (hvb : Ints W B vb b) (hKva : 0 < a.length → ∀ ad n c, va = .slice (some ad) n c → K ad.block) (hKvb : 0 < b.length → ∀ ad n c, vb = .slice (some ad) n c → K ad.block)
    (h9 : a.length ≤ maxLen) (h9b : b.length ≤ maxLen) (hra : a.Pairwise (· < ·)) (hrb : b.Pairwise (· < ·)) (h0 : J [] W) :
    CallsIn F n Tryd.prog 57 #[.func (.yield l) #[] #[], .pointer (some ⟨Bb, 0, none⟩), .pointer (some ⟨Ba, 0, none⟩)] W fun e W' => (∃ v, e = .returned v) ∧
      ((∃ ys, ys = bothOf a b ∧ J ys W') ∨ (∃ pre, pre <+: bothOf a b ∧ Jx pre W')) := by
  obtain ⟨Aa, ca, rfl, hca⟩ := hva.form
  obtain ⟨Ab, cb, rfl, hcb⟩ := hvb.form
  have h9' : a.length ≤ 9223372036854775807 := h9
  have h9b' : b.length ≤ 9223372036854775807 := h9b
  have c1 := rb.cell 1
  have c2 := ra.cell 1
  simp only [List.getElem?_cons_zero, List.getElem?_cons_succ] at c1 c2
  refine callsIn_of_wp Tryd.func57 rfl hF ?_ hro
  simp only [Tryd.ntmps57, List.size_toArray, List.length_cons, List.length_nil, Nat.reduceAdd, Nat.reduceSub, Array.replicate_succ, Array.replicate_zero, List.push_toArray, List.append_toArray, List.nil_append, List.cons_append]
  gi_wp2
  gi_loopw [4, 12] (fun rv i wr => ∃ (k : Nat) (q r : List Int), k ≤ a.length ∧ i = .int .i64 k ∧ Hid (b = q ++ r ∧ ∀ y ∈ q, ∀ x ∈ a.drop k, y < x) ∧ (Ints wr B rv r ∧ (0 < r.length → ∀ ad n c, rv = .slice (some ad) n c → K ad.block)) ∧ r.length ≤ b.length ∧ J (bothOf (a.take k) b) wr ∧ Kept K W wr) (fun _ i _ => a.length - (intOf i).toNat)
  case atStart => exact ⟨0, [], b, Nat.zero_le _, rfl, ⟨rfl, by simp⟩, ⟨hvb, hKvb⟩, Nat.le_refl _, h0, Kept.refl _ _⟩
  case round =>
    obtain ⟨k, q, r, hk, rfl, HB, ⟨hr, hKr⟩, hrl, hJ, hkept⟩ := hrel
    by_cases hlt : k < a.length
    · obtain ⟨ad, rfl, hbl, hcell⟩ := (hva.kept hkept hKva).at_ hlt
      have HS := Lib.hid (bothOf_step a b k hlt)
      have HD := Lib.hid (show a.drop k = a[k] :: a.drop (k + 1) from List.drop_eq_getElem_cons hlt)
      have HA := Lib.hid (fun x (hx : x ∈ a.drop (k + 1)) => (List.pairwise_cons.1 (by rw [← List.drop_eq_getElem_cons hlt]; exact List.Pairwise.drop hra)).1 x hx : ∀ x ∈ a.drop (k + 1), a[k] < x)
      generalize hy : a[k] = y at *
      clear hy
      obtain ⟨wo, hwo⟩ : ∃ wo, wo = wr := ⟨_, rfl⟩
      subst hwo
      gi_wp2
      gi_loopw [4] (fun rv wi => ∃ (q r : List Int), wi = wo ∧ Hid (b = q ++ r ∧ ∀ y' ∈ q, ∀ x ∈ a.drop k, y' < x) ∧ (Ints wo B rv r ∧ (0 < r.length → ∀ ad n c, rv = .slice (some ad) n c → K ad.block)) ∧ r.length ≤ b.length) (fun rv _ => sliceLen rv)
      case atStart => exact ⟨q, r, rfl, HB, ⟨hr, hKr⟩, hrl⟩
      case round =>
        clear HB hr hKr hrl
        obtain ⟨q, r, rfl, HB, ⟨hr, hKr⟩, hrl⟩ := hrel
        obtain ⟨Ar, cr, rfl, hcr⟩ := hr.form
        cases r with
        | nil =>
          have hmem : ¬ y ∈ b := by
            intro h
            rw [HB.out.1, List.append_nil] at h
            have := HB.out.2 y h y (by rw [HD.out]; simp)
            omega
          have HM := Lib.hid hmem
          clear hmem
          gi_wp2
          refine ⟨fun _ h => (by cases h), ?_⟩
          gi_wp2
          go_roundw
          case rel =>
            refine ⟨k + 1, q, [], by omega, by go_num, ⟨HB.out.1, fun y' hy' x hx => HB.out.2 y' hy' x (by rw [HD.out]; simp [hx])⟩, ⟨hr, hKr⟩, hrl, ?_, hkept⟩
            rw [HS.out, if_neg HM.out]; exact hJ
          case measure => simp [intOf]; omega
        | cons z r =>
          obtain ⟨ad2, rfl, hbl2, hz0⟩ := hr.at_ (k := 0) (by simp)
          have hz : wr.cell? ad2 = some (.int .i64 z) := hz0
          have hrest := hr.rest_if (by simp)
          have hKad : K ad2.block := hKr (by simp) ad2 _ _ rfl
          simp only [List.length_cons, List.drop_succ_cons, List.drop_zero, Nat.add_sub_cancel] at hrest hcr hrl
          clear hz0
          by_cases hzy : z < y
          · gi_wp2
            go_roundw
            case rel =>
              refine ⟨q ++ [z], r, trivial, ⟨by rw [HB.out.1]; simp, fun y' hy' x hx => ?_⟩, ⟨hrest, fun _ ad3 n3 c3 e => ?_⟩, by omega⟩
              · simp only [List.mem_append, List.mem_singleton] at hy'
                rcases hy' with hy' | rfl
                · exact HB.out.2 y' hy' x hx
                · rw [HD.out, List.mem_cons] at hx
                  rcases hx with rfl | hx
                  · exact hzy
                  · have := HA.out x hx; omega
              · injection e with e1 _ _
                by_cases hc1 : cr = 1
                · rw [if_pos hc1] at e1
                  injection e1 with e1
                  subst e1
                  exact hKad
                · rw [if_neg hc1] at e1
                  injection e1 with e1
                  subst e1
                  exact hKad
            case measure => simp [sliceLen]
          · have hmem : y ∈ b ↔ z = y := by
              have := mem_rest (x := y) HB.out.1 hrb (fun y' hy' => HB.out.2 y' hy' y (by rw [HD.out]; simp)) (fun y' hy' => by simp at hy'; omega)
              rw [this]; simp
            have HM := Lib.hid hmem
            clear hmem
            by_cases hzy2 : z = y
            · subst hzy2
              obtain ⟨fn, tmps, assign, body, hy, hR⟩ := hY (bothOf (a.take k) b) z wr hJ (by have := bothOf_length (a.take k) b; rw [List.length_take] at this; omega)
              have HHR := Lib.hid hr
              gi_wp2
              refine hR.mono ?_
              rintro e W3 (⟨rfl, hJ3, hk3⟩ | ⟨rfl, hJx3⟩)
              · gi_wp2
                go_roundw
                case rel =>
                  refine ⟨k + 1, q, z :: r, by omega, by go_num, ⟨HB.out.1, fun y' hy' x hx => HB.out.2 y' hy' x (by rw [HD.out]; simp [hx])⟩, ⟨HHR.out.kept hk3 hKr, hKr⟩, by simp; omega, ?_, hkept.trans hk3⟩
                  rw [HS.out, if_pos (HM.out.2 (by trivial))]; exact hJ3
                case measure => simp [intOf]; omega
              · gi_wp2
                refine bodyPost_ret (results_none rfl _ _ _) rfl ?_
                refine ⟨⟨_, rfl⟩, .inr ⟨_, ?_, hJx3⟩⟩
                have := bothOf_prefix a b (k + 1)
                rw [HS.out, if_pos (HM.out.2 (by trivial))] at this
                exact this
            · have hb2 : (z == y) = false := by simpa using hzy2
              have hzy3 : ¬ y ∈ b := fun h => hzy2 (HM.out.1 h)
              have HM2 := Lib.hid hzy3
              clear hzy2 hzy3 HM
              gi_wp2
              refine ⟨fun _ h => (by cases h), ?_⟩
              gi_wp2
              go_roundw
              case rel =>
                refine ⟨k + 1, q, z :: r, by omega, by go_num, ⟨HB.out.1, fun y' hy' x hx => HB.out.2 y' hy' x (by rw [HD.out]; simp [hx])⟩, ⟨hr, hKr⟩, by simp; omega, ?_, hkept⟩
                rw [HS.out, if_neg HM2.out]; exact hJ
              case measure => simp [intOf]; omega
    · obtain rfl : k = a.length := by omega
      rw [List.take_length] at hJ
      gi_wp2
      go_end0
      exact ⟨⟨_, rfl⟩, .inl ⟨_, rfl, hJ⟩⟩

theorem shared_stops (F : Fence) (n : Nat) (hF : F.fn 57) (hro : F.round = none) (hn : 1 ≤ n) (Ba Bb : Nat) (K : Nat → Prop) (na nb : Int) (va vb : Value) (a b : List Int) (w : World) (hKs : ∀ k, K k → k < w.heap.size)
    (hKa : K Ba) (hKb : K Bb) (ra : RowAt w Ba 37 [.int .i64 na, va]) (rb : RowAt w Bb 37 [.int .i64 nb, vb])
    (hva : Ints w w.heap.size va a) (hvb : Ints w w.heap.size vb b) (hKva : 0 < a.length → ∀ ad n c, va = .slice (some ad) n c → K ad.block) (hKvb : 0 < b.length → ∀ ad n c, vb = .slice (some ad) n c → K ad.block)
    (h9 : a.length ≤ maxLen) (h9b : b.length ≤ maxLen) (hra : a.Pairwise (· < ·)) (hrb : b.Pairwise (· < ·)) :
    SeqStopsK F n Tryd.prog 57 #[.pointer (some ⟨Bb, 0, none⟩), .pointer (some ⟨Ba, 0, none⟩)] (fun x : Int => #[Value.int .i64 x]) (Kept K) (fun ys => ys = bothOf a b) (fun pre => pre <+: bothOf a b) a.length w := fun l J Jx W hW _ _ hY h0 =>
  shared1_in F n hF hro hn l Ba Bb K na nb va vb a b J Jx hY W w.heap.size hKa hKb (ra.below hW (hKs _ hKa)) (rb.below hW (hKs _ hKb)) (hva.below hW (Nat.le_refl _)) (hvb.below hW (Nat.le_refl _)) hKva hKvb h9 h9b hra hrb h0
end Go.Proofs.YthlajfoipafaaaaDoor

namespace Go.Proofs.YthlajfoipafaaaaDoor
open Go.RowKit Go.Shelf
attribute [local go_sem] Oper.semAt_some

def disjOf (n : Int) (a : List Int) (m : Int) (b : List Int) : Bool := alikeB n a m b && !(a.any fun x => decide (x ∈ b))
def subOf (n : Int) (a : List Int) (m : Int) (b : List Int) : Bool := alikeB n a m b && a.all fun x => decide (x ∈ b)
theorem both_nil (a b : List Int) : bothOf a b = [] ↔ (a.any fun x => decide (x ∈ b)) = false := by
  unfold bothOf
  rw [List.filter_eq_nil_iff]
  simp
theorem both_all (a b : List Int) : ((bothOf a b).length = a.length) ↔ (a.all fun x => decide (x ∈ b)) = true := by
  unfold bothOf
  rw [List.length_filter_eq_length_iff]
  simp

set_option maxRecDepth 100000 in
set_option maxHeartbeats 2000000 in
theorem Subset_in (x y : Value) (n m : Int) (a b : List Int) (w : World) (hx : Bt w x n a) (hy : Bt w y m b) (h9 : a.length ≤ maxLen) (h9b : b.length ≤ maxLen) :
    CallsIn Fence.wide 6 Tryd.prog 24 #[x, y] w fun e w' => e = .returned (.bool (subOf n a m b)) ∧ Below w.heap.size w w' := by
  obtain ⟨A, c, rfl, hc, hv⟩ := hx.form
  obtain ⟨A', c', rfl, hc', hv'⟩ := hy.form
  have h9' : a.length ≤ 9223372036854775807 := h9
  obtain ⟨W0, hW0⟩ : ∃ W0, W0 = (w.alloc (.cells #[.int .i64 n, .slice A a.length c] 37)).alloc (.cells #[.int .i64 m, .slice A' b.length c'] 37) := ⟨_, rfl⟩
  have p0 : RowAt W0 w.heap.size 37 [.int .i64 n, .slice A a.length c] := by rw [hW0]; exact (RowAt.new w 37 #[.int .i64 n, .slice A a.length c]).alloc _
  have p1 : RowAt W0 (w.heap.size + 1) 37 [.int .i64 m, .slice A' b.length c'] := by
    have := RowAt.new (w.alloc (.cells #[.int .i64 n, .slice A a.length c] 37)) 37 #[.int .i64 m, .slice A' b.length c']
    rw [World.size_alloc] at this
    rw [hW0]; exact this
  have hB0 : Below w.heap.size w W0 := by rw [hW0]; exact ((Below.refl _ w).alloc (Nat.le_refl _) _).alloc (by simp) _
  have hs0 : w.heap.size + 2 ≤ W0.heap.size := by rw [hW0]; simp
  have HA := alike_any _ _ _ _ _ _ W0 (hx.on hB0) (hy.on hB0) h9 h9b
  have t42 : Fence.wide.fn 42 := trivial
  have t43 : Fence.wide.fn 43 := trivial
  have HDJ : Hid (subOf n a m b = (alikeB n a m b && a.all fun x => decide (x ∈ b))) := rfl
  refine callsIn_of_wp_marks Tryd.func24 rfl trivial ?_ rfl
  simp only [Tryd.ntmps24, List.size_toArray, List.length_cons, List.length_nil, Nat.reduceAdd, Nat.reduceSub, Array.replicate_succ, Array.replicate_zero, List.push_toArray, List.append_toArray, List.nil_append, List.cons_append]
  gi_wp2_with (fail)
  rw [← hW0]
  refine (callsIn_wide.2 HA).mono ?_
  rintro e w1 ⟨rfl, hb1⟩
  have hw1 : Below w.heap.size w w1 := hB0.trans (hb1.mono hB0.size)
  have q0 := p0.below hb1 p0.lt
  have q1 := p1.below hb1 p1.lt
  have hs1 : w.heap.size + 2 ≤ w1.heap.size := Nat.le_trans hs0 hb1.size
  have c00 := cellA (q0.cell 0) (.cells #[.int .i64 0] 3)
  have c01 := cellA (q0.cell 1) (.cells #[.int .i64 0] 3)
  have c10 := cellA (q1.cell 0) (.cells #[.int .i64 0] 3)
  have c11 := cellA (q1.cell 1) (.cells #[.int .i64 0] 3)
  clear hW0 p0 p1 hB0 hs0 HA hb1
  cases hal : alikeB n a m b
  · gi_wp2_with (fail)
    refine ⟨.bool false, by simp [results, Tryd.results24, go_sem], ?_, hw1⟩
    rw [HDJ.out, hal]; rfl
  · obtain ⟨hra, hrb⟩ : a.Pairwise (· < ·) ∧ b.Pairwise (· < ·) := by
      simp only [alikeB, Bool.and_eq_true] at hal
      exact ⟨((rightB_iff _ _).1 hal.1.1).2.1, ((rightB_iff _ _).1 hal.1.2).2.1⟩
    gi_wp2_with (fail)
    refine (shared_in Fence.wide 5 trivial rfl _ _ _ _ _ _ _ _ _).mono ?_
    rintro e W5 ⟨rfl, hW5⟩
    rw [World.size_alloc]
    obtain ⟨w2, hw2⟩ : ∃ w2, w2 = w1.alloc (.cells #[.int .i64 0] 3) := ⟨_, rfl⟩
    rw [← hw2] at hW5
    have hsw2 : w2.heap.size = w1.heap.size + 1 := by rw [hw2]; simp
    have ra : RowAt W5 (w1.heap.size + 1) 37 [.int .i64 n, .slice A a.length c] := by
      rw [hW5, ← hsw2]; exact (RowAt.new w2 37 #[.int .i64 n, .slice A a.length c]).alloc _
    have rb : RowAt W5 (w1.heap.size + 1 + 1) 37 [.int .i64 m, .slice A' b.length c'] := by
      have := RowAt.new (w2.alloc (.cells #[.int .i64 n, .slice A a.length c] 37)) 37 #[.int .i64 m, .slice A' b.length c']
      rw [World.size_alloc, hsw2] at this
      rw [hW5]; exact this
    have r2 : RowAt W5 w1.heap.size 3 [.int .i64 0] := by rw [hW5, hw2]; exact ((RowAt.new w1 3 #[.int .i64 0]).alloc _).alloc _
    have r0 : RowAt W5 w.heap.size 37 [.int .i64 n, .slice A a.length c] := by rw [hW5, hw2]; exact ((q0.alloc _).alloc _).alloc _
    have hb5 : Below w1.heap.size w1 W5 := by rw [hW5, hw2]; exact (((Below.refl _ w1).alloc (Nat.le_refl _) _).alloc (by simp) _).alloc (by simp; omega) _
    have hB5 : Below w.heap.size w W5 := hw1.trans (hb5.mono hw1.size)
    have hs5 : w1.heap.size + 3 ≤ W5.heap.size := by rw [hW5, hw2]; simp
    have hva := hv.below hB5 (Nat.le_refl _)
    have hvb := hv'.below hB5 (Nat.le_refl _)
    clear hW5 q0 q1 c00 c01 c10 c11 t42 t43 hw2 hsw2
    gi_wp2_with (fail)
    refine wpIn_rangeFunc_ownG rfl (by omega) (gf := 57) (lb := #[.pointer (some ⟨w1.heap.size + 1 + 1, 0, none⟩), .pointer (some ⟨w1.heap.size + 1, 0, none⟩)]) rfl trivial (enters_of Tryd.func57 (by kernel_rfl) rfl)
      (shared_stops Fence.wide 5 trivial rfl (by omega) (w1.heap.size + 1) (w1.heap.size + 1 + 1) (fun k => k < W5.heap.size ∧ k ≠ w1.heap.size) n m _ _ a b W5 (fun _ h => h.1) (by omega) (by omega) ra rb (hva.more (by have := hB5.size; omega)) (hvb.more (by have := hB5.size; omega)) (fun h0 ad n' c' e => by have := hva.blocks h0 ad n' c' e; omega) (fun h0 ad n' c' e => by have := hvb.blocks h0 ad n' c' e; omega) h9 h9b hra hrb) kept_t (kept_b (fun _ h => h.1)) (Below.refl _ _) (fun _ => rfl)
      (fun pre W => RowAt W w1.heap.size 3 [.int .i64 (pre.length : Int)] ∧ RowAt W w.heap.size 37 [.int .i64 n, .slice A a.length c] ∧ Below w.heap.size w W)
      (fun _ _ _ => False)
      (by
        rintro pre X Y row ⟨h1, h2, h5⟩ hg hr
        have hr' := fun r e => (hr r e).2
        exact ⟨h1.stays hg hr', h2.stays hg hr', h5.grown hg h5.size (fun k e => by have := (hr k e).1; omega)⟩)
      (fun _ _ _ _ _ hs _ _ => hs)
      ⟨r2, r0, hB5⟩
      (fun x => { tmps := #[.agg #[.int .i64 n, .slice A a.length c], .agg #[.int .i64 m, .slice A' b.length c'], .pointer (some ⟨w.heap.size, 0, none⟩), .pointer (some ⟨w.heap.size + 1, 0, none⟩), .bool false, .pointer (some ⟨w1.heap.size, 0, none⟩), .agg #[.int .i64 n, .slice A a.length c], .agg #[.int .i64 m, .slice A' b.length c'], .bool true, .bool false, .agg #[.int .i64 n, .slice A a.length c], .agg #[.int .i64 m, .slice A' b.length c'], .func (.func 57) #[] #[.pointer (some ⟨w1.heap.size + 1 + 1, 0, none⟩), .pointer (some ⟨w1.heap.size + 1, 0, none⟩)], .int .i64 x, undef, undef, undef, undef, undef, undef, undef], defers := [] }) ?assign ?body ?done ?stop
    case assign =>
      intro l x W K hK
      gi_wp2
      simpa using hK
    case body =>
      rintro l pre x W ⟨h2, h0, hB⟩ hlt
      have d2 := h2.cell 0
      have f2 := h2.frozen 0
      simp only [List.getElem?_cons_zero] at d2
      gi_wp2
      refine ⟨(KeepsOthers.setCell _ _ _).from _, (Kept.refl _ _).setCell (p := ⟨w1.heap.size, 0, none⟩) (by simp) _, ?_, h0.far (p := ⟨w1.heap.size, 0, none⟩) (by show w.heap.size ≠ w1.heap.size; omega) _, hB.setCell (p := ⟨w1.heap.size, 0, none⟩) hw1.size _⟩
      have := h2.set 0 (.int .i64 ((pre.length : Int) + 1))
      simpa using this
    case done =>
      rintro D ys W hD rfl ⟨h2, h0, hB⟩ hK
      have d2 := h2.cell 0
      have d0 := h0.cell 1
      simp only [List.getElem?_cons_zero, List.getElem?_cons_succ] at d2 d0
      gi_wp2
      refine ⟨by simp, .inl ⟨_, _, rfl, run_takeDeferred hK, ?_⟩⟩
      refine ⟨_, results_tmp rfl _ _ _, ?_, hB.trans (belowK_b (w := w) (Nat.le_refl _) _ D _ _ (by omega) hK rfl rfl)⟩
      rw [HDJ.out, hal]
      show Ending.returned (Value.bool (((bothOf a b).length : Int) == (a.length : Int))) = _
      congr 2
      rw [Bool.true_and]
      by_cases h : (bothOf a b).length = a.length
      · rw [(both_all a b).1 h, h]; simp
      · have h2 : (a.all fun x => decide (x ∈ b)) = false := by
          cases e : (a.all fun x => decide (x ∈ b))
          · rfl
          · exact absurd ((both_all a b).2 e) h
        rw [h2]
        simp only [beq_eq_false_iff_ne, ne_eq]
        omega
    case stop =>
      rintro D cd pre W _ _ h _
      exact h.elim
theorem Subset_any (x y : Value) (n m : Int) (a b : List Int) (w : World) (hx : Bt w x n a) (hy : Bt w y m b) (h9 : a.length ≤ maxLen) (h9b : b.length ≤ maxLen) :
    Calls Tryd.prog 24 #[x, y] w fun e w' => e = .returned (.bool (subOf n a m b)) ∧ Below w.heap.size w w' :=
  (callsIn_wide (n := 6)).1 (Subset_in x y n m a b w hx hy h9 h9b)
end Go.Proofs.YthlajfoipafaaaaDoor
