/- bits.marked, and the iterator that it hands back.
   bits.alike, bits.shared and the iterator that it hands back.
   bits.shared, and the iterator that it hands back.
   bits.Disjoint, bits.Subset. -/
import Derived.Test.YtieheieiolobaaaGreatDoorBitB
import Derived.RangeFuncNested
import Derived.RangeFuncBound
import Derived.RangeFuncCalls
import Derived.RangeFuncLeaves
import Derived.RangeFuncBox
import Derived.Shelf.Abstract
import Derived.Shelf.RegionOpen
import Derived.WalkKit
import Derived.OwnWalkIn
import Derived.TacticsInMore
import Derived.LoopNIn
import Derived.LoopIn
import Derived.Maps.AppendAt
namespace Go.Proofs.YtieheieiolobaaaGreatDoor
open Go.RowKit Go.Shelf
attribute [local go_sem] Oper.semAt_some

abbrev enc8 : UInt8 → Value := fun b => .int .u8 (b.toNat : Int)

theorem bit_and (b : UInt8) (r : Nat) : bits .and .u8 ((b.toNat : Int) / 2 ^ r) 1 = if b.toNat.testBit r then 1 else 0 := by
  have hb := UInt8.toNat_lt b
  have e : ((b.toNat : Int) / 2 ^ r) = ((b.toNat / 2 ^ r : Nat) : Int) := by rw [Int.natCast_ediv, Int.natCast_pow]; rfl
  have hlt : b.toNat / 2 ^ r < 256 := Nat.lt_of_le_of_lt (Nat.div_le_self _ _) hb
  have h1 := u8_and_nat (b.toNat / 2 ^ r) 1 hlt (by omega)
  rw [e]
  refine Eq.trans h1 ?_
  rw [Nat.and_one_is_mod, Nat.testBit_eq_decide_div_mod_eq]
  by_cases h : b.toNat / 2 ^ r % 2 = 1
  · rw [h]; simp
  · have : b.toNat / 2 ^ r % 2 = 0 := by omega
    rw [this]; simp

theorem onsTo_prefix (l : List UInt8) (j k : Nat) (h : j ≤ k) : onsTo l j <+: onsTo l k := by
  induction k with
  | zero => rw [Nat.le_zero.1 h]; exact List.prefix_refl _
  | succ k ih =>
    rcases Nat.lt_or_ge j (k + 1) with c | c
    · refine (ih (by omega)).trans ?_
      by_cases hb : bitAt l k = true
      · rw [onsTo_succ_on hb]; exact List.prefix_append _ _
      · rw [onsTo_succ_off (by simpa using hb)]; exact List.prefix_refl _
    · rw [show j = k + 1 by omega]; exact List.prefix_refl _

theorem marked_in (F : Fence) (n : Nat) (hF : F.fn 95) (hro : F.round = none) (v : Value) (h1 : v.oneCell' = true) (w : World) :
    CallsIn F n Tryz.prog 95 #[v] w fun e w' => e = .returned (.func (.func 108) #[] #[.pointer (some ⟨w.heap.size, 0, none⟩)]) ∧ w' = w.alloc (.cells #[v] 63) := by
  cases v <;> simp [Value.oneCell'] at h1
  all_goals
    refine callsIn_of_wp Tryz.func95 rfl hF ?_ hro
    simp only [Tryz.ntmps95, List.size_toArray, List.length_cons, List.length_nil, Nat.reduceAdd, Nat.reduceSub, Array.replicate_succ, Array.replicate_zero, List.push_toArray, List.append_toArray, List.nil_append, List.cons_append]
    gi_wp2
    go_ret
    exact ⟨rfl, rfl⟩

set_option maxRecDepth 100000 in
set_option maxHeartbeats 1000000 in
theorem marked1_in (F : Fence) (n : Nat) (hF : F.fn 108) (hro : F.round = none) (hn : 1 ≤ n) (l Bn : Nat) (K : Nat → Prop) (v : Value) (bs : List UInt8) (J Jx : List Int → World → Prop)
    (hY : ∀ pre x W, J pre W → pre.length < 8 * bs.length → YieldAt F (n - 1) Tryz.prog l #[.int .i64 x] W fun e W' =>
      (e = .returned (.bool true) ∧ J (pre ++ [x]) W' ∧ Kept K W W') ∨ (e = .returned (.bool false) ∧ Jx (pre ++ [x]) W'))
    (W : World) (B : Nat) (hBn : K Bn) (hc : W.cell? ⟨Bn, 0, none⟩ = some v) (hv : Elems enc8 W B v bs) (hK : 0 < bs.length → ∀ ad n c, v = .slice (some ad) n c → K ad.block) (hl : bs.length ≤ 1000000) (h0 : J [] W) :
    CallsIn F n Tryz.prog 108 #[.func (.yield l) #[] #[], .pointer (some ⟨Bn, 0, none⟩)] W fun e W' => (∃ v, e = .returned v) ∧
      ((∃ ys, ys = onsOf bs ∧ J ys W') ∨ (∃ pre, pre <+: onsOf bs ∧ Jx pre W')) := by
  obtain ⟨A, c, rfl, hcc⟩ := hv.form
  refine callsIn_of_wp Tryz.func108 rfl hF ?_ hro
  simp only [Tryz.ntmps108, List.size_toArray, List.length_cons, List.length_nil, Nat.reduceAdd, Nat.reduceSub, Array.replicate_succ, Array.replicate_zero, List.push_toArray, List.append_toArray, List.nil_append, List.cons_append]
  gi_wp2
  gi_loopw [7] (fun i wr => ∃ k : Nat, k ≤ 8 * bs.length ∧ i = .int .i64 k ∧ J (onsTo bs k) wr ∧ Kept K W wr) (fun i _ => 8 * bs.length - (intOf i).toNat)
  case atStart => exact ⟨0, Nat.zero_le _, rfl, h0, Kept.refl _ _⟩
  case round =>
    obtain ⟨k, hk, rfl, hJ, hb⟩ := hrel
    have hc1 : wr.cell? ⟨Bn, 0, none⟩ = some (.slice A bs.length c) := (hb.cell (p := ⟨Bn, 0, none⟩) hBn).trans hc
    by_cases hlt : k < 8 * bs.length
    · obtain ⟨ad, rfl, hbl, hcell⟩ := (hv.kept hb hK).at_ (show k / 8 < bs.length by omega)
      have hbit : bs[k / 8].toNat.testBit (k % 8) = bitAt bs k := by
        unfold bitAt
        rw [List.getD_eq_getElem?_getD, List.getElem?_eq_getElem (by omega)]; rfl
      have hand := bit_and bs[k / 8] (k % 8)
      generalize hz : bs[k / 8] = z at *
      clear hz
      by_cases hon : bitAt bs k = true
      · rw [hbit, hon, if_pos rfl] at hand
        have HS := Lib.hid (onsTo_succ_on hon)
        have hlen := onsTo_length bs k
        obtain ⟨fn, tmps, assign, body, hy, hR⟩ := hY (onsTo bs k) (k : Int) wr hJ (by omega)
        clear hbit hon
        gi_wp2
        refine hR.mono ?_
        rintro e W3 (⟨rfl, hJ3, hk3⟩ | ⟨rfl, hJx3⟩)
        · gi_wp2
          go_roundw
          case rel => exact ⟨k + 1, by omega, by go_num, by rw [HS.out]; exact hJ3, hb.trans hk3⟩
          case measure => simp [intOf]; omega
        · gi_wp2
          refine bodyPost_ret (results_none rfl _ _ _) rfl ?_
          refine ⟨⟨_, rfl⟩, .inr ⟨onsTo bs k ++ [(k : Int)], ?_, hJx3⟩⟩
          rw [← HS.out]
          exact onsTo_prefix bs _ _ (by omega)
      · have hoff : bitAt bs k = false := by simpa using hon
        rw [hbit, hoff, if_neg (by simp)] at hand
        have HS := Lib.hid (onsTo_succ_off hoff)
        clear hbit hon hoff
        gi_wp2
        refine ⟨fun _ h => (by cases h), ?_⟩
        gi_wp2
        go_roundw
        case rel => exact ⟨k + 1, by omega, by go_num, by rw [HS.out]; exact hJ, hb⟩
        case measure => simp [intOf]; omega
    · obtain rfl : k = 8 * bs.length := by omega
      gi_wp2
      go_end0
      exact ⟨⟨_, rfl⟩, .inl ⟨_, rfl, hJ⟩⟩

theorem marked_stops (F : Fence) (n : Nat) (hF : F.fn 108) (hro : F.round = none) (hn : 1 ≤ n) (Bn : Nat) (v : Value) (bs : List UInt8) (w : World) (K : Nat → Prop) (hBn : K Bn) (hKs : ∀ k, K k → k < w.heap.size)
    (hc : w.cell? ⟨Bn, 0, none⟩ = some v) (hv : Elems enc8 w w.heap.size v bs) (hK : 0 < bs.length → ∀ ad n c, v = .slice (some ad) n c → K ad.block) (hl : bs.length ≤ 1000000) :
    SeqStopsK F n Tryz.prog 108 #[.pointer (some ⟨Bn, 0, none⟩)] (fun x : Int => #[Value.int .i64 x]) (Kept K) (fun ys => ys = onsOf bs) (fun pre => pre <+: onsOf bs) (8 * bs.length) w := fun l J Jx W hW _ _ hY h0 =>
  marked1_in F n hF hro hn l Bn K v bs J Jx hY W w.heap.size hBn ((hW.cell (p := ⟨Bn, 0, none⟩) (hKs _ hBn)).trans hc) (hv.below hW (Nat.le_refl _)) hK hl h0
theorem seqStops_keep {α : Type} {F : Fence} {n : Nat} {P : Program} {g : Nat} {lb : Array Value} {encs : α → Array Value} {Kp Kp' : World → World → Prop} {S Sp : List α → Prop} {N : Nat} {w : World} (h : SeqStopsK F n P g lb encs Kp S Sp N w) (hK : ∀ a b, Kp' a b → Kp a b) : SeqStopsK F n P g lb encs Kp' S Sp N w := fun l J Jx W hW hJ hJx hY h0 =>
  h l J Jx W hW hJ hJx (fun pre x W1 hj hp => by
    obtain ⟨fn, tmps, assign, body, hy, hR⟩ := hY pre x W1 hj hp
    exact ⟨fn, tmps, assign, body, hy, hR.mono fun e W' k => k.imp (fun q => ⟨q.1, q.2.1, hK _ _ q.2.2⟩) id⟩) h0
theorem kept_t {K : Nat → Prop} {A B C : World} (h : Kept K A B) (k : Kept K B C) : Kept K A C := h.trans k
theorem kept_b {K : Nat → Prop} {w : World} (hK : ∀ k, K k → k < w.heap.size) (W : World) (l : Nat) (o o' : Obj) (hl : w.heap.size ≤ l) (_ : W.heap[l]? = some o) (_ : o.isCells = false) (_ : o.isWalk = false) : Kept K W (W.putObj l o') :=
  fun k hk => World.putObj_heap_other (by have := hK k hk; omega)

theorem info_int : (Tryz.prog.info? 3).map (fun i => (i.zero, i.size, i.bytes)) = some (some (.int .i64 0), 1, 8) := by kernel_rfl

set_option maxRecDepth 100000 in
set_option maxHeartbeats 2000000 in
/-- slices.AppendSeq onto nil, of whatever tells numbers. -/
theorem AppendSeq_in (F : Fence) (n : Nat) (hFn : ∀ k, F.fn k) (hro : F.round = none) (hn : 3 ≤ n) (gf : Nat) (lb : Array Value) (eg : ∀ args w, (callFunc gf args).run Tryz.prog w = .ok (.enter gf args) w)
    (S Sp : List Int → Prop) (N : Nat) (hN : N ≤ 100000000) (w : World)
    (hseq : SeqStopsK F (n - 1) Tryz.prog gf lb (fun x : Int => #[Value.int .i64 x]) (Below w.heap.size) S Sp N w) :
    CallsIn F n Tryz.prog 107 #[.slice none 0 0, .func (.func gf) #[] lb] w fun e W' => ∃ v xs, e = .returned v ∧ S xs ∧ W'.ownsRow w.heap.size 3 1 v xs.length (xs.map (Value.int .i64)) ∧ Below w.heap.size w W' := by
  have h1 : 1 ≤ n := by omega
  obtain ⟨i0, hi, hz0, hz1, hz2⟩ := info_parts info_int
  refine callsIn_of_wp_marks Tryz.func107 rfl (hFn _) ?_ hro
  simp only [Tryz.ntmps107, List.size_toArray, List.length_cons, List.length_nil, Nat.reduceAdd, Nat.reduceSub, Array.replicate_succ, Array.replicate_zero, List.push_toArray, List.append_toArray, List.nil_append, List.cons_append]
  gi_wp2
  have bO := Boxed.new w 25 (.slice none 0 0)
  have hB0 : Below w.heap.size w (w.alloc (.cells #[.slice none 0 0] 25)) := (Below.refl _ w).alloc (Nat.le_refl _) _
  refine wpIn_rangeFunc_ownG hro h1 (gf := gf) (lb := lb) rfl (hFn _) eg hseq belowK_t (belowK_b (by simp)) hB0 (fun _ => rfl)
    (fun pre W => (∃ v, Boxed W w.heap.size 25 v ∧ W.ownsRow w.heap.size 3 1 v pre.length (pre.map (Value.int .i64)) ∧ True) ∧ Below w.heap.size w W)
    (fun _ _ _ => False)
    (OwnFrom.and (Own.from (holdsRow_own w.heap.size w.heap.size 25 3 1 (fun pre : List Int => pre.length) (fun pre => pre.map (Value.int .i64)) (fun _ _ => True)) _) (ownFrom_below (Nat.le_refl _) (by simp)))
    (fun _ _ _ _ _ hs _ _ => hs)
    ⟨⟨_, bO, World.ownsRow_nil _ _ _ _, trivial⟩, hB0⟩
    (fun x => { tmps := #[.slice none 0 0, .func (.func gf) #[] lb, .pointer (some ⟨w.heap.size, 0, none⟩), undef, .slice none 0 0, .int .i64 x, .func (.func gf) #[] lb, .int .i64 x, undef, undef, undef, undef, undef], defers := [] }) ?assign ?body ?done ?stop
  case assign =>
    intro l x W K hK
    gi_wp2
    exact hK
  case body =>
    rintro l pre x W ⟨⟨v, hv, hrow, _⟩, hB⟩ hlt
    have hc := hv.cell
    gi_wp2_with (gi_at_builtin; refine wpListIn_append_own _ rfl _ _ 25 rfl w.heap.size 3 i0 (.int .i64 0) 1 8 Tryz.underlying25 hi hz0 hz1 hz2 rfl (by decide) _ _ _ rfl (hrow.alloc _) ⟨W.heap.size, 0, none⟩ 1 1 [.int .i64 x] rfl rfl (cell_one_new _ _ _) (by simp [Value.oneCell']) (by have : maxLen = 9223372036854775807 := rfl; omega) (by omega) (by have := hB.size; simp; omega) ?_; intro v' w1 hown' hgrow _; obtain ⟨g', cap', rfl⟩ := ownsRow_succ hown'; obtain ⟨hv1, hv2, hr2, hk2, hb2⟩ := hv.appended (by decide) hrow hB.size (Nat.le_refl _) hown' hgrow; have hc1 := hv1.cell; have hf1 := hv1.frozen)
    exact ⟨hk2.from _, hb2, ⟨_, hv2, by simpa using hr2, trivial⟩, hB.trans hb2⟩
  case done =>
    rintro D ys W hD hS ⟨⟨v, hv, hrow, _⟩, hB⟩ hK
    have hc := hv.cell
    gi_wp2
    refine ⟨by simp, .inl ⟨_, _, rfl, run_takeDeferred hK, ?_⟩⟩
    exact ⟨_, results_tmp rfl _ _ _, v, ys, rfl, hS, ownsRow_putObj hrow _ hK rfl, hB.trans (belowK_b (w := w) (Nat.le_refl _) W D _ _ (by simp at hD; omega) hK rfl rfl)⟩
  case stop =>
    rintro D c pre W _ _ h _
    exact h.elim

set_option maxHeartbeats 1000000 in
theorem Collect_in (F : Fence) (n : Nat) (hFn : ∀ k, F.fn k) (hro : F.round = none) (hn : 4 ≤ n) (gf : Nat) (lb : Array Value) (eg : ∀ args w, (callFunc gf args).run Tryz.prog w = .ok (.enter gf args) w)
    (S Sp : List Int → Prop) (N : Nat) (hN : N ≤ 100000000) (w : World)
    (hseq : SeqStopsK F (n - 1 - 1) Tryz.prog gf lb (fun x : Int => #[Value.int .i64 x]) (Below w.heap.size) S Sp N w) :
    CallsIn F n Tryz.prog 94 #[.func (.func gf) #[] lb] w fun e W' => ∃ v xs, e = .returned v ∧ S xs ∧ W'.ownsRow w.heap.size 3 1 v xs.length (xs.map (Value.int .i64)) ∧ Below w.heap.size w W' := by
  have hf := hFn 107
  refine callsIn_of_wp Tryz.func94 rfl (hFn _) ?_ hro
  simp only [Tryz.ntmps94, List.size_toArray, List.length_cons, List.length_nil, Nat.reduceAdd, Nat.reduceSub, Array.replicate_succ, Array.replicate_zero, List.push_toArray, List.append_toArray, List.nil_append, List.cons_append]
  gi_wp2_with (fail)
  refine ⟨fun _ => by omega, ?_⟩
  refine (AppendSeq_in F (n - 1) hFn hro (by omega) gf lb eg S Sp N hN _ hseq).mono ?_
  rintro e w' ⟨v, xs, rfl, hS, hrow, hb⟩
  gi_wp2
  go_ret
  exact ⟨v, xs, rfl, hS, hrow, hb⟩

/-- slices.Collect(marked(..)), in the wide fence. -/
theorem Collect_marked (Bn : Nat) (v : Value) (bs : List UInt8) (w : World) (hBn : Bn < w.heap.size) (hc : w.cell? ⟨Bn, 0, none⟩ = some v) (hv : Elems enc8 w w.heap.size v bs) (hl : bs.length ≤ 1000000) :
    Calls Tryz.prog 94 #[.func (.func 108) #[] #[.pointer (some ⟨Bn, 0, none⟩)]] w fun e W' => ∃ v, e = .returned v ∧ Ints W' W'.heap.size v (onsOf bs) ∧ FromOn w.heap.size v ∧ Below w.heap.size w W' := by
  refine (callsIn_wide (n := 6)).1 ?_
  refine (Collect_in Fence.wide 6 (fun _ => trivial) rfl (by omega) _ _ (enters_of Tryz.func108 (by kernel_rfl) rfl) _ _ _ (by omega) w (seqStops_keep (marked_stops Fence.wide _ trivial rfl (by omega) Bn v bs w (· < w.heap.size) hBn (fun _ h => h) hc hv hv.blocks hl) (fun _ _ h => Kept.of_below h (fun _ h => h)))).mono ?_
  rintro e W' ⟨v, xs, rfl, rfl, hrow, hb⟩
  exact ⟨v, rfl, Elems.own hrow, fromOn_own hrow, hb⟩
theorem marked_any (A : Option Addr) (n c : Nat) (w : World) :
    Calls Tryz.prog 95 #[.slice A n c] w fun e w' => e = .returned (.func (.func 108) #[] #[.pointer (some ⟨w.heap.size, 0, none⟩)]) ∧ w' = w.alloc (.cells #[.slice A n c] 63) :=
  (callsIn_wide (n := 6)).1 (marked_in Fence.wide 6 trivial rfl _ rfl w)
end Go.Proofs.YtieheieiolobaaaGreatDoor

namespace Go.Proofs.YtieheieiolobaaaGreatDoor
open Go.RowKit Go.Shelf
attribute [local go_sem] Oper.semAt_some

def alikeB (n : Int) (a : List Int) (m : Int) (b : List Int) : Bool := rightB n a && rightB m b && decide (n = m)

end Go.Proofs.YtieheieiolobaaaGreatDoor

namespace Go.Proofs.YtieheieiolobaaaGreatDoor
open Go.RowKit Go.Shelf
attribute [local go_sem] Oper.semAt_some

def sliceLen : Value → Nat | .slice _ n _ => n | _ => 0
/-- What is in both. -/
def bothOf (a b : List Int) : List Int := a.filter fun x => decide (x ∈ b)
theorem bothOf_step (a b : List Int) (k : Nat) (hk : k < a.length) : bothOf (a.take (k + 1)) b = if a[k] ∈ b then bothOf (a.take k) b ++ [a[k]] else bothOf (a.take k) b := by
  unfold bothOf
  rw [List.take_succ_eq_append_getElem hk, List.filter_append]
  by_cases h : a[k] ∈ b
  · simp [h]
  · simp [h]
theorem bothOf_prefix (a b : List Int) (k : Nat) : bothOf (a.take k) b <+: bothOf a b := by
  unfold bothOf
  conv => rhs; rw [← List.take_append_drop k a, List.filter_append]
  exact List.prefix_append _ _
theorem bothOf_length (a b : List Int) : (bothOf a b).length ≤ a.length := List.length_filter_le _ _

/-- Of a rising list in two parts, the first one's all below x: is x in it? -/
theorem mem_rest {b q r : List Int} {x : Int} (hb : b = q ++ r) (hr : b.Pairwise (· < ·)) (hq : ∀ y ∈ q, y < x) (hh : ∀ y, r.head? = some y → x ≤ y) : x ∈ b ↔ r.head? = some x := by
  subst hb
  rw [List.pairwise_append] at hr
  constructor
  · intro h
    rw [List.mem_append] at h
    rcases h with h | h
    · have := hq x h; omega
    · cases r with
      | nil => cases h
      | cons y r =>
        have h1 := hh y rfl
        rw [List.mem_cons] at h
        rcases h with rfl | h
        · rfl
        · have := (List.pairwise_cons.1 hr.2.1).1 x h; omega
  · intro h
    rw [List.mem_append]
    exact .inr (List.mem_of_mem_head? h)

end Go.Proofs.YtieheieiolobaaaGreatDoor

namespace Go.Proofs.YtieheieiolobaaaGreatDoor
open Go.RowKit Go.Shelf
attribute [local go_sem] Oper.semAt_some

def disjOf (n : Int) (a : List Int) (m : Int) (b : List Int) : Bool := alikeB n a m b && !(a.any fun x => decide (x ∈ b))
def subOf (n : Int) (a : List Int) (m : Int) (b : List Int) : Bool := alikeB n a m b && a.all fun x => decide (x ∈ b)
theorem both_nil (a b : List Int) : bothOf a b = [] ↔ (a.any fun x => decide (x ∈ b)) = false := by
  unfold bothOf
  rw [List.filter_eq_nil_iff]
  simp
theorem both_all (a b : List Int) : ((bothOf a b).length = a.length) ↔ (a.all fun x => decide (x ∈ b)) = true := by
  unfold bothOf
  rw [List.length_filter_eq_length_iff]
  simp

end Go.Proofs.YtieheieiolobaaaGreatDoor
