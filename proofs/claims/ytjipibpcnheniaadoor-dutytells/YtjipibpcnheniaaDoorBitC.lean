/- bits.marked, and the iterator that it hands back. -/
import Derived.Test.YtjipibpcnheniaaDoorBitB
import Derived.RangeFuncNested
import Derived.RangeFuncBound
import Derived.RangeFuncCalls
import Derived.RangeFuncLeaves
import Derived.RangeFuncBox
import Derived.Shelf.Abstract
import Derived.Shelf.RegionOpen
import Derived.WalkKit
import Derived.OwnWalkIn
import Derived.TacticsInMore
import Derived.LoopNIn
import Derived.LoopIn
import Derived.Maps.AppendAt
namespace Go.Proofs.YtjipibpcnheniaaDoor
open Go.RowKit Go.Shelf
attribute [local go_sem] Oper.semAt_some

abbrev enc8 : UInt8 → Value := fun b => .int .u8 (b.toNat : Int)

theorem bit_and (b : UInt8) (r : Nat) : bits .and .u8 ((b.toNat : Int) / 2 ^ r) 1 = if b.toNat.testBit r then 1 else 0 := by
  have hb := UInt8.toNat_lt b
  have e : ((b.toNat : Int) / 2 ^ r) = ((b.toNat / 2 ^ r : Nat) : Int) := by rw [Int.natCast_ediv, Int.natCast_pow]; rfl
  have hlt : b.toNat / 2 ^ r < 256 := Nat.lt_of_le_of_lt (Nat.div_le_self _ _) hb
  have h1 := u8_and_nat (b.toNat / 2 ^ r) 1 hlt (by omega)
  rw [e]
  refine Eq.trans h1 ?_
  rw [Nat.and_one_is_mod, Nat.testBit_eq_decide_div_mod_eq]
  by_cases h : b.toNat / 2 ^ r % 2 = 1
  · rw [h]; simp
  · have : b.toNat / 2 ^ r % 2 = 0 := by omega
    rw [this]; simp

theorem onsTo_prefix (l : List UInt8) (j k : Nat) (h : j ≤ k) : onsTo l j <+: onsTo l k := by
  induction k with
  | zero => rw [Nat.le_zero.1 h]; exact List.prefix_refl _
  | succ k ih =>
    rcases Nat.lt_or_ge j (k + 1) with c | c
    · refine (ih (by omega)).trans ?_
      by_cases hb : bitAt l k = true
      · rw [onsTo_succ_on hb]; exact List.prefix_append _ _
      · rw [onsTo_succ_off (by simpa using hb)]; exact List.prefix_refl _
    · rw [show j = k + 1 by omega]; exact List.prefix_refl _

theorem seqStops_keep {α : Type} {F : Fence} {n : Nat} {P : Program} {g : Nat} {lb : Array Value} {encs : α → Array Value} {Kp Kp' : World → World → Prop} {S Sp : List α → Prop} {N : Nat} {w : World} (h : SeqStopsK F n P g lb encs Kp S Sp N w) (hK : ∀ a b, Kp' a b → Kp a b) : SeqStopsK F n P g lb encs Kp' S Sp N w := fun l J Jx W hW hJ hJx hY h0 =>
  h l J Jx W hW hJ hJx (fun pre x W1 hj hp => by
    obtain ⟨fn, tmps, assign, body, hy, hR⟩ := hY pre x W1 hj hp
    exact ⟨fn, tmps, assign, body, hy, hR.mono fun e W' k => k.imp (fun q => ⟨q.1, q.2.1, hK _ _ q.2.2⟩) id⟩) h0
theorem kept_t {K : Nat → Prop} {A B C : World} (h : Kept K A B) (k : Kept K B C) : Kept K A C := h.trans k
theorem kept_b {K : Nat → Prop} {w : World} (hK : ∀ k, K k → k < w.heap.size) (W : World) (l : Nat) (o o' : Obj) (hl : w.heap.size ≤ l) (_ : W.heap[l]? = some o) (_ : o.isCells = false) (_ : o.isWalk = false) : Kept K W (W.putObj l o') :=
  fun k hk => World.putObj_heap_other (by have := hK k hk; omega)

theorem info_int : (Tryd.prog.info? 3).map (fun i => (i.zero, i.size, i.bytes)) = some (some (.int .i64 0), 1, 8) := by kernel_rfl

end Go.Proofs.YtjipibpcnheniaaDoor
