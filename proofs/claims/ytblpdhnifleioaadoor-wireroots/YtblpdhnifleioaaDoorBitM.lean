/- The statements' own small functions of layer 2: pick, Same.
   The statements' own Bits: of raw numbers, bits that are right. -/
import Derived.Test.YtblpdhnifleioaaDoorBitK
import Derived.Test.YtblpdhnifleioaaDoorBitH
import Derived.Test.YtblpdhnifleioaaDoorBitG
import Derived.Test.YtblpdhnifleioaaDoorBitF
import Derived.Deep.QuietTactic
import Derived.BigQuiet
namespace Go.Proofs.YtblpdhnifleioaaDoor
open Go.RowKit Go.Shelf

/-- pick: which of n things a raw number speaks of. -/
def pickOf (c n : Int) : Int := (if c < 0 then -(c + 1) else c) % n
theorem pickOf_bd (c n : Int) (hn : 0 < n) : 0 ≤ pickOf c n ∧ pickOf c n < n := by
  unfold pickOf
  exact ⟨Int.emod_nonneg _ (by omega), Int.emod_lt_of_pos _ hn⟩

theorem take_eq_step {α : Type} (a b : List α) (k : Nat) (h1 : k < a.length) (h2 : k < b.length) (h : a.take k = b.take k) (he : a[k] = b[k]) : a.take (k + 1) = b.take (k + 1) := by
  rw [List.take_succ_eq_append_getElem h1, List.take_succ_eq_append_getElem h2, h, he]

def sameB (n : Int) (a : List Int) (m : Int) (b : List Int) : Bool := decide (n = m) && decide (a = b)

set_option maxHeartbeats 1000000 in
theorem Same_any (x y : Value) (n m : Int) (a b : List Int) (w : World) (hx : Bt w x n a) (hy : Bt w y m b) (h9 : a.length ≤ maxLen) (h9b : b.length ≤ maxLen) :
    Calls Tryd.prog 29 #[x, y] w fun e w' => e = .returned (.bool (sameB n a m b)) ∧ Below w.heap.size w w' := by
  obtain ⟨A, c, rfl, hc, hv⟩ := hx.form
  obtain ⟨A', c', rfl, hc', hv'⟩ := hy.form
  have h9' : a.length ≤ 9223372036854775807 := h9
  obtain ⟨W0, hW0⟩ : ∃ W0, W0 = (w.alloc (.cells #[.int .i64 n, .slice A a.length c] 34)).alloc (.cells #[.int .i64 m, .slice A' b.length c'] 34) := ⟨_, rfl⟩
  have p0 : RowAt W0 w.heap.size 34 [.int .i64 n, .slice A a.length c] := by rw [hW0]; exact (RowAt.new w 34 #[.int .i64 n, .slice A a.length c]).alloc _
  have p1 : RowAt W0 (w.heap.size + 1) 34 [.int .i64 m, .slice A' b.length c'] := by
    have := RowAt.new (w.alloc (.cells #[.int .i64 n, .slice A a.length c] 34)) 34 #[.int .i64 m, .slice A' b.length c']
    rw [World.size_alloc] at this
    rw [hW0]; exact this
  have hB0 : Below w.heap.size w W0 := by rw [hW0]; exact ((Below.refl _ w).alloc (Nat.le_refl _) _).alloc (by simp) _
  by_cases hnm : n = m
  · subst hnm
    by_cases hl : a.length = b.length
    · have hd : ((a.length : Int) != (b.length : Int)) = false := by simp [hl]
      have HL := Lib.hid hl
      clear hl
      go_enter Tryd.func29, Tryd.ntmps29
      go_wp2_with fail
      rw [← hW0]
      clear hW0
      go_loopw [5] (fun i wr => ∃ k : Nat, k ≤ a.length ∧ i = .int .i64 k ∧ a.take k = b.take k ∧ Below W0.heap.size W0 wr) (fun i _ => a.length - (intOf i).toNat)
      case atStart => exact ⟨0, Nat.zero_le _, rfl, by simp, Below.refl _ _⟩
      case round =>
        obtain ⟨k, hk, rfl, hte, hbw⟩ := hrel
        have HT := Lib.hid hte
        clear hte
        have q0 := p0.below hbw p0.lt
        have q1 := p1.below hbw p1.lt
        have c01 := q0.cell 1
        have c11 := q1.cell 1
        simp only [List.getElem?_cons_zero, List.getElem?_cons_succ] at c01 c11
        have hB := hB0.trans (hbw.mono hB0.size)
        by_cases hlt : k < a.length
        · have hlt2 : k < b.length := by have := HL.out; omega
          obtain ⟨ad, rfl, hbl, hcell⟩ := (hv.below hB (Nat.le_refl _)).at_ hlt
          obtain ⟨ad', rfl, hbl', hcell'⟩ := (hv'.below hB (Nat.le_refl _)).at_ hlt2
          have HS := Lib.hid (fun he => take_eq_step a b k hlt hlt2 HT.out he)
          have HG := Lib.hid (fun e : a = b => (show a[k] = b[k] by subst e; rfl))
          generalize hx : a[k] = x at *
          generalize hy : b[k] = y at *
          clear hx hy p0 p1
          go_wp2_with fail
          go_region
          all_goals (try go_wp2)
          · go_ret
            rename_i hne
            have hne2 : ¬ x = y := by simpa using hne
            have hdf : sameB n a n b = false := by
              unfold sameB
              rw [decide_eq_false (fun e => hne2 (HG.out e))]; simp
            exact ⟨by rw [hdf]; rfl, hB.drew⟩
          · rename_i hne
            have he : x = y := by simpa using hne
            go_roundw
            case rel => exact ⟨k + 1, by omega, by go_num, HS.out he, hbw.drew⟩
            case measure => simp [intOf]; omega
        · have hke : k = a.length := by omega
          have he : a = b := by
            have h1 := HT.out
            rw [List.take_of_length_le (by omega), List.take_of_length_le (by have := HL.out; omega)] at h1
            exact h1
          have HE := Lib.hid he
          clear he hke
          go_wp2_with fail
          go_ret
          exact ⟨by rw [show sameB n a n b = true by simp [sameB, HE.out]]; rfl, hB⟩
    · have hd : ((a.length : Int) != (b.length : Int)) = true := by simp; omega
      have he : sameB n a n b = false := by
        unfold sameB
        rw [decide_eq_false (fun e : a = b => hl (by rw [e]))]; simp
      rw [he]
      clear he
      go_enter Tryd.func29, Tryd.ntmps29
      go_wp2_with fail
      go_ret
      rw [← hW0]
      exact ⟨rfl, hB0⟩
  · have hd : (n != m) = true := by simpa using hnm
    have he : sameB n a m b = false := by simp [sameB, hnm]
    rw [he]
    clear he
    go_enter Tryd.func29, Tryd.ntmps29
    go_wp2_with fail
    go_ret
    rw [← hW0]
    exact ⟨rfl, hB0⟩
end Go.Proofs.YtblpdhnifleioaaDoor

namespace Go.Proofs.YtblpdhnifleioaaDoor
open Go.RowKit Go.Shelf

/-- Do the numbers tell i? -/
def toldBy (p : Nat) (raw : List Int) (i : Nat) : Bool := raw.any fun r => decide (pickOf r p = (i : Int))
/-- Those below k that the first forty numbers tell. -/
def pickTo (p : Nat) (raw : List Int) (k : Nat) : List Int := ((List.range k).filter fun i => toldBy p (raw.take 40) i).map fun i : Nat => (i : Int)
def pickSet (p : Nat) (raw : List Int) : List Int := pickTo p raw p
theorem pickTo_on {p : Nat} {raw : List Int} {k : Nat} (h : toldBy p (raw.take 40) k = true) : pickTo p raw (k + 1) = pickTo p raw k ++ [(k : Int)] := by
  simp [pickTo, List.range_succ, List.filter_append, h]
theorem pickTo_off {p : Nat} {raw : List Int} {k : Nat} (h : toldBy p (raw.take 40) k = false) : pickTo p raw (k + 1) = pickTo p raw k := by
  simp [pickTo, List.range_succ, List.filter_append, h]
theorem pickTo_length (p : Nat) (raw : List Int) (k : Nat) : (pickTo p raw k).length ≤ k := by
  unfold pickTo
  rw [List.length_map]
  exact Nat.le_trans (List.length_filter_le _ _) (by simp)
theorem pickSet_right (p : Nat) (raw : List Int) (h : p ≤ 2048) : rightB p (pickSet p raw) = true := by
  refine (rightB_iff _ _).2 ⟨⟨by omega, by omega⟩, ?_, ?_⟩
  · unfold pickSet pickTo
    rw [List.pairwise_map]
    exact (List.Pairwise.filter _ List.pairwise_lt_range).imp fun h => by omega
  · intro x hx
    simp only [pickSet, pickTo, List.mem_map, List.mem_filter, List.mem_range] at hx
    obtain ⟨i, ⟨h1, _⟩, rfl⟩ := hx
    omega
theorem toldBy_step (p : Nat) (raw : List Int) (k i : Nat) (hk : k < raw.length) : toldBy p (raw.take (k + 1)) i = (toldBy p (raw.take k) i || decide (pickOf raw[k] p = (i : Int))) := by
  unfold toldBy
  rw [List.take_succ_eq_append_getElem hk, List.any_append]
  simp

theorem owns_below {W W' : World} {base : Nat} {e : TypeId} {size k : Nat} {v : Value} {xs : List Value} (h : W.ownsRow base e size v k xs) (hb : Below W.heap.size W W') : W'.ownsRow base e size v k xs :=
  h.kept (row := none) ⟨hb.os, hb.tape, hb.output, hb.size, fun k hk _ => hb.block k hk⟩ (by
    rcases h.2 with ⟨rfl, _⟩ | ⟨g, cap, cur, rfl, _⟩
    · exact .inl rfl
    · exact .inr (by simp [Value.ownBlock]))

theorem Newer.own {W : World} {base lo : Nat} {e : TypeId} {size k : Nat} {h v : Value} {xs : List Value} (ho : W.ownsRow base e size v k xs) (hl : lo ≤ base) : Newer lo (.agg #[h, v]) := fun h' ad n c he => by
  injection he with he
  have e2 : #[h, v].toList = #[h', Value.slice (Option.some ad) n c].toList := by rw [he]
  simp at e2
  obtain ⟨_, rfl⟩ := e2
  exact Nat.le_trans hl (ho.lt _ rfl).1
end Go.Proofs.YtblpdhnifleioaaDoor
