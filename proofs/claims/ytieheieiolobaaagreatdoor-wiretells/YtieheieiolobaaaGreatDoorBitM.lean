/- The statements' own small functions of layer 2: pick, Same.
   The statements' own Bits: of raw numbers, bits that are right. -/
import Derived.Test.YtieheieiolobaaaGreatDoorBitK
import Derived.Test.YtieheieiolobaaaGreatDoorBitH
import Derived.Test.YtieheieiolobaaaGreatDoorBitG
import Derived.Test.YtieheieiolobaaaGreatDoorBitF
import Derived.Deep.QuietTactic
import Derived.BigQuiet
namespace Go.Proofs.YtieheieiolobaaaGreatDoor
open Go.RowKit Go.Shelf

/-- pick: which of n things a raw number speaks of. -/
def pickOf (c n : Int) : Int := (if c < 0 then -(c + 1) else c) % n
theorem pickOf_bd (c n : Int) (hn : 0 < n) : 0 ≤ pickOf c n ∧ pickOf c n < n := by
  unfold pickOf
  exact ⟨Int.emod_nonneg _ (by omega), Int.emod_lt_of_pos _ hn⟩

theorem pick_any (c n : Int) (w : World) (hc : -9223372036854775808 ≤ c ∧ c ≤ 9223372036854775807) (hn : 0 < n) (hn2 : n ≤ 1000000) :
    Calls Tryz.prog 53 #[.int .i64 c, .int .i64 n] w fun e w' => e = .returned (.int .i64 (pickOf c n)) ∧ w = w' := by
  by_cases h : c < 0
  · have he : pickOf c n = -((c + 1).tmod n) := by
      unfold pickOf
      rw [if_pos h, ← Int.neg_tmod, Int.tmod_eq_emod_of_nonneg (by omega)]
    rw [he]
    clear he
    go_enter Tryz.func53, Tryz.ntmps53
    go_wp2
    go_ret
    exact ⟨rfl, rfl⟩
  · have he : pickOf c n = c % n := by unfold pickOf; rw [if_neg h]
    rw [he]
    clear he
    go_enter Tryz.func53, Tryz.ntmps53
    go_wp2
    go_ret
    exact ⟨rfl, rfl⟩

theorem take_eq_step {α : Type} (a b : List α) (k : Nat) (h1 : k < a.length) (h2 : k < b.length) (h : a.take k = b.take k) (he : a[k] = b[k]) : a.take (k + 1) = b.take (k + 1) := by
  rw [List.take_succ_eq_append_getElem h1, List.take_succ_eq_append_getElem h2, h, he]

def sameB (n : Int) (a : List Int) (m : Int) (b : List Int) : Bool := decide (n = m) && decide (a = b)

set_option maxHeartbeats 1000000 in
theorem Same_any (x y : Value) (n m : Int) (a b : List Int) (w : World) (hx : Bt w x n a) (hy : Bt w y m b) (h9 : a.length ≤ maxLen) (h9b : b.length ≤ maxLen) :
    Calls Tryz.prog 47 #[x, y] w fun e w' => e = .returned (.bool (sameB n a m b)) ∧ Below w.heap.size w w' := by
  obtain ⟨A, c, rfl, hc, hv⟩ := hx.form
  obtain ⟨A', c', rfl, hc', hv'⟩ := hy.form
  have h9' : a.length ≤ 9223372036854775807 := h9
  obtain ⟨W0, hW0⟩ : ∃ W0, W0 = (w.alloc (.cells #[.int .i64 n, .slice A a.length c] 27)).alloc (.cells #[.int .i64 m, .slice A' b.length c'] 27) := ⟨_, rfl⟩
  have p0 : RowAt W0 w.heap.size 27 [.int .i64 n, .slice A a.length c] := by rw [hW0]; exact (RowAt.new w 27 #[.int .i64 n, .slice A a.length c]).alloc _
  have p1 : RowAt W0 (w.heap.size + 1) 27 [.int .i64 m, .slice A' b.length c'] := by
    have := RowAt.new (w.alloc (.cells #[.int .i64 n, .slice A a.length c] 27)) 27 #[.int .i64 m, .slice A' b.length c']
    rw [World.size_alloc] at this
    rw [hW0]; exact this
  have hB0 : Below w.heap.size w W0 := by rw [hW0]; exact ((Below.refl _ w).alloc (Nat.le_refl _) _).alloc (by simp) _
  by_cases hnm : n = m
  · subst hnm
    by_cases hl : a.length = b.length
    · have hd : ((a.length : Int) != (b.length : Int)) = false := by simp [hl]
      have HL := Lib.hid hl
      clear hl
      go_enter Tryz.func47, Tryz.ntmps47
      go_wp2_with fail
      rw [← hW0]
      clear hW0
      go_loopw [5] (fun i wr => ∃ k : Nat, k ≤ a.length ∧ i = .int .i64 k ∧ a.take k = b.take k ∧ Below W0.heap.size W0 wr) (fun i _ => a.length - (intOf i).toNat)
      case atStart => exact ⟨0, Nat.zero_le _, rfl, by simp, Below.refl _ _⟩
      case round =>
        obtain ⟨k, hk, rfl, hte, hbw⟩ := hrel
        have HT := Lib.hid hte
        clear hte
        have q0 := p0.below hbw p0.lt
        have q1 := p1.below hbw p1.lt
        have c01 := q0.cell 1
        have c11 := q1.cell 1
        simp only [List.getElem?_cons_zero, List.getElem?_cons_succ] at c01 c11
        have hB := hB0.trans (hbw.mono hB0.size)
        by_cases hlt : k < a.length
        · have hlt2 : k < b.length := by have := HL.out; omega
          obtain ⟨ad, rfl, hbl, hcell⟩ := (hv.below hB (Nat.le_refl _)).at_ hlt
          obtain ⟨ad', rfl, hbl', hcell'⟩ := (hv'.below hB (Nat.le_refl _)).at_ hlt2
          have HS := Lib.hid (fun he => take_eq_step a b k hlt hlt2 HT.out he)
          have HG := Lib.hid (fun e : a = b => (show a[k] = b[k] by subst e; rfl))
          generalize hx : a[k] = x at *
          generalize hy : b[k] = y at *
          clear hx hy p0 p1
          go_wp2_with fail
          go_region
          all_goals (try go_wp2)
          · go_ret
            rename_i hne
            have hne2 : ¬ x = y := by simpa using hne
            have hdf : sameB n a n b = false := by
              unfold sameB
              rw [decide_eq_false (fun e => hne2 (HG.out e))]; simp
            exact ⟨by rw [hdf]; rfl, hB.drew⟩
          · rename_i hne
            have he : x = y := by simpa using hne
            go_roundw
            case rel => exact ⟨k + 1, by omega, by go_num, HS.out he, hbw.drew⟩
            case measure => simp [intOf]; omega
        · have hke : k = a.length := by omega
          have he : a = b := by
            have h1 := HT.out
            rw [List.take_of_length_le (by omega), List.take_of_length_le (by have := HL.out; omega)] at h1
            exact h1
          have HE := Lib.hid he
          clear he hke
          go_wp2_with fail
          go_ret
          exact ⟨by rw [show sameB n a n b = true by simp [sameB, HE.out]]; rfl, hB⟩
    · have hd : ((a.length : Int) != (b.length : Int)) = true := by simp; omega
      have he : sameB n a n b = false := by
        unfold sameB
        rw [decide_eq_false (fun e : a = b => hl (by rw [e]))]; simp
      rw [he]
      clear he
      go_enter Tryz.func47, Tryz.ntmps47
      go_wp2_with fail
      go_ret
      rw [← hW0]
      exact ⟨rfl, hB0⟩
  · have hd : (n != m) = true := by simpa using hnm
    have he : sameB n a m b = false := by simp [sameB, hnm]
    rw [he]
    clear he
    go_enter Tryz.func47, Tryz.ntmps47
    go_wp2_with fail
    go_ret
    rw [← hW0]
    exact ⟨rfl, hB0⟩
end Go.Proofs.YtieheieiolobaaaGreatDoor

namespace Go.Proofs.YtieheieiolobaaaGreatDoor
open Go.RowKit Go.Shelf

/-- Do the numbers tell i? -/
def toldBy (p : Nat) (raw : List Int) (i : Nat) : Bool := raw.any fun r => decide (pickOf r p = (i : Int))
/-- Those below k that the first forty numbers tell. -/
def pickTo (p : Nat) (raw : List Int) (k : Nat) : List Int := ((List.range k).filter fun i => toldBy p (raw.take 40) i).map fun i : Nat => (i : Int)
def pickSet (p : Nat) (raw : List Int) : List Int := pickTo p raw p
theorem pickTo_on {p : Nat} {raw : List Int} {k : Nat} (h : toldBy p (raw.take 40) k = true) : pickTo p raw (k + 1) = pickTo p raw k ++ [(k : Int)] := by
  simp [pickTo, List.range_succ, List.filter_append, h]
theorem pickTo_off {p : Nat} {raw : List Int} {k : Nat} (h : toldBy p (raw.take 40) k = false) : pickTo p raw (k + 1) = pickTo p raw k := by
  simp [pickTo, List.range_succ, List.filter_append, h]
theorem pickTo_length (p : Nat) (raw : List Int) (k : Nat) : (pickTo p raw k).length ≤ k := by
  unfold pickTo
  rw [List.length_map]
  exact Nat.le_trans (List.length_filter_le _ _) (by simp)
theorem pickSet_right (p : Nat) (raw : List Int) (h : p ≤ 2048) : rightB p (pickSet p raw) = true := by
  refine (rightB_iff _ _).2 ⟨⟨by omega, by omega⟩, ?_, ?_⟩
  · unfold pickSet pickTo
    rw [List.pairwise_map]
    exact (List.Pairwise.filter _ List.pairwise_lt_range).imp fun h => by omega
  · intro x hx
    simp only [pickSet, pickTo, List.mem_map, List.mem_filter, List.mem_range] at hx
    obtain ⟨i, ⟨h1, _⟩, rfl⟩ := hx
    omega
theorem toldBy_step (p : Nat) (raw : List Int) (k i : Nat) (hk : k < raw.length) : toldBy p (raw.take (k + 1)) i = (toldBy p (raw.take k) i || decide (pickOf raw[k] p = (i : Int))) := by
  unfold toldBy
  rw [List.take_succ_eq_append_getElem hk, List.any_append]
  simp

theorem owns_below {W W' : World} {base : Nat} {e : TypeId} {size k : Nat} {v : Value} {xs : List Value} (h : W.ownsRow base e size v k xs) (hb : Below W.heap.size W W') : W'.ownsRow base e size v k xs :=
  h.kept (row := none) ⟨hb.os, hb.tape, hb.output, hb.size, fun k hk _ => hb.block k hk⟩ (by
    rcases h.2 with ⟨rfl, _⟩ | ⟨g, cap, cur, rfl, _⟩
    · exact .inl rfl
    · exact .inr (by simp [Value.ownBlock]))

theorem Newer.own {W : World} {base lo : Nat} {e : TypeId} {size k : Nat} {h v : Value} {xs : List Value} (ho : W.ownsRow base e size v k xs) (hl : lo ≤ base) : Newer lo (.agg #[h, v]) := fun h' ad n c he => by
  injection he with he
  have e2 : #[h, v].toList = #[h', Value.slice (Option.some ad) n c].toList := by rw [he]
  simp at e2
  obtain ⟨_, rfl⟩ := e2
  exact Nat.le_trans hl (ho.lt _ rfl).1
set_option maxHeartbeats 2000000 in
set_option maxRecDepth 100000 in
theorem Bits_new (n below : Int) (raw : List Int) (v : Value) (w : World) (hv : Ints w w.heap.size v raw) (hn : -9223372036854775808 ≤ n ∧ n ≤ 9223372036854775807) (hr : ∀ r ∈ raw, -9223372036854775808 ≤ r ∧ r ≤ 9223372036854775807) (hb0 : 0 < below) (hb1 : below ≤ 2000) :
    Calls Tryz.prog 25 #[.int .i64 n, .int .i64 below, v] w fun e w' => ∃ x, e = .returned x ∧ Bt w' x (pickOf n below) (pickSet (pickOf n below).toNat raw) ∧ Below w.heap.size w w' ∧ Newer w.heap.size x := by
  obtain ⟨A, c, rfl, hc⟩ := hv.form
  obtain ⟨i0, hi, hz0, hz1, hz2⟩ := info_parts info_int
  have HP := fun W => pick_any n below W hn hb0 (by omega)
  obtain ⟨hp0, hp1⟩ := pickOf_bd n below hb0
  generalize pickOf n below = P0 at *
  obtain ⟨p, rfl⟩ := Int.eq_ofNat_of_zero_le hp0
  rw [Int.toNat_natCast]
  have hp2 : p ≤ 2000 := by omega
  clear hp0 hp1
  go_enter Tryz.func25, Tryz.ntmps25
  go_wp2_with fail
  with_reducible refine (HP _).mono ?_
  rintro e w1 ⟨rfl, rfl⟩
  go_wp2_with fail
  obtain ⟨W0, hW0⟩ : ∃ W0, W0 = (w.alloc (.cells #[.int .i64 0, .slice none 0 0] 27)).alloc (.cells #[.int .i64 (p : Int), .slice none 0 0] 27) := ⟨_, rfl⟩
  have p0 : RowAt W0 w.heap.size 27 [.int .i64 0, .slice none 0 0] := by rw [hW0]; exact (RowAt.new w 27 #[.int .i64 0, .slice none 0 0]).alloc _
  have p1 : RowAt W0 (w.heap.size + 1) 27 [.int .i64 (p : Int), .slice none 0 0] := by
    have := RowAt.new (w.alloc (.cells #[.int .i64 0, .slice none 0 0] 27)) 27 #[.int .i64 (p : Int), .slice none 0 0]
    rw [World.size_alloc] at this
    rw [hW0]; exact this
  have hB0 : Below w.heap.size w W0 := by rw [hW0]; exact ((Below.refl _ w).alloc (Nat.le_refl _) _).alloc (by simp) _
  have hs0 : w.heap.size + 2 ≤ W0.heap.size := by rw [hW0]; simp
  rw [← hW0]
  clear hW0 HP
  go_loopw [8] (fun iv wr => ∃ i : Nat, i ≤ p ∧ iv = .int .i64 i ∧ (∃ u, RowAt wr (w.heap.size + 1) 27 [.int .i64 (p : Int), u] ∧ wr.ownsRow W0.heap.size 3 1 u (pickTo p raw i).length ((pickTo p raw i).map (Value.int .i64))) ∧ RowAt wr w.heap.size 27 [.int .i64 0, .slice none 0 0] ∧ W0.heap.size ≤ wr.heap.size ∧ Below w.heap.size w wr) (fun i _ => p - (intOf i).toNat)
  case atStart => exact ⟨0, Nat.zero_le _, rfl, ⟨_, p1, World.ownsRow_nil _ _ _ _⟩, p0, Nat.le_refl _, hB0⟩
  case round =>
    obtain ⟨i, hip, rfl, ⟨u, q1, hown⟩, q0, hsz, hB⟩ := hrel
    obtain ⟨wo, hwo⟩ : ∃ wo, wo = wr := ⟨_, rfl⟩
    subst hwo
    have c10 := q1.cell 0
    have c11 := q1.cell 1
    simp only [List.getElem?_cons_zero, List.getElem?_cons_succ] at c10 c11
    clear p0 p1 hB0
    by_cases hlt : i < p
    · go_wp2_with fail
      go_loopw [9, 10] (fun bv kv wi => ∃ k : Nat, k ≤ raw.length ∧ k ≤ 40 ∧ kv = .int .i64 k ∧ bv = .bool (toldBy p (raw.take k) i) ∧ Below wo.heap.size wo wi) (fun _ kv _ => 40 - (intOf kv).toNat)
      case atStart => exact ⟨0, Nat.zero_le _, by omega, rfl, by simp [toldBy], Below.refl _ _⟩
      case round =>
        obtain ⟨k, hk1, hk2, rfl, rfl, hbw⟩ := hrel
        by_cases hk3 : k < raw.length ∧ k < 40
        · obtain ⟨hk4, hk5⟩ := hk3
          obtain ⟨ad, rfl, hbl, hcell0⟩ := hv.at_ hk4
          have hcell : wr.cell? (ad.add k) = some (.int .i64 raw[k]) := ((hbw.cell (by rw [add_block]; have := hB.size; omega)).trans (hB.cell (by rw [add_block]; exact hbl))).trans hcell0
          have d10 : wr.cell? ⟨w.heap.size + 1, 0, none⟩ = some (.int .i64 (p : Int)) := (hbw.cell (p := ⟨w.heap.size + 1, 0, none⟩) q1.lt).trans c10
          have HS := Lib.hid (toldBy_step p raw k i hk4)
          have HPk := fun W => (pick_any raw[k] (p : Int) W (hr _ (List.getElem_mem hk4)) (by omega) (by omega)).mono (R' := fun e w' => e = .returned (.int .i64 (pickOf raw[k] (p : Int))) ∧ w' = W) (fun e w' h => ⟨h.1, h.2.symm⟩)
          generalize hy : raw[k] = y at *
          generalize ht : toldBy p (raw.take k) i = t at *
          generalize hP : pickOf y (p : Int) = P at *
          clear hy ht hP hcell0 c10 c11
          cases t
          · go_wp2_with fail
            go_quiet (first | (go_at_call 53; refine Calls.quiet_of_same (HPk _)))
            go_wp2_with fail
            go_roundw
            case rel => exact ⟨k + 1, by omega, by omega, by go_num, by rw [HS.out]; first | rfl | simp, ⟨hbw.os, hbw.tape, hbw.output, hbw.size, hbw.block⟩⟩
            case measure => simp [intOf]; omega
          · go_wp2_with fail
            go_quiet (first | (go_at_call 53; refine Calls.quiet_of_same (HPk _)))
            go_wp2_with fail
            go_roundw
            case rel => exact ⟨k + 1, by omega, by omega, by go_num, by rw [HS.out]; first | rfl | simp, ⟨hbw.os, hbw.tape, hbw.output, hbw.size, hbw.block⟩⟩
            case measure => simp [intOf]; omega
        · have htk : toldBy p (raw.take k) i = toldBy p (raw.take 40) i := by
            rcases Nat.lt_or_ge k 40 with h | h
            · rw [List.take_of_length_le (by omega), List.take_of_length_le (show raw.length ≤ 40 by omega)]
            · rw [show k = 40 by omega]
          rw [htk]
          have q1' := q1.below hbw q1.lt
          have q0' := q0.below hbw q0.lt
          have hown' := owns_below hown hbw
          have hB' := hB.trans (hbw.mono hB.size)
          have d10 := q1'.cell 0
          have d11 := q1'.cell 1
          simp only [List.getElem?_cons_zero, List.getElem?_cons_succ] at d10 d11
          have hsz' : W0.heap.size ≤ wr.heap.size := Nat.le_trans hsz hbw.size
          have hlen := pickTo_length p raw i
          have HON := Lib.hid (@pickTo_on p raw i)
          have HOFF := Lib.hid (@pickTo_off p raw i)
          generalize ht : toldBy p (raw.take 40) i = t at *
          clear ht htk q1 q0 hown hB hbw c10 c11
          have hcs : (k < raw.length ∧ ¬ k < 40) ∨ ¬ k < raw.length := by omega
          clear hk3
          cases t
          · rcases hcs with ⟨hkl, hk40⟩ | hkl
            all_goals
              go_wp2_with fail
              go_roundw
              case rel =>
                refine ⟨i + 1, by omega, by go_num, ⟨u, q1', ?_⟩, q0', hsz', hB'⟩
                rw [HOFF.out rfl]; exact hown'
              case measure => simp [intOf]; omega
          · rcases hcs with ⟨hkl, hk40⟩ | hkl
            all_goals
              go_wp2_with (at_builtin; refine wpList_append_own _ rfl _ _ 25 rfl W0.heap.size 3 i0 (.int .i64 0) 1 8 Tryz.underlying25 hi hz0 hz1 hz2 rfl (by decide) _ _ _ rfl (hown'.alloc _) ⟨wr.heap.size, 0, none⟩ 1 1 [.int .i64 (i : Int)] rfl rfl (cell_one_new _ _ _) (by simp [Value.oneCell']) (by have : maxLen = 9223372036854775807 := rfl; omega) (by omega) (by simp; omega) ?_; intro v' w1 hown2 hgrow _; obtain ⟨g', cap', rfl⟩ := ownsRow_succ hown2; have d3 := rowAt_append hown' hgrow q1' (by omega); have d31 := d3.cell 1; have d30 := d3.frozen 1; simp only [List.getElem?_cons_zero, List.getElem?_cons_succ] at d31)
              have hgrow' : (wr.alloc (.cells #[.int .i64 (i : Int)] 3)).grownBy w1 u.ownBlock := hgrow
              go_roundw
              case rel =>
                refine ⟨i + 1, by omega, by go_num, ⟨_, d3.set 1 _, ?_⟩, (rowAt_append hown' hgrow' q0' (by omega)).far (p := ⟨w.heap.size + 1, 1, none⟩) (by simp) _, ?_, hB'.trans (below_append hown' hgrow' (by omega) (by have := hB'.size; omega) (p := ⟨w.heap.size + 1, 1, none⟩) (by simp) _)⟩
                · have := ownsRow_setCell_below hown2 (a := ⟨w.heap.size + 1, 1, none⟩) (by show w.heap.size + 1 < _; omega) (.slice (some ⟨g', 0, none⟩) ((pickTo p raw i).length + 1) cap')
                  rw [HON.out rfl]
                  simpa using this
                · have := hgrow'.size
                  simp [World.setCell] at this ⊢
                  omega
              case measure => simp [intOf]; omega
    · obtain rfl : i = p := by omega
      obtain ⟨Au, cu, rfl⟩ : ∃ Au cu, u = .slice Au (pickTo i raw i).length cu := by
        obtain ⟨Au, cu, e, _⟩ := (Elems.own (enc := Value.int .i64) (xs := pickTo i raw i) hown).form
        exact ⟨Au, cu, e⟩
      have HO := Lib.hid hown
      have HQ := Lib.hid q0
      have c00 := q0.cell 0
      have c01 := q0.cell 1
      simp only [List.getElem?_cons_zero, List.getElem?_cons_succ] at c00 c01
      have f0 := q0.frozen 0
      have f1 := q0.frozen 1
      clear hown q0
      go_wp2_with fail
      have R := (HQ.out.set 0 (.int .i64 (i : Int))).set 1 (.slice Au (pickTo i raw i).length cu)
      have e0 := R.cell 0
      have e1 := R.cell 1
      simp only [List.set_cons_zero, List.set_cons_succ, List.getElem?_cons_zero, List.getElem?_cons_succ] at e0 e1
      refine bodyPost_ret (v := .agg #[.int .i64 (i : Int), .slice Au (pickTo i raw i).length cu]) (by simp [results, Tryz.results25, go_sem, e0, e1]) rfl ?_
      refine ⟨_, rfl, ⟨_, rfl, ?_⟩, (hB.setCell (p := ⟨w.heap.size, 0, none⟩) (Nat.le_refl _) _).setCell (p := ⟨w.heap.size, 1, none⟩) (Nat.le_refl _) _, Newer.own HO.out (by omega)⟩
      have := ownsRow_setCell_below (ownsRow_setCell_below HO.out (a := ⟨w.heap.size, 0, none⟩) (by show w.heap.size < _; omega) (.int .i64 (i : Int))) (a := ⟨w.heap.size, 1, none⟩) (by show w.heap.size < _; omega) (.slice Au (pickTo i raw i).length cu)
      exact Elems.own this
theorem Bits_any (n below : Int) (raw : List Int) (v : Value) (w : World) (hv : Ints w w.heap.size v raw) (hn : -9223372036854775808 ≤ n ∧ n ≤ 9223372036854775807) (hr : ∀ r ∈ raw, -9223372036854775808 ≤ r ∧ r ≤ 9223372036854775807) (hb0 : 0 < below) (hb1 : below ≤ 2000) :
    Calls Tryz.prog 25 #[.int .i64 n, .int .i64 below, v] w fun e w' => ∃ x, e = .returned x ∧ Bt w' x (pickOf n below) (pickSet (pickOf n below).toNat raw) ∧ Below w.heap.size w w' :=
  (Bits_new n below raw v w hv hn hr hb0 hb1).mono fun e w' ⟨x, h1, h2, h3, _⟩ => ⟨x, h1, h2, h3⟩
end Go.Proofs.YtieheieiolobaaaGreatDoor
