/- The helpers of layer 7's laws: pick, Keys, Table. -/
import Derived.Test.YtjjccoliknngcaaOrcQ
namespace Go.Proofs.Ytjjccoliknngcaa
open Go.RowKit Go.Lib

theorem pick7_any (c n : Int) (w : World) (hc : I64 c) (hn : 0 < n) (hn2 : n ≤ 1000000000) :
    Calls Try.prog 27 #[.int .i64 c, .int .i64 n] w fun e w' => e = .returned (.int .i64 (pickN c n : Int)) ∧ w = w' := by
  unfold I64 at hc
  rw [← pickN_eq c n hn]
  by_cases h : c < 0
  · have he : tPickOf c n = -((c + 1).tmod n) := by
      unfold tPickOf
      rw [if_pos h, ← Int.neg_tmod, Int.tmod_eq_emod_of_nonneg (by omega)]
    rw [he]
    clear he
    go_enter Try.func27, Try.ntmps27
    go_wp2
    go_ret
    exact ⟨rfl, rfl⟩
  · have he : tPickOf c n = c % n := by unfold tPickOf; rw [if_neg h]
    rw [he]
    clear he
    go_enter Try.func27, Try.ntmps27
    go_wp2
    go_ret
    exact ⟨rfl, rfl⟩

def had12 (ks : List Nat) : List Value := (List.range 12).map fun k => .bool (ks.contains k)
theorem had12_nil : had12 [] = [.bool false, .bool false, .bool false, .bool false, .bool false, .bool false, .bool false, .bool false, .bool false, .bool false, .bool false, .bool false] := by rfl
theorem had12_get (ks : List Nat) (k : Nat) (h : k < 12) : (had12 ks)[k]? = some (.bool (ks.contains k)) := by
  unfold had12
  rw [List.getElem?_map, List.getElem?_range h]; rfl
theorem had12_set (ks : List Nat) (k : Nat) : (had12 ks).set k (.bool true) = had12 (ks ++ [k]) := by
  apply List.ext_getElem
  · simp [had12]
  · intro i h1 h2
    simp only [had12, List.getElem_set, List.getElem_map, List.getElem_range]
    by_cases hik : k = i
    · subst hik; simp
    · rw [if_neg hik]
      simp
      intro e
      exact absurd e.symm hik

/-- The keys of raw numbers: none twice. -/
def keysTo (raw : List Int) : Nat → List Nat
  | 0 => []
  | i + 1 => if h : i < raw.length then (if pickN raw[i] 12 ∈ keysTo raw i then keysTo raw i else keysTo raw i ++ [pickN raw[i] 12]) else keysTo raw i
theorem keysTo_had {raw : List Int} {i : Nat} (h : i < raw.length) (hk : pickN raw[i] 12 ∈ keysTo raw i) : keysTo raw (i + 1) = keysTo raw i := by rw [keysTo, dif_pos h, if_pos hk]
theorem keysTo_new {raw : List Int} {i : Nat} (h : i < raw.length) (hk : pickN raw[i] 12 ∉ keysTo raw i) : keysTo raw (i + 1) = keysTo raw i ++ [pickN raw[i] 12] := by rw [keysTo, dif_pos h, if_neg hk]
theorem keysTo_facts (raw : List Int) : ∀ i, (keysTo raw i).Nodup ∧ (∀ k ∈ keysTo raw i, k < 12) ∧ (keysTo raw i).length ≤ i
  | 0 => by simp [keysTo]
  | i + 1 => by
    obtain ⟨h1, h2, h3⟩ := keysTo_facts raw i
    rw [keysTo]
    split
    · split
      · exact ⟨h1, h2, by omega⟩
      · rename_i hl hk
        have hp := pickN_lt raw[i] 12 (by decide)
        refine ⟨?_, fun k hk2 => ?_, by rw [List.length_append]; simp; omega⟩
        · rw [List.nodup_append]
          exact ⟨h1, by simp, fun a ha b hb => by simp at hb; subst hb; intro e; exact hk (e ▸ ha)⟩
        · rcases List.mem_append.1 hk2 with h | h
          · exact h2 k h
          · simp at h; subst h; omega
    · exact ⟨h1, h2, by omega⟩
def keysL (raw : List Int) : List Nat := keysTo raw (min raw.length 12)
theorem keysL_facts (raw : List Int) : (keysL raw).Nodup ∧ (∀ k ∈ keysL raw, k < 12) ∧ (keysL raw).length ≤ 12 := by
  obtain ⟨h1, h2, h3⟩ := keysTo_facts raw (min raw.length 12)
  exact ⟨h1, h2, by unfold keysL; omega⟩

set_option maxHeartbeats 4000000 in
set_option maxRecDepth 100000 in
theorem Keys7_any (v : Value) (raw : List Int) (w : World) (hv : Ints w w.heap.size v raw) (hI : ∀ r ∈ raw, I64 r) (l9 : raw.length ≤ maxLen) :
    Calls Try.prog 11 #[v] w fun e w' => ∃ A c, e = .returned (.slice A (keysL raw).length c) ∧ Wds w' w'.heap.size (.slice A (keysL raw).length c) (keysL raw) ∧ Below w.heap.size w w' := by
  obtain ⟨Av, cv, rfl, hcv⟩ := hv.form
  have l9' : raw.length ≤ 9223372036854775807 := l9
  obtain ⟨i0, hi, hz0, hz1, hz2⟩ := info_parts info_u64
  obtain ⟨w2, hw2⟩ : ∃ w2, w2 = w.alloc (.cells #[.bool false, .bool false, .bool false, .bool false, .bool false, .bool false, .bool false, .bool false, .bool false, .bool false, .bool false, .bool false] 62) := ⟨_, rfl⟩
  have hd0 : RowAt w2 w.heap.size 62 (had12 []) := by rw [had12_nil, hw2]; exact RowAt.new w 62 #[.bool false, .bool false, .bool false, .bool false, .bool false, .bool false, .bool false, .bool false, .bool false, .bool false, .bool false, .bool false]
  have hb0 : Below w.heap.size w w2 := by rw [hw2]; exact (Below.refl _ _).alloc (Nat.le_refl _) _
  have hz2w : w2.heap.size = w.heap.size + 1 := by rw [hw2, World.size_alloc]
  have HW := Lib.hid hw2
  clear hw2
  go_enter Try.func11, Try.ntmps11
  go_wp2_with fail
  rw [← HW.out]
  clear HW
  go_loopw [4, 5] (fun o iv wr => ∃ i : Nat, i ≤ raw.length ∧ i ≤ 12 ∧ iv = .int .i64 (i : Int) ∧ wr.ownsRow (w.heap.size + 1) 25 1 o (keysTo raw i).length ((keysTo raw i).map fun k : Nat => Value.int .u64 (k : Int)) ∧ RowAt wr w.heap.size 62 (had12 (keysTo raw i)) ∧ Below w.heap.size w wr ∧ w.heap.size + 1 ≤ wr.heap.size) (fun _ iv _ => 12 - (intOf iv).toNat)
  case atStart => exact ⟨0, Nat.zero_le _, Nat.zero_le _, rfl, World.ownsRow_nil _ _ _ _, hd0, hb0, by omega⟩
  case round =>
    obtain ⟨i, hir, hi12, rfl, hown, hhd, hb, hz⟩ := hrel
    clear hd0 hb0
    by_cases hin : i < raw.length ∧ i < 12
    · obtain ⟨hlt, hlt12⟩ := hin
      have hi1 : ((i : Int) < (raw.length : Int)) = True := eq_true (by omega)
      have hi1n : (i < raw.length) = True := eq_true hlt
      have hi2 : ((i : Int) < 12) = True := eq_true (by omega)
      have hi2n : (i < 12) = True := eq_true hlt12
      obtain ⟨ad, rfl, _, hcell⟩ := (hv.below hb (Nat.le_refl _)).at_ hlt
      have cP := fun W => pick7_any raw[i] 12 W (hI _ (List.getElem_mem hlt)) (by decide) (by decide)
      have hk := pickN_lt raw[i] 12 (by decide)
      have HH := Lib.hid (keysTo_had (raw := raw) hlt)
      have HN := Lib.hid (keysTo_new (raw := raw) hlt)
      have hkl := (keysTo_facts raw i).2.2
      generalize pickN raw[i] 12 = k at *
      generalize raw[i] = r at *
      generalize keysTo raw i = ks at *
      have hk' : k < 12 := by omega
      have hc0 : wr.cell? ⟨w.heap.size, k, none⟩ = some (.bool (ks.contains k)) := by rw [hhd.cell]; exact had12_get ks k hk'
      have hf0 := hhd.frozen k
      cases hck : ks.contains k
      · rw [hck] at hc0
        have hnk : k ∉ ks := by simpa using hck
        have HN2 := Lib.hid (HN.out hnk)
        have hset := hhd.set k (.bool true)
        rw [had12_set ks k] at hset
        have hownS := ownsRow_setCell_other hown (a := ⟨w.heap.size, k, none⟩) (fun e => by have h5 := (hown.lt w.heap.size e).1; omega) (.bool true)
        have hbS := hb.setCell (p := ⟨w.heap.size, k, none⟩) (Nat.le_refl _) (.bool true)
        have hwu : IntKind.u64.wrap (k : Int) = (k : Int) := IntWalk.u64_in _ (by omega)
        obtain ⟨wS, hwS⟩ : ∃ wS, wS = wr.setCell ⟨w.heap.size, k, none⟩ (.bool true) := ⟨_, rfl⟩
        have hzS : w.heap.size + 1 ≤ wS.heap.size := by rw [hwS]; simpa [World.setCell] using hz
        rw [← hwS] at hset hownS hbS
        have HWS := Lib.hid hwS
        clear hwS hown hhd hb hck HN HH
        go_wp2_with fail
        with_reducible refine (cP _).mono ?_
        rintro e w3 ⟨rfl, rfl⟩
        go_upto_region 9 with (fail)
        rw [← HWS.out]
        clear HWS hc0 hf0 hcell cP
        go_wp2_with (at_builtin; refine wpList_append_own _ rfl _ _ 24 rfl (w.heap.size + 1) 25 i0 (.int .u64 0) 1 8 Try.underlying24 hi hz0 hz1 hz2 rfl (by decide) _ _ _ rfl (hownS.alloc _) ⟨wS.heap.size, 0, none⟩ 1 1 [.int .u64 (k : Int)] rfl rfl (cell_one_new _ _ _) (by simp [Value.oneCell']) (by have : maxLen = 9223372036854775807 := rfl; omega) (by omega) (by simp; omega) ?_; intro v' w1 hown2 hgrow _)
        replace hgrow : (wS.alloc (.cells #[.int .u64 (k : Int)] 25)).grownBy w1 u4.ownBlock := hgrow
        have hown' : ∀ g, u4.ownBlock = some g → w.heap.size + 1 ≤ g := fun g hg => (hownS.lt g hg).1
        have hd5 := (hset.alloc (.cells #[.int .u64 (k : Int)] 25)).grown hgrow (fun e => by have := hown' _ e.symm; omega)
        have hb5 : Below w.heap.size w w1 := (hbS.alloc hbS.size _).grown hgrow (by simp; omega) (fun g hg => by have := hown' g hg; omega)
        have hz5 : w.heap.size + 1 ≤ w1.heap.size := by have := hgrow.size; simp at this; omega
        have own6 : w1.ownsRow (w.heap.size + 1) 25 1 v' (ks ++ [k]).length ((ks ++ [k]).map fun k : Nat => Value.int .u64 (k : Int)) := by rw [List.map_append, List.length_append]; exact hown2
        clear hown2 hgrow hset hownS hbS
        go_wp2_with fail
        go_roundw
        case rel => exact ⟨i + 1, by omega, by omega, by go_num, by rw [HN2.out]; exact own6, by rw [HN2.out]; exact hd5, hb5, hz5⟩
        case measure => simp [intOf]; omega
      · rw [hck] at hc0
        have HH2 := Lib.hid (HH.out (by simpa using hck))
        clear hck HN HH
        go_wp2_with fail
        with_reducible refine (cP _).mono ?_
        rintro e w3 ⟨rfl, rfl⟩
        go_wp2_with fail
        go_roundw
        case rel => exact ⟨i + 1, by omega, by omega, by go_num, by rw [HH2.out]; exact hown, by rw [HH2.out]; exact hhd, hb, hz⟩
        case measure => simp [intOf]; omega
    · have hK : keysTo raw i = keysL raw := by unfold keysL; congr 1; omega
      rw [hK] at hown
      have hW := Elems.own (enc := fun n : Nat => Value.int .u64 (n : Int)) hown
      obtain ⟨Au, cu, rfl, _⟩ := hW.form
      clear hK hown hhd
      by_cases hlt : i < raw.length
      · have hi1 : ((i : Int) < (raw.length : Int)) = True := eq_true (by omega)
        have hi1n : (i < raw.length) = True := eq_true hlt
        have hi2 : ((i : Int) < 12) = False := eq_false (by omega)
        have hi2n : (i < 12) = False := eq_false (by omega)
        go_wp2_with fail
        go_ret
        exact ⟨_, _, rfl, hW, hb⟩
      · have hi1 : ((i : Int) < (raw.length : Int)) = False := eq_false (by omega)
        have hi1n : (i < raw.length) = False := eq_false hlt
        go_wp2_with fail
        go_ret
        exact ⟨_, _, rfl, hW, hb⟩
end Go.Proofs.Ytjjccoliknngcaa
