/- Parts: of raw texts, parts. -/
import Derived.Test.YtagfbbflpjjbfaaOctK
import Derived.StillTactics
import Derived.OwnWalk
import Derived.Laws.Pointers
import Derived.Deep.RegionHeld3
import Derived.Deep.AppendLies
namespace Go.Proofs.Ytagfbbflpjjbfaa
open Go.RowKit

/-- One raw text, cut to twenty bytes. -/
def cut20 (s : ByteArray) : ByteArray := s.extract 0 (min (s.size : Int) 20).toNat
def partsOf (ss : List ByteArray) : List ByteArray := (ss.take 6).map cut20
theorem cut20_size (s : ByteArray) : (cut20 s).size ≤ 20 := by
  unfold cut20; rw [ext_size _ _ _ (by omega)]; omega
theorem partsOf_length (ss : List ByteArray) : (partsOf ss).length ≤ 6 := by
  unfold partsOf; rw [List.length_map, List.length_take]; omega

set_option maxHeartbeats 1000000 in
theorem Parts_any (ss : List ByteArray) (v : Value) (w : World) (hv : Strs w w.heap.size v ss) :
    Calls Try.prog 9 #[v] w fun e w' => ∃ v', e = .returned v' ∧ w'.ownsRow w.heap.size 9 1 v' (partsOf ss).length ((partsOf ss).map Value.string) ∧ Below w.heap.size w w' := by
  obtain ⟨A, c, rfl, hc⟩ := hv.form
  obtain ⟨i0, hi, hz0, hz1, hz2⟩ := info_parts info_str
  go_enter Try.func9, Try.ntmps9
  go_wp2_with fail
  go_loopw [3, 4] (fun o i wr => ∃ k : Nat, k ≤ ss.length ∧ k ≤ 6 ∧ i = .int .i64 k ∧ wr.ownsRow w.heap.size 9 1 o k (((ss.take k).map cut20).map Value.string) ∧ Below w.heap.size w wr) (fun _ i _ => 6 - (intOf i).toNat)
  case atStart => exact ⟨0, Nat.zero_le _, by omega, rfl, World.ownsRow_nil _ _ _ _, Below.refl _ _⟩
  case round =>
    obtain ⟨k, hk, hk6, rfl, hown, hb⟩ := hrel
    by_cases hlt : k < ss.length
    · by_cases hlt6 : k < 6
      · obtain ⟨ad, rfl, hbl, hcell⟩ := (hv.below hb (Nat.le_refl _)).at_ hlt
        have hi1 : (k : Int) < (ss.length : Int) := by omega
        have hi6 : (k : Int) < 6 := by omega
        generalize hx : ss[k] = x at *
        have HX := Lib.hid hx
        clear hx
        have hz := hb.size
        have hlad : (ad.add k).block < w.heap.size := by rw [add_block]; exact hbl
        have hown' : ∀ g, u3.ownBlock = some g → w.heap.size ≤ g := fun g hg => (hown.lt g hg).1
        have hm0 : (0 : Int) ≤ min (x.size : Int) 20 := by omega
        have hm1 : min (x.size : Int) 20 ≤ (x.size : Int) := by omega
        have hm2 : ¬ ((x.size : Int) < min (x.size : Int) 20) := by omega
        have hm3 : ¬ (min (x.size : Int) 20 < 0) := by omega
        go_wp2_with fail
        go_region_held3 (fun w' => w'.cell? (ad.add k) = some (.string x))
          (first
            | go_keep
            | (rw [hgrow.cell_far _ (by simp; omega) (fun e => by have := hown' _ e.symm; omega)]; assumption))
          ((refine step_append_lies _ (by rfl) _ _ _ (by rfl) w.heap.size 9 i0 _ 1 16 Try.underlying23 hi hz0 hz1 hz2 rfl (by omega) u3 k _ (by rfl) ((hown.alloc _).drew)
              ⟨wr.heap.size, 0, none⟩ 1 1 [.string (x.extract 0 (min (x.size : Int) 20).toNat)] (by rfl) (by rfl) (World.news_of_block (cs := #[.string (x.extract 0 (min (x.size : Int) 20).toNat)]) (t := 9) (fr := (0, 0)) (heap_alloc_new wr _)) (by simp [Value.oneCell'])
              (by omega) (by unfold maxLen; omega) (by omega) (by simp; omega) (wr.heap.size + 1) (by simp) ?_; intro gg cap w1 hown1 hgrow hat hlt))
        have R := hown1
        rw [← List.map_singleton (f := Value.string), ← List.map_append] at R
        have hbn : Below w.heap.size w w1 := (hb.alloc hz _).drew.grown hgrow (by simp; omega) (fun g hg => hown' g hg)
        clear hown1 hgrow hown hb hown'
        go_wp2_with fail
        go_roundw
        case rel =>
          refine ⟨k + 1, by omega, by omega, by go_num, ?_, hbn⟩
          have e : (ss.take (k + 1)).map cut20 = (ss.take k).map cut20 ++ [x.extract 0 (min (x.size : Int) 20).toNat] := by
            rw [List.take_succ_eq_append_getElem (by assumption), List.map_append, HX.out]; rfl
          rw [e]; exact R
        case measure => simp [intOf]; omega
      · have hk6' : k = 6 := by omega
        have hi1 : (k : Int) < (ss.length : Int) := by omega
        have hd6 : decide ((k : Int) < 6) = false := by simp; omega
        have he : partsOf ss = (ss.take k).map cut20 := by unfold partsOf; rw [hk6']
        have hel : (partsOf ss).length = k := by rw [he, List.length_map, List.length_take]; omega
        have hown2 : wr.ownsRow w.heap.size 9 1 u3 (partsOf ss).length ((partsOf ss).map Value.string) := by rw [hel, he]; exact hown
        clear he hel hk6' hown
        go_wp2_with fail
        go_ret
        exact ⟨_, rfl, hown2, hb⟩
    · have hd : decide (k < ss.length) = false := by simp; omega
      have he : partsOf ss = (ss.take k).map cut20 := by
        unfold partsOf; rw [List.take_of_length_le (by omega), List.take_of_length_le (by omega)]
      have hel : (partsOf ss).length = k := by rw [he, List.length_map, List.length_take]; omega
      have hown2 : wr.ownsRow w.heap.size 9 1 u3 (partsOf ss).length ((partsOf ss).map Value.string) := by rw [hel, he]; exact hown
      clear he hel hown
      go_wp2_with fail
      go_ret
      exact ⟨_, rfl, hown2, hb⟩
end Go.Proofs.Ytagfbbflpjjbfaa
