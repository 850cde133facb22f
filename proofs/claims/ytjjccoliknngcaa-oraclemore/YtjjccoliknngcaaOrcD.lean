/- The document's own answers of layer 7: Sign. -/
import Derived.Test.YtjjccoliknngcaaOrcC
import Derived.StillTail
import Derived.StillTailTactics
namespace Go.Proofs.Ytjjccoliknngcaa
open Go.RowKit

theorem wp_still_tail_ {P : Program} {id : Nat} {Q : Exit → Act → World → Prop} {a : Act} {w : World} {l : List Oper} (n : Nat) (hm : P.follows .mixedOrders = true) (hB : Region.lexTailB .any l.toArray n = true)
    (h : wpStill P l.toArray w.drew (fun a' => wpList P l.toArray Q (l.drop n) a' w.drew) (l.take n) a) : (Code.region id l.toArray true).wp P Q a w :=
  wp_region_still_tail n hm hB h
theorem sign_take (r : Nat) (ks : List Nat) (k : Nat) (hk : k < ks.length) : signL r (ks.take (k + 1)) = ins (ks[k], r) (signL r (ks.take k)) := by
  rw [List.take_succ_eq_append_getElem hk, signL_snoc]
/-- What Sign answers. -/
def signO (r : Nat) (ks : List Nat) : List Pr × Int := if 2048 < ks.length then ([], 4) else (signL r ks, 0)

set_option maxHeartbeats 4000000 in
set_option maxRecDepth 100000 in
theorem orSign_any (root : Nat) (v : Value) (ks : List Nat) (w : World) (hv : Wds w w.heap.size v ks) (h9 : ks.length ≤ 100000) :
    Calls Try.prog 19 #[.int .u64 root, v] w fun e w' => ∃ A c, e = .returned (.tuple #[.agg #[.bool false, .slice A (signO root ks).1.length c], .int .i64 (signO root ks).2]) ∧ Prs w' w'.heap.size (.slice A (signO root ks).1.length c) (signO root ks).1 ∧ FromOn w.heap.size (.slice A (signO root ks).1.length c) ∧ Below w.heap.size w w' := by
  obtain ⟨A, c, rfl, hc⟩ := hv.form
  obtain ⟨RE, hRE⟩ : ∃ RE, signO root ks = RE := ⟨_, rfl⟩
  rw [hRE]
  obtain ⟨R, E⟩ := RE
  unfold signO at hRE
  by_cases hl : 2048 < ks.length
  · rw [if_pos hl] at hRE
    cases hRE
    have hd : ((2048 : Int) < (ks.length : Int)) = True := eq_true (by omega)
    go_enter Try.func19, Try.ntmps19
    go_wp2_with fail
    refine bodyPost_ret (v := .tuple #[.agg #[.bool false, .slice none 0 0], .int .i64 4]) (by simp [results, Try.results19, go_sem]) rfl ?_
    exact ⟨none, 0, rfl, Prs.nil _ _, from_none _ _ _, (Below.refl _ _).alloc (Nat.le_refl _) _⟩
  · rw [if_neg hl] at hRE
    cases hRE
    have hd : ((2048 : Int) < (ks.length : Int)) = False := eq_false (by omega)
    go_enter Try.func19, Try.ntmps19
    go_wp2_with fail
    have r0 := (RowAt.new w 40 #[.bool false, .slice none 0 0]).alloc (.cells #[.bool false, .slice none 0 0] 40)
    have r1 := RowAt.new (w.alloc (.cells #[.bool false, .slice none 0 0] 40)) 40 #[.bool false, .slice none 0 0]
    rw [World.size_alloc] at r1
    have b0 := ((Below.refl w.heap.size w).alloc (Nat.le_refl _) (.cells #[.bool false, .slice none 0 0] 40)).alloc (by simp) (.cells #[.bool false, .slice none 0 0] 40)
    generalize hw0 : (w.alloc (.cells #[.bool false, .slice none 0 0] 40)).alloc (.cells #[.bool false, .slice none 0 0] 40) = w0 at *
    have z0 : w0.heap.size = w.heap.size + 2 := by rw [← hw0]; simp only [World.size_alloc]
    clear hw0
    go_loopw [7] (fun i wr => ∃ k : Nat, k ≤ ks.length ∧ i = .int .i64 k ∧ RowAt wr w.heap.size 40 [.bool false, .slice none 0 0] ∧ (∃ A c, RowAt wr (w.heap.size + 1) 40 [.bool false, .slice A (signL root (ks.take k)).length c] ∧ Prs wr wr.heap.size (.slice A (signL root (ks.take k)).length c) (signL root (ks.take k)) ∧ FromOn (w.heap.size + 2) (.slice A (signL root (ks.take k)).length c)) ∧ w.heap.size + 2 ≤ wr.heap.size ∧ Below w.heap.size w wr) (fun i _ => ks.length - (intOf i).toNat)
    case atStart => exact ⟨0, Nat.zero_le _, rfl, r0, ⟨none, 0, r1, Prs.nil _ _, from_none _ _ _⟩, by omega, b0⟩
    case round =>
      obtain ⟨k, hk, rfl, q0, ⟨O, oc, q1, hP, hF⟩, hz, hb⟩ := hrel
      clear r0 r1 b0 z0
      by_cases hlt : k < ks.length
      · have hs := signL_srt root (ks.take k)
        have HS := Lib.hid (sign_take root ks k hlt)
        have h9o : (signL root (ks.take k)).length ≤ 100000 := by rw [signL_length, List.length_take]; omega
        obtain ⟨ad, rfl, _, hcell⟩ := (hv.below hb (Nat.le_refl _)).at_ hlt
        obtain ⟨x0, x1⟩ := q1.two
        have cW := orwith_any _ _ (ks[k], root) wr.drew (show Prs wr.drew wr.drew.heap.size _ _ from hP) hs (by omega)
        generalize signL root (ks.take k) = o at *
        generalize ks[k] = key at *
        go_wp2_with fail
        refine wp_still_tail_ 8 (by kernel_rfl) (by kernel_rfl) ?_
        simp only [List.take_succ_cons, List.take_zero, List.drop_succ_cons, List.drop_zero]
        repeat still_step
        refine wpStill_nil ?_
        go_wp2_with fail
        with_reducible refine cW.mono ?_
        rintro e w3 ⟨O2, oc2, rfl, hP2, hF2, b2⟩
        have b3 : Below wr.heap.size wr w3 := ((Below.refl wr.heap.size wr).drew).trans b2
        have hF3 : FromOn (w.heap.size + 2) (.slice O2 (ins (key, root) o).length oc2) := FromOn.less (lo := wr.heap.size) hF2 hz
        have y0 := q0.on b3
        have y1 := q1.on b3
        have f1 := y1.frozen 1
        have c1 := y1.two.2
        have hb3 := hb.trans (b3.mono hb.size)
        have hz3 := Nat.le_trans hz b3.size
        have t0 := y0.far (p := ⟨w.heap.size + 1, 1, none⟩) (by simp) (.slice O2 (ins (key, root) o).length oc2)
        have t1 := y1.set 1 (.slice O2 (ins (key, root) o).length oc2)
        have t2 := (hP2.setCell hF3 (p := ⟨w.heap.size + 1, 1, none⟩) (by simp) (.slice O2 (ins (key, root) o).length oc2)).sz
        have t3 := hb3.setCell (p := ⟨w.heap.size + 1, 1, none⟩) (by simp) (.slice O2 (ins (key, root) o).length oc2)
        have t4 : w.heap.size + 2 ≤ (w3.setCell ⟨w.heap.size + 1, 1, none⟩ (.slice O2 (ins (key, root) o).length oc2)).heap.size := by simpa [World.setCell] using hz3
        clear q0 q1 hP hF hP2 hF2 b2 b3 y0 y1 hb3 hz3 cW hcell x0 x1
        generalize ins (key, root) o = o2 at *
        go_wp2_with fail
        go_roundw
        case rel => exact ⟨k + 1, by omega, by go_num, t0, ⟨O2, oc2, by rw [HS.out]; exact t1, by rw [HS.out]; exact t2, by rw [HS.out]; exact hF3⟩, t4, t3⟩
        case measure => simp [intOf]; omega
      · obtain rfl : k = ks.length := by omega
        rw [List.take_length] at q1 hP hF
        obtain ⟨x0, x1⟩ := q1.two
        obtain ⟨y0, y1⟩ := q0.two
        have f0 := q0.frozen 0
        have f1 := q0.frozen 1
        have t0 := (q0.set 0 (.bool false)).set 1 (.slice O (signL root ks).length oc)
        have t2 := ((hP.setCell hF (p := ⟨w.heap.size, 0, none⟩) (by simp) (.bool false)).sz.setCell hF (p := ⟨w.heap.size, 1, none⟩) (by simp) (.slice O (signL root ks).length oc)).sz
        have t3 := (hb.setCell (p := ⟨w.heap.size, 0, none⟩) (Nat.le_refl _) (.bool false)).setCell (p := ⟨w.heap.size, 1, none⟩) (Nat.le_refl _) (.slice O (signL root ks).length oc)
        obtain ⟨z0, z1⟩ := t0.two
        go_wp2_with fail
        refine bodyPost_ret (v := .tuple #[.agg #[.bool false, .slice O (signL root ks).length oc], .int .i64 0]) (by simp [results, Try.results19, go_sem, z0, z1]) rfl ?_
        exact ⟨O, oc, rfl, t2, hF.less (by omega), t3⟩
end Go.Proofs.Ytjjccoliknngcaa
