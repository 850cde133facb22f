/- The document's own answers of layer 7: Sign.
   The document's own answers of layer 7: Check.
   A slice of items in memory; the document's own answers of layer 7: All.
   oracle's own ahead and order; slices.SortFunc over pairs, by oracle.order.
   oracle's Right and has.
   oracle's unlike (a map of keys), Valid, hasEach.
   oracle's Valid, hasEach; slices.Equal of pairs. -/
import Derived.Test.YtjjccoliknngcaaOrcC
import Derived.StillTail
import Derived.StillTailTactics
import Derived.Test.YtjjccoliknngcaaTokI
import Derived.ScopeJumps
import Derived.WalkMore
import Derived.Maps.OwnOps
import Derived.Maps.Views
namespace Go.Proofs.Ytjjccoliknngcaa
open Go.RowKit

theorem wp_still_tail_ {P : Program} {id : Nat} {Q : Exit → Act → World → Prop} {a : Act} {w : World} {l : List Oper} (n : Nat) (hm : P.follows .mixedOrders = true) (hB : Region.lexTailB .any l.toArray n = true)
    (h : wpStill P l.toArray w.drew (fun a' => wpList P l.toArray Q (l.drop n) a' w.drew) (l.take n) a) : (Code.region id l.toArray true).wp P Q a w :=
  wp_region_still_tail n hm hB h
theorem sign_take (r : Nat) (ks : List Nat) (k : Nat) (hk : k < ks.length) : signL r (ks.take (k + 1)) = ins (ks[k], r) (signL r (ks.take k)) := by
  rw [List.take_succ_eq_append_getElem hk, signL_snoc]
/-- What Sign answers. -/
def signO (r : Nat) (ks : List Nat) : List Pr × Int := if 2048 < ks.length then ([], 4) else (signL r ks, 0)

set_option maxHeartbeats 4000000 in
set_option maxRecDepth 100000 in
theorem orSign_any (root : Nat) (v : Value) (ks : List Nat) (w : World) (hv : Wds w w.heap.size v ks) (h9 : ks.length ≤ 100000) :
    Calls Try.prog 19 #[.int .u64 root, v] w fun e w' => ∃ A c, e = .returned (.tuple #[.agg #[.bool false, .slice A (signO root ks).1.length c], .int .i64 (signO root ks).2]) ∧ Prs w' w'.heap.size (.slice A (signO root ks).1.length c) (signO root ks).1 ∧ FromOn w.heap.size (.slice A (signO root ks).1.length c) ∧ Below w.heap.size w w' := by
  obtain ⟨A, c, rfl, hc⟩ := hv.form
  obtain ⟨RE, hRE⟩ : ∃ RE, signO root ks = RE := ⟨_, rfl⟩
  rw [hRE]
  obtain ⟨R, E⟩ := RE
  unfold signO at hRE
  by_cases hl : 2048 < ks.length
  · rw [if_pos hl] at hRE
    cases hRE
    have hd : ((2048 : Int) < (ks.length : Int)) = True := eq_true (by omega)
    go_enter Try.func19, Try.ntmps19
    go_wp2_with fail
    refine bodyPost_ret (v := .tuple #[.agg #[.bool false, .slice none 0 0], .int .i64 4]) (by simp [results, Try.results19, go_sem]) rfl ?_
    exact ⟨none, 0, rfl, Prs.nil _ _, from_none _ _ _, (Below.refl _ _).alloc (Nat.le_refl _) _⟩
  · rw [if_neg hl] at hRE
    cases hRE
    have hd : ((2048 : Int) < (ks.length : Int)) = False := eq_false (by omega)
    go_enter Try.func19, Try.ntmps19
    go_wp2_with fail
    have r0 := (RowAt.new w 40 #[.bool false, .slice none 0 0]).alloc (.cells #[.bool false, .slice none 0 0] 40)
    have r1 := RowAt.new (w.alloc (.cells #[.bool false, .slice none 0 0] 40)) 40 #[.bool false, .slice none 0 0]
    rw [World.size_alloc] at r1
    have b0 := ((Below.refl w.heap.size w).alloc (Nat.le_refl _) (.cells #[.bool false, .slice none 0 0] 40)).alloc (by simp) (.cells #[.bool false, .slice none 0 0] 40)
    generalize hw0 : (w.alloc (.cells #[.bool false, .slice none 0 0] 40)).alloc (.cells #[.bool false, .slice none 0 0] 40) = w0 at *
    have z0 : w0.heap.size = w.heap.size + 2 := by rw [← hw0]; simp only [World.size_alloc]
    clear hw0
    go_loopw [7] (fun i wr => ∃ k : Nat, k ≤ ks.length ∧ i = .int .i64 k ∧ RowAt wr w.heap.size 40 [.bool false, .slice none 0 0] ∧ (∃ A c, RowAt wr (w.heap.size + 1) 40 [.bool false, .slice A (signL root (ks.take k)).length c] ∧ Prs wr wr.heap.size (.slice A (signL root (ks.take k)).length c) (signL root (ks.take k)) ∧ FromOn (w.heap.size + 2) (.slice A (signL root (ks.take k)).length c)) ∧ w.heap.size + 2 ≤ wr.heap.size ∧ Below w.heap.size w wr) (fun i _ => ks.length - (intOf i).toNat)
    case atStart => exact ⟨0, Nat.zero_le _, rfl, r0, ⟨none, 0, r1, Prs.nil _ _, from_none _ _ _⟩, by omega, b0⟩
    case round =>
      obtain ⟨k, hk, rfl, q0, ⟨O, oc, q1, hP, hF⟩, hz, hb⟩ := hrel
      clear r0 r1 b0 z0
      by_cases hlt : k < ks.length
      · have hs := signL_srt root (ks.take k)
        have HS := Lib.hid (sign_take root ks k hlt)
        have h9o : (signL root (ks.take k)).length ≤ 100000 := by rw [signL_length, List.length_take]; omega
        obtain ⟨ad, rfl, _, hcell⟩ := (hv.below hb (Nat.le_refl _)).at_ hlt
        obtain ⟨x0, x1⟩ := q1.two
        have cW := orwith_any _ _ (ks[k], root) wr.drew (show Prs wr.drew wr.drew.heap.size _ _ from hP) hs (by omega)
        generalize signL root (ks.take k) = o at *
        generalize ks[k] = key at *
        go_wp2_with fail
        refine wp_still_tail_ 8 (by kernel_rfl) (by kernel_rfl) ?_
        simp only [List.take_succ_cons, List.take_zero, List.drop_succ_cons, List.drop_zero]
        repeat still_step
        refine wpStill_nil ?_
        go_wp2_with fail
        with_reducible refine cW.mono ?_
        rintro e w3 ⟨O2, oc2, rfl, hP2, hF2, b2⟩
        have b3 : Below wr.heap.size wr w3 := ((Below.refl wr.heap.size wr).drew).trans b2
        have hF3 : FromOn (w.heap.size + 2) (.slice O2 (ins (key, root) o).length oc2) := FromOn.less (lo := wr.heap.size) hF2 hz
        have y0 := q0.on b3
        have y1 := q1.on b3
        have f1 := y1.frozen 1
        have c1 := y1.two.2
        have hb3 := hb.trans (b3.mono hb.size)
        have hz3 := Nat.le_trans hz b3.size
        have t0 := y0.far (p := ⟨w.heap.size + 1, 1, none⟩) (by simp) (.slice O2 (ins (key, root) o).length oc2)
        have t1 := y1.set 1 (.slice O2 (ins (key, root) o).length oc2)
        have t2 := (hP2.setCell hF3 (p := ⟨w.heap.size + 1, 1, none⟩) (by simp) (.slice O2 (ins (key, root) o).length oc2)).sz
        have t3 := hb3.setCell (p := ⟨w.heap.size + 1, 1, none⟩) (by simp) (.slice O2 (ins (key, root) o).length oc2)
        have t4 : w.heap.size + 2 ≤ (w3.setCell ⟨w.heap.size + 1, 1, none⟩ (.slice O2 (ins (key, root) o).length oc2)).heap.size := by simpa [World.setCell] using hz3
        clear q0 q1 hP hF hP2 hF2 b2 b3 y0 y1 hb3 hz3 cW hcell x0 x1
        generalize ins (key, root) o = o2 at *
        go_wp2_with fail
        go_roundw
        case rel => exact ⟨k + 1, by omega, by go_num, t0, ⟨O2, oc2, by rw [HS.out]; exact t1, by rw [HS.out]; exact t2, by rw [HS.out]; exact hF3⟩, t4, t3⟩
        case measure => simp [intOf]; omega
      · obtain rfl : k = ks.length := by omega
        rw [List.take_length] at q1 hP hF
        obtain ⟨x0, x1⟩ := q1.two
        obtain ⟨y0, y1⟩ := q0.two
        have f0 := q0.frozen 0
        have f1 := q0.frozen 1
        have t0 := (q0.set 0 (.bool false)).set 1 (.slice O (signL root ks).length oc)
        have t2 := ((hP.setCell hF (p := ⟨w.heap.size, 0, none⟩) (by simp) (.bool false)).sz.setCell hF (p := ⟨w.heap.size, 1, none⟩) (by simp) (.slice O (signL root ks).length oc)).sz
        have t3 := (hb.setCell (p := ⟨w.heap.size, 0, none⟩) (Nat.le_refl _) (.bool false)).setCell (p := ⟨w.heap.size, 1, none⟩) (Nat.le_refl _) (.slice O (signL root ks).length oc)
        obtain ⟨z0, z1⟩ := t0.two
        go_wp2_with fail
        refine bodyPost_ret (v := .tuple #[.agg #[.bool false, .slice O (signL root ks).length oc], .int .i64 0]) (by simp [results, Try.results19, go_sem, z0, z1]) rfl ?_
        exact ⟨O, oc, rfl, t2, hF.less (by omega), t3⟩
end Go.Proofs.Ytjjccoliknngcaa

namespace Go.Proofs.Ytjjccoliknngcaa
open Go.RowKit

theorem checkO_dup {t : List Pr} {ks : List Nat} {r : Nat} {f : Bool} {l : List Pr} (h : ¬ ks.Nodup) : checkO t ks r f l = false := by simp [checkO, h]
theorem checkO_long {t : List Pr} {ks : List Nat} {r : Nat} {f : Bool} {l : List Pr} (h : 2048 < ks.length) : checkO t ks r f l = false := by
  have : ¬ ks.length ≤ 2048 := by omega
  simp [checkO, this]
theorem checkO_none {t : List Pr} {r : Nat} {f : Bool} {l : List Pr} : checkO t [] r f l = false := by simp [checkO]
theorem checkO_unlike {t : List Pr} {ks : List Nat} {r : Nat} {f : Bool} {l : List Pr} (h : sameT false f (signL r ks) l = false) : checkO t ks r f l = false := by
  cases f
  · have : l ≠ signL r ks := by rintro rfl; simp [sameT] at h
    simp [checkO, this]
  · simp [checkO]
theorem sameT_true {f g : Bool} {a b : List Pr} (h : sameT f g a b = true) : g = f ∧ b = a := by
  simp [sameT] at h
  exact ⟨h.1.symm, h.2.symm⟩
theorem checkO_not {t : List Pr} {ks : List Nat} {r : Nat} {f : Bool} (p : Pr) (hp : p ∈ signL r ks) (h : (rightO t && decide (p ∈ t)) = false) : checkO t ks r f (signL r ks) = false := by
  cases hr : rightO t
  · simp [checkO, hr]
  · rw [hr, Bool.true_and, decide_eq_false_iff_not] at h
    have : ((signL r ks).all fun p => decide (p ∈ t)) = false := by
      rw [List.all_eq_false]
      exact ⟨p, hp, by simpa using h⟩
    simp [checkO, this]
theorem checkO_yes {t : List Pr} {ks : List Nat} {r : Nat} (hn : ks.Nodup) (h9 : ks.length ≤ 2048) (h0 : 0 < ks.length) (h : ∀ p ∈ signL r ks, (rightO t && decide (p ∈ t)) = true) : checkO t ks r false (signL r ks) = true := by
  have hl : 0 < (signL r ks).length := by rw [signL_length]; exact h0
  have h1 := h _ (List.getElem_mem hl)
  rw [Bool.and_eq_true] at h1
  have he : ks.isEmpty = false := by cases ks; cases h0; rfl
  have ha : ((signL r ks).all fun p => decide (p ∈ t)) = true := by
    rw [List.all_eq_true]
    intro p hp
    have := h p hp
    rw [Bool.and_eq_true] at this
    exact this.2
  simp [checkO, h1.1, he, hn, h9, ha]
/-- The cells of an item's box. -/
theorem RowAt.four {w : World} {g : Nat} {t : TypeId} {x y z u : Value} (h : RowAt w g t [x, y, z, u]) : w.cell? ⟨g, 0, none⟩ = some x ∧ w.cell? ⟨g, 1, none⟩ = some y ∧ w.cell? ⟨g, 2, none⟩ = some z ∧ w.cell? ⟨g, 3, none⟩ = some u := ⟨h.cell 0, h.cell 1, h.cell 2, h.cell 3⟩
theorem nodup_take {l : List Nat} {i : Nat} (hi : i < l.length) (h : (l.take i).Nodup) (hj : ∀ j (hj : j < i), l[j]'(by omega) ≠ l[i]) : (l.take (i + 1)).Nodup := by
  rw [List.take_succ_eq_append_getElem hi, List.nodup_append]
  refine ⟨h, by simp, fun a ha b hb => ?_⟩
  rw [List.mem_singleton] at hb
  subst hb
  obtain ⟨j, hj', rfl⟩ := List.mem_iff_getElem.1 ha
  rw [List.length_take] at hj'
  rw [List.getElem_take]
  exact hj j (by omega)

set_option maxHeartbeats 4000000 in
set_option maxRecDepth 100000 in
theorem orCheck_any (v : Value) (t : List Pr) (K P : Option Addr) (kc pc : Nat) (ks : List Nat) (root : Nat) (f : Bool) (l : List Pr) (w : World) (hv : Prs w w.heap.size v t) (hK : Wds w w.heap.size (.slice K ks.length kc) ks) (hP : Prs w w.heap.size (.slice P l.length pc) l)
    (h9 : t.length ≤ 100000) (h9k : ks.length ≤ 100000) (h9l : l.length ≤ 100000) :
    Calls Try.prog 22 #[v, .agg #[.slice K ks.length kc, .int .u64 root, .bool f, .slice P l.length pc]] w fun e w' => e = .returned (.bool (checkO t ks root f l)) ∧ Below w.heap.size w w' := by
  obtain ⟨A, c, rfl, hc⟩ := hv.form
  obtain ⟨X, hX⟩ : ∃ X, checkO t ks root f l = X := ⟨_, rfl⟩
  rw [hX]
  have HX := Lib.hid hX
  clear hX
  have r0 := RowAt.new w 44 #[.slice K ks.length kc, .int .u64 root, .bool f, .slice P l.length pc]
  have b0 := (Below.refl w.heap.size w).alloc (Nat.le_refl _) (.cells #[.slice K ks.length kc, .int .u64 root, .bool f, .slice P l.length pc] 44)
  go_enter Try.func22, Try.ntmps22
  go_wp2_with fail
  generalize w.alloc (.cells #[.slice K ks.length kc, .int .u64 root, .bool f, .slice P l.length pc] 44) = w0 at *
  have z0 := b0.size
  go_loopw [5] (fun i wr => ∃ k : Nat, k ≤ ks.length ∧ i = .int .i64 k ∧ (ks.take k).Nodup ∧ Below w0.heap.size w0 wr) (fun i _ => ks.length - (intOf i).toNat)
  case atStart => exact ⟨0, Nat.zero_le _, rfl, by simp, Below.refl _ _⟩
  case round =>
    obtain ⟨k, hk, rfl, hn, hb⟩ := hrel
    obtain ⟨x0, x1, x2, x3⟩ := (r0.on hb).four
    have hB := b0.trans (hb.mono z0)
    by_cases hlt : k < ks.length
    · have HN := Lib.hid hn
      clear hn
      obtain ⟨wo, hwo⟩ : ∃ wo, wo = wr := ⟨_, rfl⟩
      subst hwo
      go_wp2_with fail
      go_loopw [6] (fun i wr => ∃ j : Nat, j ≤ k ∧ i = .int .i64 j ∧ (∀ x (hx : x < j) (hk : x < ks.length), ks[x] ≠ ks[k]) ∧ Below w0.heap.size w0 wr) (fun i _ => k - (intOf i).toNat)
      case atStart => exact ⟨0, Nat.zero_le _, rfl, fun x hx => by omega, hb⟩
      case round =>
        obtain ⟨j, hj, rfl, hd, hb2⟩ := hrel
        clear x0 x1 x2 x3 hB hb
        obtain ⟨x0, x1, x2, x3⟩ := (r0.on hb2).four
        have hB := b0.trans (hb2.mono z0)
        by_cases hlj : j < k
        · have hjl : j < ks.length := by omega
          obtain ⟨ad, rfl, _, hc1⟩ := (hK.below hB (Nat.le_refl _)).at_ hlt
          obtain ⟨_, e, _, hc2⟩ := (hK.below hB (Nat.le_refl _)).at_ hjl
          cases e
          have HD := Lib.hid (show ks[j] ≠ ks[k] → ∀ x (hx : x < j + 1) (hk : x < ks.length), ks[x] ≠ ks[k] from fun h x hx hxl => by
            by_cases e : x = j
            · subst e; exact h
            · exact hd x (by omega) hxl)
          have HF := Lib.hid (show ks[k] = ks[j] → X = false from fun e => by
            rw [← HX.out]
            refine checkO_dup fun hn => ?_
            exact List.pairwise_iff_getElem.1 hn j k hjl hlt hlj e.symm)
          clear hd
          generalize ks[k] = a at *
          generalize ks[j] = b at *
          by_cases hab : a = b
          · subst hab
            have hXf := HF.out rfl
            subst hXf
            clear HF HD HX
            go_wp2_with fail
            go_region
            all_goals go_wp2_with fail
            go_ret
            exact ⟨rfl, hB.drew⟩
          · have hne : ((a : Int) == (b : Int)) = false := by simp; omega
            have HD2 := Lib.hid (HD.out (Ne.symm hab))
            clear HD HF hab
            go_wp2_with fail
            go_region
            all_goals go_wp2_with fail
            go_roundw
            case rel => exact ⟨j + 1, by omega, by go_num, HD2.out, hb2.drew⟩
            case measure => simp [intOf]; omega
        · obtain rfl : j = k := by omega
          have HN2 := Lib.hid (nodup_take hlt HN.out fun x hx => hd x hx (by omega))
          clear HN hd
          go_wp2_with fail
          go_roundw
          case rel => exact ⟨j + 1, by omega, by go_num, HN2.out, hb2⟩
          case measure => simp [intOf]; omega
    · obtain rfl : k = ks.length := by omega
      rw [List.take_length] at hn
      have HN := Lib.hid hn
      have cS := orSign_any root _ ks wr (hK.below hB (Nat.le_refl _) |>.more hB.size) h9k
      have h9s : (signO root ks).1.length ≤ 100000 := by
        unfold signO
        split
        · simp
        · rw [signL_length]; exact h9k
      obtain ⟨RE, hRE⟩ : ∃ RE, signO root ks = RE := ⟨_, rfl⟩
      rw [hRE] at cS h9s
      obtain ⟨R, E⟩ := RE
      have HRE := Lib.hid hRE
      clear hn hRE
      go_wp2_with fail
      with_reducible refine cS.mono ?_
      rintro e w3 ⟨S, sc, rfl, hS, hF, b3⟩
      have hb3 := hb.trans (b3.mono hb.size)
      have hB3 := b0.trans (hb3.mono z0)
      clear cS x0 x1 x2 x3 hB hb
      go_upto_region 10 with (fail)
      have q0 := (r0.on hb3).alloc (.cells #[.bool false, .slice S R.length sc] 40)
      have q1 := RowAt.new w3 40 #[.bool false, .slice S R.length sc]
      have b4 := (Below.refl w3.heap.size w3).alloc (Nat.le_refl _) (.cells #[.bool false, .slice S R.length sc] 40)
      have hS4 := hS.on b4
      have hB4 := hB3.trans (b4.mono hB3.size)
      have hP4 := (hP.below hB4 (Nat.le_refl _)).more hB4.size
      clear hb3 hB3 b4 hS
      generalize w3.heap.size = g at *
      generalize w3.alloc (.cells #[.bool false, .slice S R.length sc] 40) = w4 at *
      obtain ⟨x0, x1, x2, x3⟩ := q0.four
      obtain ⟨y0, y1⟩ := q1.two
      have cE := Same_eq (.agg #[.bool false, .slice S R.length sc]) (.agg #[.bool f, .slice P l.length pc]) false f R l w4 _ rfl (tk_of hS4) (tk_of hP4) (by omega) (by omega)
      by_cases hl : 2048 < ks.length
      · have hXf : X = false := by rw [← HX.out]; exact checkO_long hl
        have e1 : signO root ks = ([], 4) := if_pos hl
        have hRE := HRE.out
        rw [e1] at hRE
        cases hRE
        subst hXf
        clear HX HRE
        generalize sameT false f ([] : List Pr) l = sm at *
        simp only [List.length_nil] at cE
        go_wp2_with fail
        with_reducible refine cE.mono ?_
        rintro e w5 ⟨rfl, b5⟩
        have hB5 := hB4.trans (b5.mono hB4.size)
        go_wp2_with fail
        go_ret
        exact ⟨rfl, hB5⟩
      · have e1 : signO root ks = (signL root ks, 0) := if_neg hl
        have hRE := HRE.out
        rw [e1] at hRE
        cases hRE
        have hl2 : ks.length ≤ 2048 := by omega
        have HM := Lib.hid (show ∀ p ∈ signL root ks, (rightO t && decide (p ∈ t)) = false → f = false → l = signL root ks → X = false from fun p hp h e2 e3 => by
          rw [← HX.out, e3]; exact checkO_not p hp h)
        have HY := Lib.hid (show 0 < ks.length → (∀ p ∈ signL root ks, (rightO t && decide (p ∈ t)) = true) → f = false → l = signL root ks → X = true from fun h0 h e2 e3 => by
          rw [← HX.out, e3, e2]; exact checkO_yes HN.out hl2 h0 h)
        have HU := Lib.hid (show sameT false f (signL root ks) l = false → X = false from fun h => by
          rw [← HX.out]; exact checkO_unlike h)
        have H0 := Lib.hid (show ks.length = 0 → X = false from fun h => by
          have : ks = [] := List.eq_nil_of_length_eq_zero h
          rw [← HX.out, this]; exact checkO_none)
        have HS := Lib.hid (fun h => sameT_true (f := false) (g := f) (a := signL root ks) (b := l) h)
        have HL := Lib.hid (signL_length root ks)
        clear HX HRE e1 hl
        generalize signL root ks = R at *
        obtain ⟨sm, hsm⟩ : ∃ sm, sameT false f R l = sm := ⟨_, rfl⟩
        rw [hsm] at cE HU HS
        clear hsm
        go_wp2_with fail
        with_reducible refine cE.mono ?_
        rintro e w5 ⟨rfl, b5⟩
        have hB5 := hB4.trans (b5.mono hB4.size)
        have q1' := q1.on b5
        have hS5 := hS4.on b5
        obtain ⟨x0', -, -, -⟩ := (q0.on b5).four
        clear x0 x1 x2 x3 y0 y1 cE hB4 q1 hS4 hP4
        cases sm
        · have hXf := HU.out rfl
          subst hXf
          go_wp2_with fail
          go_ret
          exact ⟨rfl, hB5⟩
        · by_cases h0 : ks.length = 0
          · have hXf := H0.out h0
            subst hXf
            have h0' : ((ks.length : Int) == 0) = true := by simp [h0]
            clear h0
            go_wp2_with fail
            go_ret
            exact ⟨rfl, hB5⟩
          · have h0' : ((ks.length : Int) == 0) = false := by rw [beq_eq_false_iff_ne]; omega
            obtain ⟨hf, hlR⟩ := HS.out rfl
            have hpos : 0 < ks.length := by omega
            go_wp2_with fail
            clear x0'
            go_loopw [10] (fun i wr => ∃ k : Nat, k ≤ R.length ∧ i = .int .i64 k ∧ (∀ x (hx : x < k) (hk : x < R.length), (rightO t && decide (R[x] ∈ t)) = true) ∧ Below w5.heap.size w5 wr) (fun i _ => R.length - (intOf i).toNat)
            case atStart => exact ⟨0, Nat.zero_le _, rfl, fun x hx => by omega, Below.refl _ _⟩
            case round =>
              obtain ⟨k, hk, rfl, hd, hb6⟩ := hrel
              obtain ⟨y0, y1⟩ := (q1'.on hb6).two
              have hB6 := hB5.trans (hb6.mono hB5.size)
              by_cases hlk : k < R.length
              · obtain ⟨ad, rfl, c0, c1⟩ := (hS5.on hb6).read hlk
                have cV := orValid_any _ _ R[k] wr ((hv.below hB6 (Nat.le_refl _)).more hB6.size) (by omega)
                have HD := Lib.hid (show (rightO t && decide (R[k] ∈ t)) = true → ∀ x (hx : x < k + 1) (hk : x < R.length), (rightO t && decide (R[x] ∈ t)) = true from fun h x hx hxl => by
                  by_cases e : x = k
                  · subst e; exact h
                  · exact hd x (by omega) hxl)
                have HF := Lib.hid (show (rightO t && decide (R[k] ∈ t)) = false → X = false from fun h => HM.out _ (List.getElem_mem hlk) h hf hlR)
                generalize (rightO t && decide (R[k] ∈ t)) = vb at *
                generalize R[k] = p at *
                clear hd
                go_wp2_with fail
                with_reducible refine cV.mono ?_
                rintro e w7 ⟨rfl, b7⟩
                have hB7 := hB6.trans (b7.mono hB6.size)
                have hb7 := hb6.trans (b7.mono hb6.size)
                clear cV c0 c1 y0 y1 b7
                cases vb
                · have hXf := HF.out rfl
                  subst hXf
                  go_wp2_with fail
                  go_ret
                  exact ⟨rfl, hB7⟩
                · have HD2 := Lib.hid (HD.out rfl)
                  clear HD HF
                  go_wp2_with fail
                  go_roundw
                  case rel => exact ⟨k + 1, by omega, by go_num, HD2.out, hb7⟩
                  case measure => simp [intOf]; omega
              · obtain rfl : k = R.length := by omega
                have hXt := HY.out hpos (fun p hp => by obtain ⟨i, hi, rfl⟩ := List.mem_iff_getElem.1 hp; exact hd i hi hi) hf hlR
                subst hXt
                clear hd
                go_wp2_with fail
                go_ret
                exact ⟨rfl, hB6⟩
end Go.Proofs.Ytjjccoliknngcaa

namespace Go.Proofs.Ytjjccoliknngcaa
open Go.RowKit

/-- An item: keys, root, whether forged, pairs. -/
structure Itm where
  ks : List Nat
  root : Nat
  f : Bool
  l : List Pr
def Itm.ok (t : List Pr) (i : Itm) : Bool := checkO t i.ks i.root i.f i.l
/-- Four cells read as an item. -/
def ItAt (w : World) (a : Addr) (i : Itm) : Prop := ∃ K P kc pc, w.cell? a = some (.slice K i.ks.length kc) ∧ w.cell? ⟨a.block, a.off + 1, none⟩ = some (.int .u64 (i.root : Int)) ∧ w.cell? ⟨a.block, a.off + 2, none⟩ = some (.bool i.f) ∧ w.cell? ⟨a.block, a.off + 3, none⟩ = some (.slice P i.l.length pc) ∧ Wds w w.heap.size (.slice K i.ks.length kc) i.ks ∧ Prs w w.heap.size (.slice P i.l.length pc) i.l
def ItRow (w : World) (v : Value) (is : List Itm) : Prop := ∃ A c, v = .slice A is.length c ∧ is.length ≤ c ∧ (0 < is.length → ∃ ad : Addr, A = some ad ∧ ad.block < w.heap.size ∧ ∀ j i, is[j]? = some i → ItAt w (ad.add (j * 4)) i)
theorem ItRow.nil (w : World) : ItRow w (.slice none 0 0) [] := ⟨none, 0, rfl, Nat.le_refl _, fun h => absurd h (by simp)⟩
theorem ItRow.on {w w' : World} {v : Value} {is : List Itm} (h : ItRow w v is) (hb : Below w.heap.size w w') : ItRow w' v is := by
  obtain ⟨A, c, hv, hc, ha⟩ := h
  refine ⟨A, c, hv, hc, fun h0 => ?_⟩
  obtain ⟨ad, e, hbl, hcell⟩ := ha h0
  refine ⟨ad, e, Nat.lt_of_lt_of_le hbl hb.size, fun j i hj => ?_⟩
  obtain ⟨K, P, kc, pc, c0, c1, c2, c3, hk, hp⟩ := hcell j i hj
  have q : ∀ o, w'.cell? ⟨(ad.add (j * 4)).block, o, none⟩ = w.cell? ⟨(ad.add (j * 4)).block, o, none⟩ := fun o => hb.cell (p := ⟨_, o, none⟩) (by show (ad.add (j * 4)).block < _; rw [add_block]; exact hbl)
  refine ⟨K, P, kc, pc, ?_, (q _).trans c1, (q _).trans c2, (q _).trans c3, hk.on hb, hp.on hb⟩
  exact (hb.cell (p := ad.add (j * 4)) (by rw [add_block]; exact hbl)).trans c0
theorem ItRow.form {w : World} {v : Value} {is : List Itm} (h : ItRow w v is) : ∃ A c, v = .slice A is.length c ∧ is.length ≤ c := by
  obtain ⟨A, c, hv, hc, _⟩ := h
  exact ⟨A, c, hv, hc⟩
theorem ItRow.read {w : World} {A : Option Addr} {n c k : Nat} {is : List Itm} (h : ItRow w (.slice A n c) is) (hk : k < is.length) : ∃ ad : Addr, A = some ad ∧ ItAt w (ad.add (k * 4)) is[k] := by
  obtain ⟨A', c', hv, _, ha⟩ := h
  injection hv with h1 h2 h3
  subst h1
  obtain ⟨ad, e, _, hc⟩ := ha (by omega)
  exact ⟨ad, e, hc k _ (List.getElem?_eq_getElem hk)⟩
/-- All items are short enough. -/
def Short (is : List Itm) : Prop := is.length ≤ 1000 ∧ ∀ i ∈ is, i.ks.length ≤ 100000 ∧ i.l.length ≤ 100000

set_option maxHeartbeats 2000000 in
theorem orAll_any (v u : Value) (t : List Pr) (is : List Itm) (w : World) (hv : Prs w w.heap.size v t) (hu : ItRow w u is) (h9 : t.length ≤ 100000) (hs : Short is) :
    Calls Try.prog 24 #[v, u] w fun e w' => e = .returned (.bool (is.all (Itm.ok t))) ∧ Below w.heap.size w w' := by
  obtain ⟨A, c, rfl, hc⟩ := hv.form
  obtain ⟨B, d, rfl, hd⟩ := hu.form
  have h1000 := hs.1
  obtain ⟨X, hX⟩ : ∃ X, is.all (Itm.ok t) = X := ⟨_, rfl⟩
  rw [hX]
  have HX := Lib.hid hX
  clear hX
  go_enter Try.func24, Try.ntmps24
  go_wp2_with fail
  go_loopw [5] (fun i wr => ∃ k : Nat, k ≤ is.length ∧ i = .int .i64 k ∧ (∀ x (hx : x < k) (hk : x < is.length), Itm.ok t is[x] = true) ∧ Below w.heap.size w wr) (fun i _ => is.length - (intOf i).toNat)
  case atStart => exact ⟨0, Nat.zero_le _, rfl, fun x hx => by omega, Below.refl _ _⟩
  case round =>
    obtain ⟨k, hk, rfl, hd, hb⟩ := hrel
    by_cases hlk : k < is.length
    · obtain ⟨ad, rfl, K, P, kc, pc, c0, c1, c2, c3, qk, qp⟩ := (hu.on hb).read hlk
      have hsh := hs.2 _ (List.getElem_mem hlk)
      have cC := orCheck_any _ t K P kc pc _ is[k].root is[k].f _ wr (hv.on hb) qk qp h9 hsh.1 hsh.2
      have HD := Lib.hid (show Itm.ok t is[k] = true → ∀ x (hx : x < k + 1) (hk : x < is.length), Itm.ok t is[x] = true from fun h x hx hxl => by
        by_cases e : x = k
        · subst e; exact h
        · exact hd x (by omega) hxl)
      have HF := Lib.hid (show Itm.ok t is[k] = false → X = false from fun h => by
        rw [← HX.out, List.all_eq_false]
        exact ⟨_, List.getElem_mem hlk, by rw [h]; simp⟩)
      have e : checkO t is[k].ks is[k].root is[k].f is[k].l = Itm.ok t is[k] := rfl
      rw [e] at cC
      clear e
      generalize Itm.ok t is[k] = vb at *
      clear hd hsh qk qp
      generalize is[k].ks.length = m1 at *
      generalize is[k].l.length = m2 at *
      generalize is[k].root = m3 at *
      generalize is[k].f = m4 at *
      go_wp2_with fail
      with_reducible refine cC.mono ?_
      rintro e w7 ⟨rfl, b7⟩
      have hb7 := hb.trans (b7.mono hb.size)
      clear cC c0 c1 c2 c3 b7
      cases vb
      · have hXf := HF.out rfl
        subst hXf
        go_wp2_with fail
        go_ret
        exact ⟨rfl, hb7⟩
      · have HD2 := Lib.hid (HD.out rfl)
        clear HD HF
        go_wp2_with fail
        go_roundw
        case rel => exact ⟨k + 1, by omega, by go_num, HD2.out, hb7⟩
        case measure => simp [intOf]; omega
    · obtain rfl : k = is.length := by omega
      have hXt : X = true := by
        rw [← HX.out, List.all_eq_true]
        intro i hi
        obtain ⟨j, hj, rfl⟩ := List.mem_iff_getElem.1 hi
        exact hd j hj hj
      subst hXt
      clear hd
      go_wp2_with fail
      go_ret
      exact ⟨rfl, hb⟩
end Go.Proofs.Ytjjccoliknngcaa

namespace Go.Proofs.Ytjjccoliknngcaa
open Go.RowKit Go.Shelf
open Go.Sort hiding Below

set_option maxHeartbeats 400000 in
theorem oahead_any (a1 a2 b1 b2 : Nat) (w : World) :
    Calls Try.prog 36 #[.agg #[.int .u64 a1, .int .u64 a2], .agg #[.int .u64 b1, .int .u64 b2]] w fun e w' => e = .returned (.bool (aheadB (a1, a2) (b1, b2))) ∧ w' = (w.alloc (pcell a1 a2)).alloc (pcell b1 b2) := by
  unfold aheadB
  by_cases h1 : a1 < b1
  · have h1a : ((a1 : Int) < (b1 : Int)) = True := eq_true (by omega)
    have h1b : (a1 < b1) = True := eq_true h1
    go_enter Try.func36, Try.ntmps36
    go_wp2
    go_ret
    exact ⟨by simp [h1], rfl⟩
  · have h1a : ((a1 : Int) < (b1 : Int)) = False := eq_false (by omega)
    have h1b : (a1 < b1) = False := eq_false h1
    by_cases h2 : a1 = b1
    · subst h2
      clear h1 h1a h1b
      go_enter Try.func36, Try.ntmps36
      go_wp2
      go_ret
      exact ⟨by simp, rfl⟩
    · have h2a : ((a1 : Int) == (b1 : Int)) = false := by simp; omega
      clear h1
      go_enter Try.func36, Try.ntmps36
      go_wp2
      go_ret
      exact ⟨by simp [h1b, h2], rfl⟩
set_option maxHeartbeats 1000000 in
theorem oorder_any (a b : Pr) (w : World) :
    Calls Try.prog 32 #[.agg #[.int .u64 (a.1 : Int), .int .u64 (a.2 : Int)], .agg #[.int .u64 (b.1 : Int), .int .u64 (b.2 : Int)]] w fun e w' => e = .returned (.int .i64 (ordI a b)) ∧ ∃ q os, w' = grow (w.drewN q) os := by
  obtain ⟨a1, a2⟩ := a
  obtain ⟨b1, b2⟩ := b
  have cA := fun W => oahead_any a1 a2 b1 b2 W
  unfold ordI
  simp only
  by_cases h1 : a1 = b1
  · subst h1
    by_cases h2 : a2 = b2
    · subst h2
      rw [if_pos rfl]
      go_enter Try.func32, Try.ntmps32
      go_wp2_with fail
      go_ret
      exact ⟨rfl, 0, _, grown2 _ _ _⟩
    · have h2a : ((a2 : Int) = (b2 : Int)) = False := eq_false (by omega)
      rw [if_neg (by simp [h2])]
      clear h2
      cases hh : aheadB (a1, a2) (a1, b2) <;> rw [hh] at cA <;> clear hh
      all_goals
        go_enter Try.func32, Try.ntmps32
        go_wp2_with (go_at_call 36; refine (cA _).mono ?_; rintro e w1 ⟨rfl, rfl⟩)
        go_ret
        exact ⟨rfl, 0, _, by rw [grown2, grown2, grow_grow]; rfl⟩
  · have h1a : ((a1 : Int) = (b1 : Int)) = False := eq_false (by omega)
    rw [if_neg (by simp [h1])]
    clear h1
    cases hh : aheadB (a1, a2) (b1, b2) <;> rw [hh] at cA <;> clear hh
    all_goals
      go_enter Try.func32, Try.ntmps32
      go_wp2_with (go_at_call 36; refine (cA _).mono ?_; rintro e w1 ⟨rfl, rfl⟩)
      go_ret
      exact ⟨rfl, 0, _, by rw [grown2, grown2, grow_grow]; rfl⟩
theorem ocmpLays_order (blk off size : Nat) (w : World) : CmpLays Try.prog 32 #[] pairCells 2 ordI blk off size w :=
  fun _ _ _ _ x y => oorder_any x y _
set_option maxHeartbeats 400000 in
theorem osort_any (g cap base : Nat) (l : List Pr) (w : World) (h : w.ownsRow base 27 2 (.slice (some ⟨g, 0, none⟩) l.length cap) l.length (l.flatMap pairCells)) (hl : l.length ≤ 1000000) (hlc : l.length ≤ cap) :
    Calls Try.prog 31 #[.slice (some ⟨g, 0, none⟩) l.length cap, .func (.func 32) #[] #[]] w fun e w' =>
      e = .returned (.tuple #[]) ∧ ∃ l' : List Pr, l'.Perm l ∧ srt l' = true ∧ Prs w' w'.heap.size (.slice (some ⟨g, 0, none⟩) l.length cap) l' ∧ But g w w' := by
  obtain ⟨hH, hg⟩ := holds_own h
  have eg : ∀ args w, (callFunc 32 args).run Try.prog w = .ok (.enter 32 args) w := enters_of Try.func32 (by kernel_rfl) rfl
  have hcon := AnyQ.slices_SortFunc Try.sortP 2 Try.isAgg27 Try.sizeOf27 pairCells (fun _ => rfl) (fun x v hv => by simp [pairCells] at hv; rcases hv with rfl | rfl <;> rfl) ordI swo_ord 32 #[] g 0 cap l.toArray w eg (ocmpLays_order g 0 _ w) hH hg (by simp; omega)
  refine Calls.mono (h := hcon) ?_
  rintro e w' ⟨he, d', n, os, hp, hs, rfl⟩
  refine ⟨he, d'.toList, ?_, ?_, ?_, but_sort w g n d' os hg⟩
  · have h1 := hp.2.2
    have h2 := hp.1
    simp only [List.size_toArray] at h1 h2
    rw [Array.extract_eq_self_of_le (by omega), Array.extract_eq_self_of_le (by simp)] at h1
    exact h1
  · have h2 := hp.1
    simp only [List.size_toArray] at h2
    rw [srt_iff, List.pairwise_iff_getElem]
    intro i j hi hj hij
    have h3 := hs i j (Nat.zero_le _) hij (by simpa [h2] using hj)
    have hi' : i < d'.size := by simpa using hi
    have hj' : j < d'.size := by simpa using hj
    rw [getElem!_pos d' i hi', getElem!_pos d' j hj'] at h3
    unfold ltOf at h3
    rw [decide_eq_false_iff_not, ordI_lt] at h3
    unfold Le
    simpa using h3
  · have h2 := hp.1
    simp only [List.size_toArray] at h2
    have hK : HoldsK pairCells 2 (sortWorldK pairCells 2 w g 0 n d' os) g 0 d' :=
      holdsK_grow pairCells 2 _ os g 0 d' (by show g < (w.heap.modify g _).size; rw [Array.size_modify]; exact hg) (holdsK_putRowK pairCells 2 (Sort.ahead w n) g 0 l.toArray d' (holdsK_ahead pairCells 2 w n g 0 _ hH) (by simp [h2]))
    refine ⟨some ⟨g, 0, none⟩, cap, by simp [h2], ⟨by simp [h2]; exact hlc, fun h => by cases h⟩, fun _ => ⟨⟨g, 0, none⟩, rfl, ?_, fun j p hj => ?_⟩⟩
    · exact Nat.lt_of_lt_of_le hg (but_sort w g n d' os hg).size
    · have hjl : j < d'.size := by
        rcases Nat.lt_or_ge j d'.toList.length with k | k
        · simpa using k
        · rw [List.getElem?_eq_none k] at hj; cases hj
      have hp1 : d'[j]! = p := by
        rw [getElem!_pos d' j hjl]
        have := hj
        rw [List.getElem?_eq_getElem (by simpa using hjl)] at this
        simpa using this
      have c1 := (hK.cell hjl (show 0 < 2 by decide)).1
      have c2 := (hK.cell hjl (show 1 < 2 by decide)).1
      rw [hp1] at c1 c2
      rw [addr0, addr0]
      refine ⟨?_, ?_⟩
      · simpa [pairCells] using c1
      · simpa [pairCells] using c2
end Go.Proofs.Ytjjccoliknngcaa

namespace Go.Proofs.Ytjjccoliknngcaa
open Go.RowKit

theorem oahead_below (a b : Pr) (w : World) :
    Calls Try.prog 36 #[.agg #[.int .u64 (a.1 : Int), .int .u64 (a.2 : Int)], .agg #[.int .u64 (b.1 : Int), .int .u64 (b.2 : Int)]] w fun e w' => e = .returned (.bool (aheadB a b)) ∧ Below w.heap.size w w' :=
  (oahead_any a.1 a.2 b.1 b.2 w).mono fun e w' ⟨h1, h2⟩ => ⟨h1, by rw [h2]; exact ((Below.refl _ w).alloc (Nat.le_refl _) _).alloc (by simp) _⟩
/-- Where a pair lies, if it is there: behind lo, ahead of hi. -/
structure Lies (l : List Pr) (p : Pr) (lo hi : Nat) : Prop where
  le : lo ≤ hi
  len : hi ≤ l.length
  low_ : ∀ i (h : i < l.length), i < lo → aheadB l[i] p = true
  high_ : ∀ i (h : i < l.length), hi ≤ i → aheadB p l[i] = true
theorem Lies.not_mem {l : List Pr} {p : Pr} {n : Nat} (h : Lies l p n n) : p ∉ l := by
  intro hp
  obtain ⟨i, hi, rfl⟩ := List.mem_iff_getElem.1 hp
  rcases Nat.lt_or_ge i n with k | k
  · have := h.low_ i hi k; rw [ahead_irr] at this; cases this
  · have := h.high_ i hi k; rw [ahead_irr] at this; cases this
theorem Lies.low {l : List Pr} {p : Pr} {lo hi m : Nat} (h : Lies l p lo hi) (hr : Rise l) (h1 : lo ≤ m) (h2 : m < hi) (hm : m < l.length) (ha : aheadB l[m] p = false) (hn : l[m] ≠ p) : Lies l p lo m := by
  have hp : aheadB p l[m] = true := (ahead_tri ha).resolve_left hn
  refine ⟨h1, by omega, h.low_, fun i hi hmi => ?_⟩
  rcases Nat.lt_or_ge m i with k | k
  · exact ahead_trans hp (rise_lt hr k hi)
  · obtain rfl : i = m := by omega
    exact hp
theorem Lies.high {l : List Pr} {p : Pr} {lo hi m : Nat} (h : Lies l p lo hi) (hr : Rise l) (h1 : lo ≤ m) (h2 : m < hi) (hm : m < l.length) (ha : aheadB l[m] p = true) : Lies l p (m + 1) hi := by
  refine ⟨by omega, h.len, fun i hi hmi => ?_, h.high_⟩
  rcases Nat.lt_or_ge i m with k | k
  · exact ahead_trans (rise_lt hr k hm) ha
  · obtain rfl : i = m := by omega
    exact ha
theorem Lies.all (l : List Pr) (p : Pr) : Lies l p 0 l.length := ⟨Nat.zero_le _, Nat.le_refl _, fun i _ h => by omega, fun i h k => by omega⟩

set_option maxHeartbeats 1000000 in
theorem oRight_any (v : Value) (l : List Pr) (w : World) (hv : Prs w w.heap.size v l) (h9 : l.length ≤ 1000000) :
    Calls Try.prog 14 #[v] w fun e w' => e = .returned (.bool (rightO l)) ∧ Below w.heap.size w w' := by
  obtain ⟨A, c, rfl, hc⟩ := hv.form
  by_cases hl : 4096 < l.length
  · have hd : ((4096 : Int) < (l.length : Int)) = True := eq_true (by omega)
    have hR : rightO l = false := by
      have : ¬ l.length ≤ 4096 := by omega
      simp [rightO, this]
    rw [hR]
    clear hl hR
    go_enter Try.func14, Try.ntmps14
    go_wp2_with fail
    go_ret
    exact ⟨rfl, Below.refl _ _⟩
  have hd : ((4096 : Int) < (l.length : Int)) = False := eq_false (by omega)
  have hl2 : l.length ≤ 4096 := by omega
  clear hl
  go_enter Try.func14, Try.ntmps14
  go_wp2_with fail
  go_loopw [3] (fun i wr => ∃ k : Nat, 1 ≤ k ∧ (k ≤ l.length ∨ k = 1) ∧ i = .int .i64 k ∧ stcTo l k ∧ Below w.heap.size w wr) (fun i _ => l.length - (intOf i).toNat)
  case atStart => exact ⟨1, Nat.le_refl _, .inr rfl, rfl, fun i _ h => by omega, Below.refl _ _⟩
  case round =>
    obtain ⟨k, hk1, hk, rfl, hs, hb⟩ := hrel
    by_cases hlt : k < l.length
    · obtain ⟨j, rfl⟩ : ∃ j, k = j + 1 := ⟨k - 1, by omega⟩
      obtain ⟨ad, rfl, hc1, hc2⟩ := hv.cells hb hlt
      obtain ⟨_, e, hd1, hd2⟩ := hv.cells hb (show j < l.length by omega)
      cases e
      have hz := hb.size
      have ej : ((j + 1 : Nat) : Int) - 1 = (j : Int) := by omega
      have HS := Lib.hid (show aheadB l[j] l[j + 1] = true → stcTo l (j + 1 + 1) from fun h0 i hi hi2 => by
        rcases Nat.lt_or_ge (i + 1) (j + 1) with h1 | h1
        · exact hs i hi h1
        · obtain rfl : i = j := by omega
          exact h0)
      have HN := Lib.hid (show aheadB l[j] l[j + 1] = false → rightO l = false from fun h0 => by
        cases hq : stc l
        · unfold rightO; rw [hq, Bool.and_false]
        · rw [(stc_at l).1 hq j hlt] at h0; cases h0)
      have cA := fun W => oahead_below l[j] l[j + 1] W
      clear hs
      generalize aheadB l[j] l[j + 1] = bb at *
      go_wp2_with fail
      refine wp_region_later (by kernel_rfl) (by kernel_rfl) ?_
      repeat (go_big_quiet_step (first | (go_at_call 36; exact later_of (cA _))))
      refine wpQuiet_nil ?_
      intro _ hw'
      obtain ⟨pq, rfl⟩ := hw'
      have hbn : Below w.heap.size w pq.W := hb.trans (pq.h.mono hz)
      clear hc1 hc2 hd1 hd2
      generalize pq.W = w2 at *
      cases bb
      · have HN2 := Lib.hid (HN.out rfl)
        clear HN HS
        go_wp2_with fail
        go_ret
        refine ⟨?_, hbn⟩
        rw [HN2.out]
        rfl
      · have hs2 := HS.out rfl
        go_wp2_with fail
        go_roundw
        case rel => exact ⟨j + 1 + 1, by omega, .inl (by omega), by go_num, hs2, hbn⟩
        case measure => simp [intOf]; omega
    · have HR := Lib.hid (show rightO l = true from (rightO_iff l).2 ⟨hl2, (stc_iff l).1 ((stc_at l).2 fun i hi => hs i hi (by omega))⟩)
      clear hs
      go_wp2_with fail
      go_ret
      refine ⟨?_, hb⟩
      rw [HR.out]
      rfl

set_option maxHeartbeats 4000000 in
set_option maxRecDepth 100000 in
theorem ohas_any (v : Value) (l : List Pr) (p : Pr) (w : World) (hv : Prs w w.heap.size v l) (hr : Rise l) (h9 : l.length ≤ 1000000) :
    Calls Try.prog 38 #[v, .agg #[.int .u64 (p.1 : Int), .int .u64 (p.2 : Int)]] w fun e w' => e = .returned (.bool (decide (p ∈ l))) ∧ Below w.heap.size w w' := by
  obtain ⟨A, c, rfl, hc⟩ := hv.form
  obtain ⟨p1, p2⟩ := p
  have r0 := RowAt.new w 27 #[.int .u64 (p1 : Int), .int .u64 (p2 : Int)]
  have b0 := (Below.refl w.heap.size w).alloc (Nat.le_refl _) (.cells #[.int .u64 (p1 : Int), .int .u64 (p2 : Int)] 27)
  have hV := hv.alloc (.cells #[.int .u64 (p1 : Int), .int .u64 (p2 : Int)] 27)
  clear hv
  go_enter Try.func38, Try.ntmps38
  go_wp2
  generalize w.alloc (.cells #[.int .u64 (p1 : Int), .int .u64 (p2 : Int)] 27) = w0 at *
  refine wp_scope_jumps 0 (fun a' w' => ∃ (lo hi : Nat) (u7 u8 u9 u10 u11 u12 u13 u14 u15 u16 u17 u18 u19 u20 u21 u22 u23 u24 u25 u26 u27 u28 u29 u30 u31 u32 u33 u34 u35 : Value), a' = { tmps := #[.slice A l.length c, .agg #[.int .u64 (p1 : Int), .int .u64 (p2 : Int)], undef, .pointer (some ⟨w.heap.size, 0, none⟩), .bool false, .int .i64 (lo : Int), .int .i64 (hi : Int), u7, u8, u9, u10, u11, u12, u13, u14, u15, u16, u17, u18, u19, u20, u21, u22, u23, u24, u25, u26, u27, u28, u29, u30, u31, u32, u33, u34, u35], defers := [] } ∧ Lies l (p1, p2) lo hi ∧ Below w0.heap.size w0 w') (fun a _ => (intOf (a.tmps.getD 6 undef) - intOf (a.tmps.getD 5 undef)).toNat) rfl ?_ ?_
  · go_wp2
    go_step3
    obtain ⟨lo, hlo⟩ : ∃ lo : Nat, lo = 0 := ⟨0, rfl⟩
    have elo : Value.int .i64 0 = Value.int .i64 (lo : Int) := by rw [hlo]; rfl
    have hL : Lies l (p1, p2) lo l.length := by rw [hlo]; exact Lies.all l (p1, p2)
    rw [elo]
    clear hlo elo
    obtain ⟨wr, hwr⟩ : ∃ z, z = w0 := ⟨_, rfl⟩
    rw [← hwr]
    have hb : Below w0.heap.size w0 wr := by rw [hwr]; exact Below.refl _ _
    clear hwr
    have hB := b0.trans (hb.mono b0.size)
    obtain ⟨x0, x1⟩ := (r0.on hb).two
    obtain ⟨X0, X1⟩ := (r0.on hb.drew).laters
    by_cases hlh : lo = l.length
    · subst hlh
      have HF := Lib.hid (decide_eq_false (hL.not_mem))
      clear hL
      go_wp2_with fail
      simp only [Exit.jump]
      go_ret
      refine ⟨?_, hB⟩
      rw [HF.out]; rfl
    · have hlt : lo < l.length := Nat.lt_of_le_of_ne hL.le hlh
      have hle := hL.le
      have hhi := hL.len
      obtain ⟨m, hm⟩ : ∃ m, m = lo + (l.length - lo) / 2 := ⟨_, rfl⟩
      have hml : m < l.length := by omega
      have hm1 : lo ≤ m := by omega
      have hm2 : m < l.length := by omega
      have ed : ((l.length : Int) - (lo : Int)).tdiv 2 = (((l.length - lo) / 2 : Nat) : Int) := by
        rw [Int.tdiv_eq_ediv_of_nonneg (by omega)]; omega
      have em : (lo : Int) + (((l.length - lo) / 2 : Nat) : Int) = (m : Int) := by omega
      have hne : ((lo : Int) == (l.length : Int)) = false := by rw [beq_eq_false_iff_ne]; omega
      obtain ⟨ad, rfl, e1, e2⟩ := (hV.on hb).read hml
      obtain ⟨_, e, E1, E2⟩ := hV.cells hb.drew hml
      cases e
      have HY := Lib.hid (show l[m] = (p1, p2) → decide ((p1, p2) ∈ l) = true from fun e => decide_eq_true (by rw [← e]; exact List.getElem_mem _))
      have HLO := Lib.hid (show aheadB l[m] (p1, p2) = false → l[m] ≠ (p1, p2) → Lies l (p1, p2) lo m from fun h1 h2 => hL.low hr hm1 hm2 hml h1 h2)
      have HHI := Lib.hid (show aheadB l[m] (p1, p2) = true → Lies l (p1, p2) (m + 1) l.length from fun h1 => hL.high hr hm1 hm2 hml h1)
      have cA := fun W => oahead_below l[m] (p1, p2) W
      clear hL hm hlh
      generalize l[m] = a at *
      generalize (l.length - lo) / 2 = dd at *
      obtain ⟨a1, a2⟩ := a
      by_cases h1 : p1 = a1
      · subst h1
        by_cases h2 : p2 = a2
        · subst h2
          have HY2 := Lib.hid (HY.out rfl)
          clear HY HLO HHI cA E1 E2 X0 X1
          go_wp2_with fail
          go_region
          all_goals go_wp2_with fail
          simp only [Exit.jump]
          go_ret
          refine ⟨?_, hB.drew⟩
          rw [HY2.out]; rfl
        · have hn2 : ((a2 : Int) == (p2 : Int)) = false := by rw [beq_eq_false_iff_ne]; omega
          clear HY
          generalize aheadB (p1, a2) (p1, p2) = bb at *
          go_wp2_with fail
          go_region
          all_goals go_wp2_with fail
          refine wp_region_later (by kernel_rfl) (by kernel_rfl) ?_
          repeat (go_big_quiet_step (first | (go_at_call 36; exact later_of (cA _))))
          refine wpQuiet_nil ?_
          intro _ hw'
          obtain ⟨pq, rfl⟩ := hw'
          have hb3 : Below w0.heap.size w0 pq.W := hb.drew.trans (pq.h.mono hb.drew.size)
          clear x0 x1 cA e1 e2 X0 X1 E1 E2
          generalize pq.W = w3 at *
          cases bb
          · have HL := Lib.hid (HLO.out rfl (fun e => h2 (congrArg Prod.snd e).symm))
            clear HLO HHI
            go_wp2_with fail
            go_step3
            exact ⟨rfl, lo, m, _, _, _, _, _, _, _, _, _, _, _, _, _, _, _, _, _, _, _, _, _, _, _, _, _, _, _, _, _, rfl, HL.out, hb3⟩
          · have HL := Lib.hid (HHI.out rfl)
            clear HLO HHI
            go_wp2_with fail
            go_step3
            exact ⟨rfl, (m + 1), l.length, _, _, _, _, _, _, _, _, _, _, _, _, _, _, _, _, _, _, _, _, _, _, _, _, _, _, _, _, _, rfl, HL.out, hb3⟩
      · have hn1 : ((a1 : Int) == (p1 : Int)) = false := by rw [beq_eq_false_iff_ne]; omega
        clear HY
        generalize aheadB (a1, a2) (p1, p2) = bb at *
        go_wp2_with fail
        go_region
        all_goals go_wp2_with fail
        refine wp_region_later (by kernel_rfl) (by kernel_rfl) ?_
        repeat (go_big_quiet_step (first | (go_at_call 36; exact later_of (cA _))))
        refine wpQuiet_nil ?_
        intro _ hw'
        obtain ⟨pq, rfl⟩ := hw'
        have hb3 : Below w0.heap.size w0 pq.W := hb.drew.trans (pq.h.mono hb.drew.size)
        clear x0 x1 cA e1 e2 X0 X1 E1 E2
        generalize pq.W = w3 at *
        cases bb
        · have HL := Lib.hid (HLO.out rfl (fun e => h1 (congrArg Prod.fst e).symm))
          clear HLO HHI
          go_wp2_with fail
          go_step3
          exact ⟨rfl, lo, m, _, _, _, _, _, _, _, _, _, _, _, _, _, _, _, _, _, _, _, _, _, _, _, _, _, _, _, _, _, rfl, HL.out, hb3⟩
        · have HL := Lib.hid (HHI.out rfl)
          clear HLO HHI
          go_wp2_with fail
          go_step3
          exact ⟨rfl, (m + 1), l.length, _, _, _, _, _, _, _, _, _, _, _, _, _, _, _, _, _, _, _, _, _, _, _, _, _, _, _, _, _, rfl, HL.out, hb3⟩
  · rintro a' w' ⟨lo, hi, u7, u8, u9, u10, u11, u12, u13, u14, u15, u16, u17, u18, u19, u20, u21, u22, u23, u24, u25, u26, u27, u28, u29, u30, u31, u32, u33, u34, u35, rfl, hL, hb⟩
    obtain ⟨wr, hwr⟩ : ∃ z, z = w' := ⟨_, rfl⟩
    subst hwr
    have hB := b0.trans (hb.mono b0.size)
    obtain ⟨x0, x1⟩ := (r0.on hb).two
    obtain ⟨X0, X1⟩ := (r0.on hb.drew).laters
    by_cases hlh : lo = hi
    · subst hlh
      have HF := Lib.hid (decide_eq_false (hL.not_mem))
      clear hL
      go_wp2_with fail
      simp only [Exit.jump]
      go_ret
      refine ⟨?_, hB⟩
      rw [HF.out]; rfl
    · have hlt : lo < hi := Nat.lt_of_le_of_ne hL.le hlh
      have hle := hL.le
      have hhi := hL.len
      obtain ⟨m, hm⟩ : ∃ m, m = lo + (hi - lo) / 2 := ⟨_, rfl⟩
      have hml : m < l.length := by omega
      have hm1 : lo ≤ m := by omega
      have hm2 : m < hi := by omega
      have ed : ((hi : Int) - (lo : Int)).tdiv 2 = (((hi - lo) / 2 : Nat) : Int) := by
        rw [Int.tdiv_eq_ediv_of_nonneg (by omega)]; omega
      have em : (lo : Int) + (((hi - lo) / 2 : Nat) : Int) = (m : Int) := by omega
      have hne : ((lo : Int) == (hi : Int)) = false := by rw [beq_eq_false_iff_ne]; omega
      obtain ⟨ad, rfl, e1, e2⟩ := (hV.on hb).read hml
      obtain ⟨_, e, E1, E2⟩ := hV.cells hb.drew hml
      cases e
      have HY := Lib.hid (show l[m] = (p1, p2) → decide ((p1, p2) ∈ l) = true from fun e => decide_eq_true (by rw [← e]; exact List.getElem_mem _))
      have HLO := Lib.hid (show aheadB l[m] (p1, p2) = false → l[m] ≠ (p1, p2) → Lies l (p1, p2) lo m from fun h1 h2 => hL.low hr hm1 hm2 hml h1 h2)
      have HHI := Lib.hid (show aheadB l[m] (p1, p2) = true → Lies l (p1, p2) (m + 1) hi from fun h1 => hL.high hr hm1 hm2 hml h1)
      have cA := fun W => oahead_below l[m] (p1, p2) W
      clear hL hm hlh
      generalize l[m] = a at *
      generalize (hi - lo) / 2 = dd at *
      obtain ⟨a1, a2⟩ := a
      by_cases h1 : p1 = a1
      · subst h1
        by_cases h2 : p2 = a2
        · subst h2
          have HY2 := Lib.hid (HY.out rfl)
          clear HY HLO HHI cA E1 E2 X0 X1
          go_wp2_with fail
          go_region
          all_goals go_wp2_with fail
          simp only [Exit.jump]
          go_ret
          refine ⟨?_, hB.drew⟩
          rw [HY2.out]; rfl
        · have hn2 : ((a2 : Int) == (p2 : Int)) = false := by rw [beq_eq_false_iff_ne]; omega
          clear HY
          generalize aheadB (p1, a2) (p1, p2) = bb at *
          go_wp2_with fail
          go_region
          all_goals go_wp2_with fail
          refine wp_region_later (by kernel_rfl) (by kernel_rfl) ?_
          repeat (go_big_quiet_step (first | (go_at_call 36; exact later_of (cA _))))
          refine wpQuiet_nil ?_
          intro _ hw'
          obtain ⟨pq, rfl⟩ := hw'
          have hb3 : Below w0.heap.size w0 pq.W := hb.drew.trans (pq.h.mono hb.drew.size)
          clear x0 x1 cA e1 e2 X0 X1 E1 E2
          generalize pq.W = w3 at *
          cases bb
          · have HL := Lib.hid (HLO.out rfl (fun e => h2 (congrArg Prod.snd e).symm))
            clear HLO HHI
            go_wp2_with fail
            go_step3
            refine ⟨rfl, ⟨lo, m, _, _, _, _, _, _, _, _, _, _, _, _, _, _, _, _, _, _, _, _, _, _, _, _, _, _, _, _, _, rfl, HL.out, hb3⟩, ?_⟩
            simp [intOf]
            omega
          · have HL := Lib.hid (HHI.out rfl)
            clear HLO HHI
            go_wp2_with fail
            go_step3
            refine ⟨rfl, ⟨(m + 1), hi, _, _, _, _, _, _, _, _, _, _, _, _, _, _, _, _, _, _, _, _, _, _, _, _, _, _, _, _, _, rfl, HL.out, hb3⟩, ?_⟩
            simp [intOf]
            omega
      · have hn1 : ((a1 : Int) == (p1 : Int)) = false := by rw [beq_eq_false_iff_ne]; omega
        clear HY
        generalize aheadB (a1, a2) (p1, p2) = bb at *
        go_wp2_with fail
        go_region
        all_goals go_wp2_with fail
        refine wp_region_later (by kernel_rfl) (by kernel_rfl) ?_
        repeat (go_big_quiet_step (first | (go_at_call 36; exact later_of (cA _))))
        refine wpQuiet_nil ?_
        intro _ hw'
        obtain ⟨pq, rfl⟩ := hw'
        have hb3 : Below w0.heap.size w0 pq.W := hb.drew.trans (pq.h.mono hb.drew.size)
        clear x0 x1 cA e1 e2 X0 X1 E1 E2
        generalize pq.W = w3 at *
        cases bb
        · have HL := Lib.hid (HLO.out rfl (fun e => h1 (congrArg Prod.fst e).symm))
          clear HLO HHI
          go_wp2_with fail
          go_step3
          refine ⟨rfl, ⟨lo, m, _, _, _, _, _, _, _, _, _, _, _, _, _, _, _, _, _, _, _, _, _, _, _, _, _, _, _, _, _, rfl, HL.out, hb3⟩, ?_⟩
          simp [intOf]
          omega
        · have HL := Lib.hid (HHI.out rfl)
          clear HLO HHI
          go_wp2_with fail
          go_step3
          refine ⟨rfl, ⟨(m + 1), hi, _, _, _, _, _, _, _, _, _, _, _, _, _, _, _, _, _, _, _, _, _, _, _, _, _, _, _, _, _, rfl, HL.out, hb3⟩, ?_⟩
          simp [intOf]
          omega
end Go.Proofs.Ytjjccoliknngcaa

namespace Go.Proofs.Ytjjccoliknngcaa
open Go.RowKit Go.Maps

theorem plainElem_bool_inv {H : Type} {P : Program} {e : TypeId} (he : P.underlying e = some .bool) {v : Value} {z : DataW H × List MemPlace} (h : plainElem P e v = some z) : ∃ b, v = .bool b ∧ z = (.lit (.bool b), []) := by
  unfold plainElem at h
  rw [he] at h
  cases v <;> simp at h
  exact ⟨_, rfl, h.symm⟩
/-- A look-up in a map of bools that the call made. -/
theorem wpList_lookup_own_bool {H : Type} {P : Program} (w : World) {ops : Array Oper} {rest : List Oper} {o : Oper} {a : Act} {Q : Exit → Act → World → Prop}
    (hg : o.guard = none) (m x : Operand) (t : TypeId) (hop : o.op = Op.lookup t m x false)
    (k e : TypeId) (K : Keyed P k) (ht : P.underlying t = some (.map k e)) (he : P.underlying e = some .bool) (hz : (zeroValue e).run P w = .ok (.bool false) w) (b n : Nat) (D : DataW H)
    (hm : a.eval m = .map (some b)) (hown : w.ownsMap P k (plainElem P e) b n D) (key : Value) (kl : Lit) (hx : a.eval x = key) (hkey : keyOf P k key = some kl)
    (hK : ∀ c : Bool, D.atKey kl (.lit (.bool false)) = .lit (.bool c) → wpList P ops Q rest (a.put o.dst (.bool c)) w) :
    wpList P ops Q (o :: rest) a w := by
  refine wpList_plain hg fun K' hK' => ?_
  obtain ⟨v, ps, hrun, hv⟩ := hown.lookup K ht hz (plainElem_bool he false) hkey
  obtain ⟨c, rfl, hc⟩ := plainElem_bool_inv he hv
  simp only [Prod.mk.injEq] at hc
  unfold Oper.wp
  simp [execOp, hop, hm, hx, hrun, Result.andThen]
  exact hK' _ _ (hK c hc.1)

abbrev keyL (x : Nat) : Lit := .int .u64 (x : Int)
/-- Which keys have been met, as the map has it. -/
abbrev metD (ks : List Nat) : DataW Unit := setOf (.lit (.bool true)) (ks.map keyL)
theorem isKey_int (x : Nat) : WideAt.IsKeyLit (keyL x) := by simp [WideAt.IsKeyLit]
theorem keyL_inj {a b : Nat} (h : keyL a = keyL b) : a = b := by
  injection h with _ h
  omega
theorem metD_snoc (ks : List Nat) (x : Nat) : metD (ks ++ [x]) = (metD ks).put (keyL x) (.lit (.bool true)) := by
  unfold metD
  rw [List.map_append, List.map_cons, List.map_nil, setOf_snoc]
theorem metD_isMap (ks : List Nat) : IsMap (metD ks) := (tidy_setOf _ _ fun x hx => by
  obtain ⟨k, _, rfl⟩ := List.mem_map.1 hx
  exact isKey_int k).isMap
theorem metD_at (x : Nat) (z : DataW Unit) : ∀ l : List Nat, (metD l.reverse).atKey (keyL x) z = if x ∈ l then .lit (.bool true) else z
  | [] => rfl
  | y :: l => by
    rw [List.reverse_cons, metD_snoc]
    by_cases h : x = y
    · subst h
      rw [atKey_put_same (metD_isMap _) (isKey_int _), if_pos (by simp)]
    · rw [atKey_put_other (fun e => h (keyL_inj e)), metD_at x z l]
      simp [h]
theorem metD_has (ks : List Nat) (x : Nat) (c : Bool) (h : (metD ks).atKey (keyL x) (.lit (.bool false)) = .lit (.bool c)) : c = decide (x ∈ ks) := by
  have := metD_at x (.lit (.bool false)) ks.reverse
  rw [List.reverse_reverse, h] at this
  by_cases hx : x ∈ ks
  · rw [if_pos (by simpa using hx)] at this
    injection this with e
    injection e with e
    rw [e, decide_eq_true hx]
  · rw [if_neg (by simpa using hx)] at this
    injection this with e
    injection e with e
    rw [e, decide_eq_false hx]
theorem wf_u64 {x : Nat} (h : x < 18446744073709551616) : (Lit.int .u64 (x : Int)).wf = true := by
  have e1 : IntKind.u64.min = 0 := by rfl
  have e2 : IntKind.u64.max = 18446744073709551615 := by rfl
  simp [Lit.wf, e1, e2]
  omega
theorem run_makeHint (t : TypeId) (ht : (Try.prog.underlying t).any (fun u => match u with | .map .. => true | _ => false) = true) (n : Int) (W : World) : (Instr.makeMap t (some (.int .i64 n))).run Try.prog W = .ok (.map (some W.heap.size)) (W.alloc (.map #[] 0)) := by
  cases hu : Try.prog.underlying t with
  | none => rw [hu] at ht; cases ht
  | some u =>
    rw [hu] at ht
    cases u <;> simp at ht
    simp [Instr.makeMap, run_underlying hu, asInt, go_sem]
theorem zeroBool (w : World) : (zeroValue 4).run Try.prog w = .ok (.bool false) w := by kernel_rfl

set_option maxHeartbeats 2000000 in
set_option maxRecDepth 100000 in
theorem ounlike_any (v : Value) (ks : List Nat) (w : World) (hv : Wds w w.heap.size v ks) (hf : ∀ x ∈ ks, x < 18446744073709551616) (h9 : ks.length ≤ 100000) :
    Calls Try.prog 48 #[v] w fun e w' => e = .returned (.bool (decide ks.Nodup)) ∧ Below w.heap.size w w' := by
  obtain ⟨A, c, rfl, hc⟩ := hv.form
  have hmm := run_makeHint 89 (by kernel_rfl) (ks.length : Int)
  go_enter Try.func48, Try.ntmps48
  go_wp2_with fail
  go_loopw [11] (fun i wr => ∃ k : Nat, k ≤ ks.length ∧ i = .int .i64 k ∧ (ks.take k).Nodup ∧ wr.ownsMap Try.prog 25 (plainElem Try.prog 4) w.heap.size k (metD (ks.take k)) ∧ Below w.heap.size w wr) (fun i _ => ks.length - (intOf i).toNat)
  case atStart => exact ⟨0, Nat.zero_le _, rfl, by simp, World.ownsMap_made _ _ _ _, (Below.refl _ _).alloc (Nat.le_refl _) _⟩
  case round =>
    obtain ⟨k, hk, rfl, hn, hown, hb⟩ := hrel
    by_cases hlt : k < ks.length
    · obtain ⟨ad, rfl, _, hcell⟩ := (hv.below hb (Nat.le_refl _)).at_ hlt
      have hkf := hf _ (List.getElem_mem hlt)
      have HS := Lib.hid (show metD (ks.take (k + 1)) = (metD (ks.take k)).put (keyL ks[k]) (.lit (.bool true)) by rw [List.take_succ_eq_append_getElem hlt, metD_snoc])
      have HN := Lib.hid (show ks[k] ∉ ks.take k → (ks.take (k + 1)).Nodup from fun h => by
        rw [List.take_succ_eq_append_getElem hlt, List.nodup_append]
        refine ⟨hn, by simp, fun a ha b hb e => ?_⟩
        rw [List.mem_singleton] at hb
        subst hb; subst e
        exact h ha)
      have HF := Lib.hid (show ks[k] ∈ ks.take k → decide ks.Nodup = false from fun h => by
        refine decide_eq_false fun hn => ?_
        obtain ⟨j, hj, e⟩ := List.mem_iff_getElem.1 h
        rw [List.length_take] at hj
        rw [List.getElem_take] at e
        exact List.pairwise_iff_getElem.1 hn j k (by omega) hlt (by omega) e)
      have HH := Lib.hid (metD_has (ks.take k) ks[k])
      clear hn
      generalize ks[k] = x at *
      by_cases hin : x ∈ ks.take k
      · have HF2 := Lib.hid (HF.out hin)
        clear HF HN HS
        go_wp2_with (at_lookup; refine wpList_lookup_own_bool _ rfl _ _ 89 rfl 25 4 (int_keyed Try.underlying25) Try.underlying89 Try.underlying4 (zeroBool _) w.heap.size k _ rfl hown _ _ rfl (keyOf_int_mk Try.underlying25 (wf_u64 hkf)) ?_; intro cc hat; obtain rfl : cc = true := by rw [HH.out _ hat]; exact decide_eq_true hin)
        go_ret
        refine ⟨?_, hb⟩
        rw [HF2.out]; rfl
      · have HN2 := Lib.hid (HN.out hin)
        clear HF HN
        go_wp2_with (first
          | (at_lookup; refine wpList_lookup_own_bool _ rfl _ _ 89 rfl 25 4 (int_keyed Try.underlying25) Try.underlying89 Try.underlying4 (zeroBool _) w.heap.size k _ rfl hown _ _ rfl (keyOf_int_mk Try.underlying25 (wf_u64 hkf)) ?_; intro cc hat; obtain rfl : cc = false := by rw [HH.out _ hat]; exact decide_eq_false hin)
          | (at_mapUpdate; refine wpList_mapUpdate_own _ rfl _ _ _ 89 rfl 25 4 (int_keyed Try.underlying25) Try.underlying89 _ w.heap.size k _ rfl hown (by unfold maxLen; omega) _ _ _ rfl rfl (keyOf_int_mk Try.underlying25 (wf_u64 hkf)) _ [] (plainElem_bool Try.underlying4 true) ?_; intro w1 hown1 hgrow1))
        have hb1 := hb.grown hgrow1 hb.size (fun j hj => by cases hj; exact Nat.le_refl _)
        have hown2 : w1.ownsMap Try.prog 25 (plainElem Try.prog 4) w.heap.size (k + 1) (metD (ks.take (k + 1))) := by rw [HS.out]; exact hown1
        clear hown1 hown hgrow1 hb HS
        go_wp2_with fail
        go_roundw
        case rel => exact ⟨k + 1, by omega, by go_num, HN2.out, hown2, hb1⟩
        case measure => simp [intOf]; omega
    · obtain rfl : k = ks.length := by omega
      rw [List.take_length] at hn
      have HN := Lib.hid (decide_eq_true hn)
      clear hn
      go_wp2_with fail
      go_ret
      refine ⟨?_, hb⟩
      rw [HN.out]; rfl
end Go.Proofs.Ytjjccoliknngcaa

namespace Go.Proofs.Ytjjccoliknngcaa
open Go.RowKit

set_option maxHeartbeats 1000000 in
theorem oValid_any (v : Value) (l : List Pr) (p : Pr) (w : World) (hv : Prs w w.heap.size v l) (h9 : l.length ≤ 1000000) :
    Calls Try.prog 16 #[v, .agg #[.int .u64 (p.1 : Int), .int .u64 (p.2 : Int)]] w fun e w' => e = .returned (.bool (rightO l && decide (p ∈ l))) ∧ Below w.heap.size w w' := by
  obtain ⟨A, c, rfl, hc⟩ := hv.form
  have r0 := RowAt.new w 27 #[.int .u64 (p.1 : Int), .int .u64 (p.2 : Int)]
  have b0 := (Below.refl w.heap.size w).alloc (Nat.le_refl _) (.cells #[.int .u64 (p.1 : Int), .int .u64 (p.2 : Int)] 27)
  have hv0 := hv.alloc (.cells #[.int .u64 (p.1 : Int), .int .u64 (p.2 : Int)] 27)
  have cR := oRight_any _ l _ hv0 h9
  cases hx : rightO l
  · rw [hx] at cR
    rw [Bool.false_and]
    go_enter Try.func16, Try.ntmps16
    go_wp2_with fail
    with_reducible refine cR.mono ?_
    rintro e w1 ⟨rfl, b1⟩
    have B1 := b0.trans (b1.mono b0.size)
    go_wp2_with fail
    go_ret
    exact ⟨rfl, B1⟩
  · have hr := ((rightO_iff l).1 hx).2
    rw [hx] at cR
    rw [Bool.true_and]
    have cH := fun W hW => ohas_any (.slice A l.length c) l p W hW hr h9
    generalize decide (p ∈ l) = y at *
    go_enter Try.func16, Try.ntmps16
    go_wp2_with fail
    with_reducible refine cR.mono ?_
    rintro e w1 ⟨rfl, b1⟩
    have B1 := b0.trans (b1.mono b0.size)
    obtain ⟨x0, x1⟩ := (r0.on b1).two
    have hv1 := hv0.on b1
    go_wp2_with fail
    with_reducible refine (cH _ hv1).mono ?_
    rintro e w2 ⟨rfl, b2⟩
    go_wp2_with fail
    go_ret
    exact ⟨rfl, B1.trans (b2.mono B1.size)⟩

set_option maxHeartbeats 2000000 in
theorem ohasEach_any (v u : Value) (t l : List Pr) (w : World) (hv : Prs w w.heap.size v t) (hu : Prs w w.heap.size u l) (hr : Rise t) (h9 : t.length ≤ 1000000) (h9l : l.length ≤ 1000000) :
    Calls Try.prog 41 #[v, u] w fun e w' => e = .returned (.bool (l.all fun p => decide (p ∈ t))) ∧ Below w.heap.size w w' := by
  obtain ⟨A, c, rfl, hc⟩ := hv.form
  obtain ⟨B, d, rfl, hd⟩ := hu.form
  obtain ⟨X, hX⟩ : ∃ X, (l.all fun p => decide (p ∈ t)) = X := ⟨_, rfl⟩
  rw [hX]
  have HX := Lib.hid hX
  clear hX
  go_enter Try.func41, Try.ntmps41
  go_wp2_with fail
  go_loopw [9] (fun i wr => ∃ k : Nat, k ≤ l.length ∧ i = .int .i64 k ∧ (∀ x (hx : x < k) (hk : x < l.length), decide (l[x] ∈ t) = true) ∧ Below w.heap.size w wr) (fun i _ => l.length - (intOf i).toNat)
  case atStart => exact ⟨0, Nat.zero_le _, rfl, fun x hx => by omega, Below.refl _ _⟩
  case round =>
    obtain ⟨k, hk, rfl, hd, hb⟩ := hrel
    by_cases hlk : k < l.length
    · obtain ⟨ad, rfl, c0, c1⟩ := (hu.on hb).read hlk
      have b1 := hb.alloc hb.size (.cells #[.int .u64 (l[k].1 : Int), .int .u64 (l[k].2 : Int)] 27)
      have cV := ohas_any _ t l[k] _ ((hv.below b1 (Nat.le_refl _)).more b1.size) hr h9
      have r1 := RowAt.new wr 27 #[.int .u64 (l[k].1 : Int), .int .u64 (l[k].2 : Int)]
      obtain ⟨y0, y1⟩ := r1.two
      have HD := Lib.hid (show decide (l[k] ∈ t) = true → ∀ x (hx : x < k + 1) (hk : x < l.length), decide (l[x] ∈ t) = true from fun h x hx hxl => by
        by_cases e : x = k
        · subst e; exact h
        · exact hd x (by omega) hxl)
      have HF := Lib.hid (show decide (l[k] ∈ t) = false → X = false from fun h => by
        rw [← HX.out, List.all_eq_false]
        exact ⟨_, List.getElem_mem hlk, by rw [h]; simp⟩)
      clear r1
      generalize decide (l[k] ∈ t) = vb at *
      generalize l[k] = p at *
      clear hd
      go_wp2_with fail
      with_reducible refine cV.mono ?_
      rintro e w7 ⟨rfl, b7⟩
      have hb7 := b1.trans (b7.mono b1.size)
      clear cV c0 c1 y0 y1 b7 b1
      cases vb
      · have hXf := HF.out rfl
        subst hXf
        go_wp2_with fail
        go_ret
        exact ⟨rfl, hb7⟩
      · have HD2 := Lib.hid (HD.out rfl)
        clear HD HF
        go_wp2_with fail
        go_roundw
        case rel => exact ⟨k + 1, by omega, by go_num, HD2.out, hb7⟩
        case measure => simp [intOf]; omega
    · obtain rfl : k = l.length := by omega
      have hXt : X = true := by
        rw [← HX.out, List.all_eq_true]
        intro i hi
        obtain ⟨j, hj, rfl⟩ := List.mem_iff_getElem.1 hi
        exact hd j hj hj
      subst hXt
      clear hd
      go_wp2_with fail
      go_ret
      exact ⟨rfl, hb⟩

set_option maxHeartbeats 2000000 in
theorem oEqual_any (va vb : Value) (a b : List Pr) (w : World) (ha : Prs w w.heap.size va a) (hb : Prs w w.heap.size vb b) (h9 : a.length ≤ 1000000) (h9b : b.length ≤ 1000000) :
    Calls Try.prog 49 #[va, vb] w fun e w' => e = .returned (.bool (decide (a = b))) ∧ Below w.heap.size w w' := by
  obtain ⟨A, c, rfl, hc⟩ := ha.form
  obtain ⟨B, d, rfl, hd⟩ := hb.form
  by_cases hl : a.length = b.length
  · have hl1 : ((a.length : Int) != (b.length : Int)) = false := by rw [bne, beq_iff_eq.2 (by omega)]; rfl
    have HL := Lib.hid hl
    clear hl
    go_enter Try.func49, Try.ntmps49
    go_wp2_with fail
    go_loopw [13] (fun i wr => ∃ k : Nat, k ≤ a.length ∧ i = .int .i64 k ∧ a.take k = b.take k ∧ Below w.heap.size w wr) (fun i _ => a.length - (intOf i).toNat)
    case atStart => exact ⟨0, Nat.zero_le _, rfl, by simp, Below.refl _ _⟩
    case round =>
      obtain ⟨k, hk, rfl, htk, hw⟩ := hrel
      have HK := Lib.hid htk
      clear htk
      by_cases hlt : k < a.length
      · have hlt2 : k < b.length := by have := HL.out; omega
        obtain ⟨ad, rfl, e1, e2⟩ := (ha.on hw).read hlt
        obtain ⟨bd, rfl, e3, e4⟩ := (hb.on hw).read hlt2
        have HN := Lib.hid (show a[k] ≠ b[k] → decide (a = b) = false from fun h0 => decide_eq_false fun e => h0 (by subst e; rfl))
        have HT := Lib.hid (show a[k] = b[k] → a.take (k + 1) = b.take (k + 1) from fun h0 => by
          rw [List.take_succ_eq_append_getElem hlt, List.take_succ_eq_append_getElem hlt2, HK.out, h0])
        generalize a[k] = p at *
        generalize b[k] = q at *
        obtain ⟨p1, p2⟩ := p
        obtain ⟨q1, q2⟩ := q
        by_cases h1 : p1 = q1
        · subst h1
          by_cases h2 : p2 = q2
          · subst h2
            have ht1 := HT.out rfl
            go_wp2_with fail
            go_region
            go_wp2_with fail
            go_roundw
            case rel => exact ⟨k + 1, by omega, by go_num, ht1, hw.drew⟩
            case measure => simp [intOf]; omega
          · have h2a : ((p2 : Int) = (q2 : Int)) = False := eq_false (by omega)
            have h2b : ((p2 : Int) == (q2 : Int)) = false := by rw [beq_eq_false_iff_ne]; omega
            have HN2 := Lib.hid (HN.out (by simp [h2]))
            clear HN HT h2
            go_wp2_with fail
            go_region
            go_wp2_with fail
            go_ret
            refine ⟨?_, hw.drew⟩
            rw [HN2.out]; rfl
        · have h1a : ((p1 : Int) = (q1 : Int)) = False := eq_false (by omega)
          have h1b : ((p1 : Int) == (q1 : Int)) = false := by rw [beq_eq_false_iff_ne]; omega
          have HN2 := Lib.hid (HN.out (by simp [h1]))
          clear HN HT h1
          go_wp2_with fail
          go_region
          go_wp2_with fail
          go_ret
          refine ⟨?_, hw.drew⟩
          rw [HN2.out]; rfl
      · obtain rfl : k = a.length := by omega
        have hab : a = b := by
          have h1 := HK.out
          have h2 := HL.out
          rw [List.take_of_length_le (by omega), List.take_of_length_le (by omega)] at h1
          exact h1
        have HE := Lib.hid (decide_eq_true hab)
        clear hab
        go_wp2_with fail
        go_ret
        refine ⟨?_, hw⟩
        rw [HE.out]; rfl
  · have hl1 : ((a.length : Int) != (b.length : Int)) = true := by rw [bne, beq_eq_false_iff_ne.2 (by omega)]; rfl
    have hE : decide (a = b) = false := decide_eq_false fun e => hl (by rw [e])
    rw [hE]
    clear hl hE
    go_enter Try.func49, Try.ntmps49
    go_wp2_with fail
    go_ret
    exact ⟨rfl, Below.refl _ _⟩
end Go.Proofs.Ytjjccoliknngcaa
