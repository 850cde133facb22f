/- The document's own answer of layer 2: Union. -/
import Derived.Test.YtpojpikndlcbkaaRBitE
namespace Go.Proofs.Ytpojpikndlcbkaa
open Go.RowKit Go.Shelf

def inAny (bs : List (Int × List Int)) (i : Int) : Bool := bs.any fun b => decide (i ∈ b.2)
theorem inAny_step (bs : List (Int × List Int)) (k : Nat) (i : Int) (hk : k < bs.length) : inAny (bs.take (k + 1)) i = (inAny (bs.take k) i || decide (i ∈ bs[k].2)) := by
  unfold inAny
  rw [List.take_succ_eq_append_getElem hk, List.any_append]; simp
def anyTo (bs : List (Int × List Int)) (k : Nat) : List Int := ((List.range k).filter fun i : Nat => inAny bs (i : Int)).map fun i : Nat => (i : Int)
theorem anyTo_on {bs : List (Int × List Int)} {k : Nat} (h : inAny bs (k : Int) = true) : anyTo bs (k + 1) = anyTo bs k ++ [(k : Int)] := by
  simp [anyTo, List.range_succ, List.filter_append, h]
theorem anyTo_off {bs : List (Int × List Int)} {k : Nat} (h : inAny bs (k : Int) = false) : anyTo bs (k + 1) = anyTo bs k := by
  simp [anyTo, List.range_succ, List.filter_append, h]
theorem anyTo_length (bs : List (Int × List Int)) (k : Nat) : (anyTo bs k).length ≤ k := by
  unfold anyTo
  rw [List.length_map]
  exact Nat.le_trans (List.length_filter_le _ _) (by simp)
theorem anyTo_union {P : Nat} {on : List Int} {more : List (Int × List Int)} (h1 : rightB P on = true) (h2 : ∀ b ∈ (((P : Int), on) :: more), likeB P b = true) : unionOf P on more = ((P : Int), anyTo (((P : Int), on) :: more) P, 0) := by
  have hP := ((rightB_iff _ _).1 h1).1
  obtain ⟨u, hu, ru, hm⟩ := union_of P on more h1 (by rw [List.all_eq_true]; exact fun b hb => h2 b (by simp [hb]))
  rw [hu]
  have : u = anyTo (((P : Int), on) :: more) P := by
    refine rise_ext ((rightB_iff _ _).1 ru).2.1 ?_ fun x => ?_
    · unfold anyTo
      rw [List.pairwise_map]
      exact (List.Pairwise.filter _ List.pairwise_lt_range).imp fun h => by omega
    · rw [hm]
      simp only [anyTo, inAny, List.mem_map, List.mem_filter, List.mem_range, List.any_cons, Bool.or_eq_true, decide_eq_true_eq, List.any_eq_true]
      constructor
      · intro h
        have hx : 0 ≤ x ∧ x < (P : Int) := by
          rcases h with h | ⟨b, hb, h⟩
          · exact ((rightB_iff _ _).1 h1).2.2 x h
          · have h4 := h2 b (by simp [hb])
            simp only [likeB, Bool.and_eq_true, decide_eq_true_eq] at h4
            have h5 := ((rightB_iff _ _).1 h4.1).2.2 x h
            omega
        have e : ((x.toNat : Nat) : Int) = x := by omega
        exact ⟨x.toNat, ⟨by omega, by rw [e]; exact h⟩, e⟩
      · rintro ⟨i, ⟨_, h⟩, rfl⟩; exact h
  rw [this]

set_option maxHeartbeats 4000000 in
set_option maxRecDepth 100000 in
theorem rUnion_any (n : Int) (on : List Int) (more : List (Int × List Int)) (v : Value) (w : World) (hm : BtRow w v ((n, on) :: more)) (h9m : ∀ b ∈ ((n, on) :: more), b.2.length ≤ maxLen) (hml : more.length ≤ 1000) :
    Calls Try.prog 16 #[v] w fun e w' => ∃ y, e = .returned (.tuple #[y, .int .i64 (unionOf n on more).2.2]) ∧ Bt w' y (unionOf n on more).1 (unionOf n on more).2.1 ∧ Below w.heap.size w w' := by
  obtain ⟨A', c', rfl, hc'⟩ := hm.form
  obtain ⟨ad, u0, rfl, hbl, hc0, hc1, hu0⟩ := hm.at_ (k := 0) (by simp)
  obtain ⟨Au0, cu0, rfl, -⟩ := hu0.form
  replace hc0 : w.cell? ad = some (.int .i64 n) := hc0
  replace hc1 : w.cell? ⟨ad.block, ad.off + 1, none⟩ = some (.slice Au0 on.length cu0) := hc1
  have h90 : on.length ≤ maxLen := h9m (n, on) (by simp)
  obtain ⟨i0, hi, hz0, hz1, hz2⟩ := info_parts info_int
  have HM := Lib.hid hm
  clear hm
  have HI0 : Hid (((n, on) :: more)[0]? = some (n, on)) := rfl
  have HL : Hid (((n, on) :: more).length = more.length + 1) := rfl
  obtain ⟨bs, hbs⟩ : ∃ bs, bs = (n, on) :: more := ⟨_, rfl⟩
  rw [← hbs] at HM hc' h9m HL HI0 ⊢
  have HBS := Lib.hid hbs
  clear hbs
  have hbl9 : bs.length ≤ 1001 := by rw [HL.out]; omega
  have hbl1 : 0 < bs.length := by rw [HL.out]; omega
  have r0 : RowAt (w.alloc (.cells #[.int .i64 0, .slice none 0 0] 24)) w.heap.size 24 [.int .i64 0, .slice none 0 0] := RowAt.new w 24 #[.int .i64 0, .slice none 0 0]
  have hw0 : Below w.heap.size w (w.alloc (.cells #[.int .i64 0, .slice none 0 0] 24)) := (Below.refl _ w).alloc (Nat.le_refl _) _
  go_enter Try.func16, Try.ntmps16
  go_wp2_with fail
  go_loopw [4] (fun iv wr => ∃ k : Nat, k ≤ bs.length ∧ iv = .int .i64 k ∧ Hid (∀ b ∈ bs.take k, alikeB n on b.1 b.2 = true) ∧ RowAt wr w.heap.size 24 [.int .i64 0, .slice none 0 0] ∧ Below w.heap.size w wr) (fun iv _ => bs.length - (intOf iv).toNat)
  case atStart => exact ⟨0, Nat.zero_le _, rfl, by simp [Hid], r0, hw0⟩
  case round =>
    clear r0 hw0
    obtain ⟨k, hk, rfl, HAl, r0, hB⟩ := hrel
    by_cases hlt : k < bs.length
    · obtain ⟨ad', u, had, -, hd0, hd1, hu⟩ := HM.out.at_ hlt
      injection had with had
      subst had
      have HT := Lib.hid (show bs.take (k + 1) = bs.take k ++ [bs[k]] from List.take_succ_eq_append_getElem hlt)
      have h9k := h9m _ (List.getElem_mem hlt)
      have HI := Lib.hid (List.getElem_mem hlt)
      generalize hb0 : bs[k] = bk at *
      clear hb0
      obtain ⟨nk, onk⟩ := bk
      obtain ⟨Au, cu, rfl, hcu⟩ := hu.form
      simp only at hd0 hd1 hu h9k hcu
      have z0 : ∀ p : Later wr, p.W.cell? ad = some (.int .i64 n) := fun p => ((p.h.cell (by have := hB.size; omega)).trans (hB.cell hbl)).trans hc0
      have z1 : ∀ p : Later wr, p.W.cell? ⟨ad.block, ad.off + 1, none⟩ = some (.slice Au0 on.length cu0) := fun p => ((p.h.cell (p := ⟨ad.block, ad.off + 1, none⟩) (by have := hB.size; show ad.block < _; omega)).trans (hB.cell (p := ⟨ad.block, ad.off + 1, none⟩) hbl)).trans hc1
      have zk0 : ∀ p : Later wr, p.W.cell? (ad.add (k * 2)) = some (.int .i64 nk) := fun p => ((p.h.cell (by rw [add_block]; have := hB.size; omega)).trans (hB.cell (by rw [add_block]; exact hbl))).trans hd0
      have zk1 : ∀ p : Later wr, p.W.cell? ⟨(ad.add (k * 2)).block, (ad.add (k * 2)).off + 1, none⟩ = some (.slice Au onk.length cu) := fun p => ((p.h.cell (p := ⟨(ad.add (k * 2)).block, (ad.add (k * 2)).off + 1, none⟩) (by show (ad.add (k * 2)).block < _; rw [add_block]; have := hB.size; omega)).trans (hB.cell (p := ⟨(ad.add (k * 2)).block, (ad.add (k * 2)).off + 1, none⟩) (by show (ad.add (k * 2)).block < _; rw [add_block]; exact hbl))).trans hd1
      have HC : ∀ p : Later wr, Calls Try.prog 35 #[.agg #[.int .i64 n, .slice Au0 on.length cu0], .agg #[.int .i64 nk, .slice Au onk.length cu]] p.W fun e w'' => e = .returned (.bool (alikeB n on nk onk)) ∧ ∃ p : Later wr, w'' = p.W := fun p => later_of (ralike_any _ _ n nk on onk p.W ⟨_, rfl, (hu0.on hB).on p.h⟩ ⟨_, rfl, (hu.on hB).on p.h⟩ h90 h9k)
      clear hd0 hd1
      obtain ⟨t, ht⟩ : ∃ t, alikeB n on nk onk = t := ⟨_, rfl⟩
      rw [ht] at HC
      have HTT := Lib.hid ht
      clear ht
      cases t
      · have HNo : Hid (unionOf n on more = (0, [], 1)) := by
          have h1 := HI.out
          rw [HBS.out, List.mem_cons] at h1
          show _ = _
          cases hr : rightB n on
          · unfold unionOf; rw [hr]; rfl
          · refine unionOf_no n on more ⟨(nk, onk), ?_, ?_⟩
            · rcases h1 with h1 | h1
              · injection h1 with e1 e2
                have := HTT.out
                subst e1 e2
                simp [alikeB, hr] at this
              · exact h1
            · have := HTT.out
              simp only [alikeB, hr, Bool.true_and] at this
              simp only [likeB]
              rw [← this]
              congr 1
              exact decide_eq_decide.2 ⟨fun h => h.symm, fun h => h.symm⟩
        go_wp2_with fail
        refine wp_region_later (by kernel_rfl) (by kernel_rfl) ?_
        repeat (go_big_quiet_step (first | (go_at_call 35; exact HC _)))
        refine wpQuiet_nil ?_
        intro _ hw'
        obtain ⟨pq, rfl⟩ := hw'
        have hb1 := pq.h
        generalize pq.W = W2 at hb1 ⊢
        clear pq z0 z1 zk0 zk1 HC
        replace r0 := r0.on hb1
        have hB2 := hB.trans (hb1.mono hB.size)
        obtain ⟨c0, c1⟩ := r0.two
        have f0 := r0.frozen 0
        have f1 := r0.frozen 1
        have HQ := Lib.hid r0
        clear r0
        go_wp2_with fail
        have R := (HQ.out.set 0 (.int .i64 0)).set 1 (.slice none 0 0)
        have g0 := R.cell 0
        have g1 := R.cell 1
        simp only [List.set_cons_zero, List.set_cons_succ, List.getElem?_cons_zero, List.getElem?_cons_succ] at g0 g1
        refine bodyPost_ret (v := .tuple #[.agg #[.int .i64 0, .slice none 0 0], .int .i64 1]) (by simp [results, Try.results16, go_sem, g0, g1]) rfl ?_
        rw [HNo.out]
        exact ⟨_, rfl, ⟨_, rfl, Elems.nil _ _ _⟩, (hB2.setCell (p := ⟨w.heap.size, 0, none⟩) (Nat.le_refl _) _).setCell (p := ⟨w.heap.size, 1, none⟩) (Nat.le_refl _) _⟩
      · go_wp2_with fail
        refine wp_region_later (by kernel_rfl) (by kernel_rfl) ?_
        repeat (go_big_quiet_step (first | (go_at_call 35; exact HC _)))
        refine wpQuiet_nil ?_
        intro _ hw'
        obtain ⟨pq, rfl⟩ := hw'
        have hb1 := pq.h
        generalize pq.W = W2 at hb1 ⊢
        clear pq z0 z1 zk0 zk1 HC
        go_wp2_with fail
        go_roundw
        case rel =>
          refine ⟨k + 1, by omega, by go_num, ?_, r0.on hb1, hB.trans (hb1.mono hB.size)⟩
          show ∀ b ∈ bs.take (k + 1), alikeB n on b.1 b.2 = true
          rw [HT.out]
          intro b hb
          simp only [List.mem_append, List.mem_singleton] at hb
          rcases hb with hb | rfl
          · exact HAl.out b hb
          · exact HTT.out
        case measure => simp [intOf]; omega
    · have HAll : Hid (∀ b ∈ bs, alikeB n on b.1 b.2 = true) := by
        have h1 := HAl.out
        rw [List.take_of_length_le (by omega)] at h1
        exact h1
      have hr : rightB n on = true := by
        have h1 := HAll.out (n, on) (List.mem_of_getElem? HI0.out)
        simp only [alikeB, Bool.and_eq_true] at h1
        exact h1.1.1
      obtain ⟨P, rfl, hP, hon⟩ := right_nat hr
      have HU : Hid (unionOf (P : Int) on more = ((P : Int), anyTo bs P, 0)) := by
        rw [HBS.out]
        refine anyTo_union hr (fun b hb => ?_)
        have h1 := HAll.out b (by rw [HBS.out]; exact hb)
        simp only [alikeB, Bool.and_eq_true, decide_eq_true_eq] at h1
        simp [likeB, h1.1.2, h1.2]
      have hwc0 : wr.cell? ad = some (.int .i64 (P : Int)) := (hB.cell hbl).trans hc0
      clear HAll HAl hr hon
      have HLn : Hid (∀ i : Nat, (anyTo bs i).length ≤ i) := fun i => anyTo_length bs i
      go_wp2_with fail
      obtain ⟨W0, hW0⟩ : ∃ W0, W0 = wr.alloc (.cells #[.int .i64 (P : Int), .slice none 0 0] 24) := ⟨_, rfl⟩
      have hA0 : Below wr.heap.size wr W0 := by rw [hW0]; exact (Below.refl _ wr).alloc (Nat.le_refl _) _
      have p0 := r0.on hA0
      have p1 : RowAt W0 wr.heap.size 24 [.int .i64 (P : Int), .slice none 0 0] := by rw [hW0]; exact RowAt.new wr 24 #[.int .i64 (P : Int), .slice none 0 0]
      have hB0 := hB.trans (hA0.mono hB.size)
      have hs0 : wr.heap.size + 1 ≤ W0.heap.size := by rw [hW0]; simp
      have hs1 : w.heap.size < wr.heap.size := r0.lt
      rw [← hW0]
      obtain ⟨G, hG⟩ : ∃ G, G = wr.heap.size := ⟨_, rfl⟩
      rw [← hG] at p1 hs0 hs1 ⊢
      clear hW0 hA0 r0 hwc0 hG hB hlt hk
      go_loopw [7] (fun iv wi => ∃ i : Nat, i ≤ P ∧ iv = .int .i64 i ∧ (∃ u, RowAt wi G 24 [.int .i64 (P : Int), u] ∧ wi.ownsRow W0.heap.size 3 1 u (anyTo bs i).length ((anyTo bs i).map (Value.int .i64))) ∧ RowAt wi w.heap.size 24 [.int .i64 0, .slice none 0 0] ∧ W0.heap.size ≤ wi.heap.size ∧ Below w.heap.size w wi) (fun i _ => P - (intOf i).toNat)
      case atStart => exact ⟨0, Nat.zero_le _, rfl, ⟨_, p1, World.ownsRow_nil _ _ _ _⟩, p0, Nat.le_refl _, hB0⟩
      case round =>
        obtain ⟨i, hip, rfl, ⟨u, q1, hown⟩, q0, hsz, hB⟩ := hrel
        obtain ⟨wo, hwo⟩ : ∃ wo, wo = wr := ⟨_, rfl⟩
        subst hwo
        obtain ⟨c10, c11⟩ := q1.two
        clear p0 p1 hB0
        by_cases hlt : i < P
        · go_wp2_with fail
          go_loopw [8, 9] (fun bv kv wi => ∃ k : Nat, k ≤ bs.length ∧ kv = .int .i64 k ∧ bv = .bool (inAny (bs.take k) (i : Int)) ∧ Below wo.heap.size wo wi) (fun _ kv _ => bs.length - (intOf kv).toNat)
          case atStart => exact ⟨0, Nat.zero_le _, rfl, by simp [inAny], Below.refl _ _⟩
          case round =>
            obtain ⟨k, hk1, rfl, rfl, hbw⟩ := hrel
            have hBw := hB.trans (hbw.mono hB.size)
            by_cases hk3 : k < bs.length
            · obtain ⟨ad', u', had, -, hd0, hd1, hu⟩ := HM.out.at_ hk3
              injection had with had
              subst had
              have h9k := h9m _ (List.getElem_mem hk3)
              have HS := Lib.hid (inAny_step bs k (i : Int) hk3)
              generalize hb0 : bs[k] = bk at *
              clear hb0
              obtain ⟨nk, onk⟩ := bk
              obtain ⟨Au, cu, rfl, hcu⟩ := hu.form
              simp only at hd0 hd1 hu h9k hcu HS
              have zk0 : wr.cell? (ad.add (k * 2)) = some (.int .i64 nk) := (hBw.cell (by rw [add_block]; exact hbl)).trans hd0
              have zk1 : wr.cell? ⟨(ad.add (k * 2)).block, (ad.add (k * 2)).off + 1, none⟩ = some (.slice Au onk.length cu) := (hBw.cell (p := ⟨(ad.add (k * 2)).block, (ad.add (k * 2)).off + 1, none⟩) (by show (ad.add (k * 2)).block < _; rw [add_block]; exact hbl)).trans hd1
              have HON := ron_any _ nk onk (i : Int) wr ⟨_, rfl, hu.on hBw⟩ h9k
              clear hd0 hd1
              generalize decide ((i : Int) ∈ onk) = t2 at *
              generalize inAny (bs.take k) (i : Int) = t1 at *
              go_wp2_with fail
              with_reducible refine HON.mono ?_
              rintro e w2 ⟨rfl, hb2⟩
              clear HON zk0 zk1
              cases t1
              all_goals
                go_wp2_with fail
                go_roundw
                case rel => exact ⟨k + 1, by omega, by go_num, by rw [HS.out]; simp, hbw.trans (hb2.mono hbw.size)⟩
                case measure => simp [intOf]; omega
            · obtain rfl : k = bs.length := by omega
              rw [List.take_length]
              have q1' := q1.on hbw
              have q0' := q0.on hbw
              have hown' := owns_below hown hbw
              obtain ⟨d10, d11⟩ := q1'.two
              have hsz' : W0.heap.size ≤ wr.heap.size := Nat.le_trans hsz hbw.size
              have hlen := HLn.out i
              have HON := Lib.hid (@anyTo_on bs i)
              have HOFF := Lib.hid (@anyTo_off bs i)
              generalize inAny bs (i : Int) = t at *
              clear q1 q0 hown hB hbw c10 c11
              cases t
              · go_wp2_with fail
                go_roundw
                case rel =>
                  refine ⟨i + 1, by omega, by go_num, ⟨u, q1', ?_⟩, q0', hsz', hBw⟩
                  rw [HOFF.out (by trivial)]; exact hown'
                case measure => simp [intOf]; omega
              · go_wp2_with (at_builtin; refine wpList_append_own _ rfl _ _ 22 rfl W0.heap.size 3 i0 (.int .i64 0) 1 8 Try.underlying22 hi hz0 hz1 hz2 rfl (by decide) _ _ _ rfl (hown'.alloc _) ⟨wr.heap.size, 0, none⟩ 1 1 [.int .i64 (i : Int)] rfl rfl (cell_one_new _ _ _) (by simp [Value.oneCell']) (by have : maxLen = 9223372036854775807 := rfl; omega) (by omega) (by simp; omega) ?_; intro v' w1 hown2 hgrow _; obtain ⟨g', cap', rfl⟩ := ownsRow_succ hown2; have d3 := rowAt_append hown' hgrow q1' (by omega); have d31 := d3.cell 1; have d30 := d3.frozen 1; simp only [List.getElem?_cons_zero, List.getElem?_cons_succ] at d31)
                have hgrow' : (wr.alloc (.cells #[.int .i64 (i : Int)] 3)).grownBy w1 u.ownBlock := hgrow
                go_roundw
                case rel =>
                  refine ⟨i + 1, by omega, by go_num, ⟨_, d3.set 1 _, ?_⟩, (rowAt_append hown' hgrow' q0' (by omega)).far (p := ⟨G, 1, none⟩) (by show w.heap.size ≠ G; omega) _, ?_, hBw.trans (below_append hown' hgrow' (by omega) (by have := hBw.size; omega) (p := ⟨G, 1, none⟩) (by show w.heap.size ≤ G; omega) _)⟩
                  · have := ownsRow_setCell_below hown2 (a := ⟨G, 1, none⟩) (by show G < _; omega) (.slice (some ⟨g', 0, none⟩) ((anyTo bs i).length + 1) cap')
                    rw [HON.out (by trivial)]
                    simpa using this
                  · have := hgrow'.size
                    simp [World.setCell] at this ⊢
                    omega
                case measure => simp [intOf]; omega
        · obtain rfl : P = i := by omega
          obtain ⟨Au, cu, rfl⟩ : ∃ Au cu, u = .slice Au (anyTo bs P).length cu := by
            obtain ⟨Au, cu, e, _⟩ := (Elems.own (enc := Value.int .i64) (xs := anyTo bs P) hown).form
            exact ⟨Au, cu, e⟩
          have HO := Lib.hid hown
          have HQ := Lib.hid q0
          obtain ⟨c00, c01⟩ := q0.two
          have f0 := q0.frozen 0
          have f1 := q0.frozen 1
          clear hown q0
          go_wp2_with fail
          have R := (HQ.out.set 0 (.int .i64 (P : Int))).set 1 (.slice Au (anyTo bs P).length cu)
          have e0 := R.cell 0
          have e1 := R.cell 1
          simp only [List.set_cons_zero, List.set_cons_succ, List.getElem?_cons_zero, List.getElem?_cons_succ] at e0 e1
          refine bodyPost_ret (v := .tuple #[.agg #[.int .i64 (P : Int), .slice Au (anyTo bs P).length cu], .int .i64 0]) (by simp [results, Try.results16, go_sem, e0, e1]) rfl ?_
          rw [HU.out]
          refine ⟨_, rfl, ⟨_, rfl, ?_⟩, (hB.setCell (p := ⟨w.heap.size, 0, none⟩) (Nat.le_refl _) _).setCell (p := ⟨w.heap.size, 1, none⟩) (Nat.le_refl _) _⟩
          have := ownsRow_setCell_below (ownsRow_setCell_below HO.out (a := ⟨w.heap.size, 0, none⟩) (by show w.heap.size < _; omega) (.int .i64 (P : Int))) (a := ⟨w.heap.size, 1, none⟩) (by show w.heap.size < _; omega) (.slice Au (anyTo bs P).length cu)
          exact Elems.own this
end Go.Proofs.Ytpojpikndlcbkaa
