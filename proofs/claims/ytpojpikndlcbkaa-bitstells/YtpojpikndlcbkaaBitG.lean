/- bits.Union. -/
import Derived.Test.YtpojpikndlcbkaaBitE
import Derived.Deep.RegionWith
import Derived.Deep.Cut
namespace Go.Proofs.Ytpojpikndlcbkaa
open Go.RowKit Go.Shelf

/-- The slice value v reads as the bits bs. -/
def BtRow (w : World) (v : Value) (bs : List (Int × List Int)) : Prop :=
  ∃ A c, v = .slice A bs.length c ∧ bs.length ≤ c ∧ (0 < bs.length → ∃ ad : Addr, A = some ad ∧ ad.block < w.heap.size ∧ ∀ j b, bs[j]? = some b → ∃ u, w.cell? (ad.add (j * 2)) = some (.int .i64 b.1) ∧ w.cell? (ad.add (j * 2 + 1)) = some u ∧ Ints w w.heap.size u b.2)
theorem BtRow.on {w w' : World} {v : Value} {bs : List (Int × List Int)} (h : BtRow w v bs) (hb : Below w.heap.size w w') : BtRow w' v bs := by
  obtain ⟨A, c, hv, hc, ha⟩ := h
  refine ⟨A, c, hv, hc, fun h0 => ?_⟩
  obtain ⟨ad, e, hb1, hcell⟩ := ha h0
  refine ⟨ad, e, Nat.lt_of_lt_of_le hb1 hb.size, fun j b hj => ?_⟩
  obtain ⟨u, h1, h2, h3⟩ := hcell j b hj
  exact ⟨u, (hb.cell (by rw [add_block]; exact hb1)).trans h1, (hb.cell (by rw [add_block]; exact hb1)).trans h2, h3.on hb⟩
theorem BtRow.form {w : World} {v : Value} {bs : List (Int × List Int)} (h : BtRow w v bs) : ∃ A c, v = .slice A bs.length c ∧ bs.length ≤ c := by
  obtain ⟨A, c, hv, hc, _⟩ := h
  exact ⟨A, c, hv, hc⟩
theorem BtRow.at_ {w : World} {A : Option Addr} {n c k : Nat} {bs : List (Int × List Int)} (h : BtRow w (.slice A n c) bs) (hk : k < bs.length) :
    ∃ (ad : Addr) (u : Value), A = some ad ∧ ad.block < w.heap.size ∧ w.cell? (ad.add (k * 2)) = some (.int .i64 bs[k].1) ∧ w.cell? ⟨(ad.add (k * 2)).block, (ad.add (k * 2)).off + 1, none⟩ = some u ∧ Ints w w.heap.size u bs[k].2 := by
  obtain ⟨A', c', hv, _, ha⟩ := h
  injection hv with h1 h2 h3
  subst h1
  obtain ⟨ad, e, hb, hc⟩ := ha (by omega)
  obtain ⟨u, c1, c2, c3⟩ := hc k _ (List.getElem?_eq_getElem hk)
  rw [← add_add] at c2
  exact ⟨ad, u, e, hb, c1, c2, c3⟩
theorem BtRow.nil (w : World) : BtRow w (.slice none 0 0) [] := ⟨none, 0, rfl, Nat.le_refl _, fun h => absurd h (by simp)⟩

def likeB (n : Int) (b : Int × List Int) : Bool := rightB b.1 b.2 && decide (b.1 = n)
/-- What Union answers. -/
def unionOf (n : Int) (on : List Int) (more : List (Int × List Int)) : Int × List Int × Int :=
  if rightB n on && more.all (likeB n) then (n, onsOf (putBits (vecOf n on) (more.flatMap (·.2))), 0) else (0, [], 1)

theorem unionOf_no (n : Int) (on : List Int) (more : List (Int × List Int)) : (∃ b ∈ more, likeB n b = false) → unionOf n on more = (0, [], 1) := by
  rintro ⟨b, hb, h⟩
  unfold unionOf
  rw [if_neg]
  simp only [Bool.and_eq_true, List.all_eq_true, not_and, Classical.not_forall]
  exact fun _ => ⟨b, hb, by simp [h]⟩
theorem unionOf_yes (n : Int) (on : List Int) (more : List (Int × List Int)) (hr : rightB n on = true) : (∀ b ∈ more, likeB n b = true) → unionOf n on more = (n, onsOf (putBits (vecOf n on) (more.flatMap (·.2))), 0) := by
  intro h
  unfold unionOf
  rw [if_pos]
  simp only [Bool.and_eq_true, List.all_eq_true]
  exact ⟨hr, h⟩

set_option maxHeartbeats 1000000 in
theorem Union_no (x : Value) (n : Int) (on : List Int) (v : Value) (w : World) (hx : Bt w x n on) (h9 : on.length ≤ maxLen) (hr : rightB n on = false) :
    Calls Try.prog 15 #[x, v] w fun e w' => e = .returned (.tuple #[.agg #[.int .i64 0, .slice none 0 0], .int .i64 1]) ∧ Below w.heap.size w w' := by
  obtain ⟨A, c, rfl, hc, hv⟩ := hx.form
  have hx1 := (hx.alloc (.cells #[.int .i64 n, .slice A on.length c] 24)).alloc (.cells #[.int .i64 0, .slice none 0 0] 24)
  go_enter Try.func15, Try.ntmps15
  go_wp2_with fail
  with_reducible refine (Right_any _ _ _ _ hx1 h9).mono ?_
  rintro e w1 ⟨rfl, hb1⟩
  rw [hr]
  have hw1 : Below w.heap.size w w1 := (((Below.refl _ w).alloc (Nat.le_refl _) _).alloc (by simp) _).trans (hb1.mono (by simp; omega))
  have r1 : RowAt w1 (w.heap.size + 1) 24 [.int .i64 0, .slice none 0 0] := by
    have := (RowAt.new (w.alloc (.cells #[.int .i64 n, .slice A on.length c] 24)) 24 #[.int .i64 0, .slice none 0 0]).below hb1 (by simp)
    rw [World.size_alloc] at this
    exact this
  have c0 := r1.cell 0
  have c1 := r1.cell 1
  have f0 := r1.frozen 0
  have f1 := r1.frozen 1
  have R := (r1.set 0 (.int .i64 0)).set 1 (.slice none 0 0)
  have e0 := R.cell 0
  have e1 := R.cell 1
  simp only [List.set_cons_zero, List.set_cons_succ, List.getElem?_cons_zero, List.getElem?_cons_succ] at e0 e1 c0 c1
  go_wp2_with fail
  refine bodyPost_ret (v := .tuple #[.agg #[.int .i64 0, .slice none 0 0], .int .i64 1]) (by simp [results, Try.results15, go_sem, e0, e1]) rfl ?_
  exact ⟨rfl, (hw1.setCell (p := ⟨w.heap.size + 1, 0, none⟩) (by simp) _).setCell (p := ⟨w.heap.size + 1, 1, none⟩) (by simp) _⟩

set_option maxHeartbeats 1000000 in
theorem Union_yes (x : Value) (n : Int) (on : List Int) (v : Value) (more : List (Int × List Int)) (w : World) (hx : Bt w x n on) (hm : BtRow w v more) (h9 : on.length ≤ maxLen) (h9m : ∀ b ∈ more, b.2.length ≤ maxLen) (hml : more.length ≤ maxLen) (hr : rightB n on = true) :
    Calls Try.prog 15 #[x, v] w fun e w' => ∃ y, e = .returned (.tuple #[y, .int .i64 (unionOf n on more).2.2]) ∧ Bt w' y (unionOf n on more).1 (unionOf n on more).2.1 ∧ Below w.heap.size w w' := by
  obtain ⟨m, rfl, hm8, hon⟩ := right_nat hr
  obtain ⟨A, c, rfl, hc, hv⟩ := hx.form
  obtain ⟨A', c', rfl, hc'⟩ := hm.form
  have hml' : more.length ≤ 9223372036854775807 := hml
  have hx1 := (hx.alloc (.cells #[.int .i64 (m : Int), .slice A on.length c] 24)).alloc (.cells #[.int .i64 0, .slice none 0 0] 24)
  obtain ⟨M, hM, hmk⟩ := make_bytes (((m + 7) / 8 : Nat) : Int) ((m + 7) / 8) rfl (by omega)
  have hk : ∀ x ∈ on, 0 ≤ x ∧ x.toNat / 8 < (m + 7) / 8 := fun x hx => ⟨(hon x hx).1, by have := hon x hx; omega⟩
  have hkm : ∀ b : Int × List Int, likeB m b = true → ∀ x ∈ b.2, 0 ≤ x ∧ x.toNat / 8 < (m + 7) / 8 := by
    intro b hb x hx
    simp only [likeB, Bool.and_eq_true, decide_eq_true_eq] at hb
    have := ((rightB_iff _ _).1 hb.1).2.2 x hx
    omega
  have hsm : (m + 7) / 8 ≤ 300 := by omega
  have VB := fun W => vectorBytes_any m W hm8
  have HV : Hid (vecOf (m : Int) on = putBits (List.replicate ((m + 7) / 8) 0) on) := by simp [vecOf, Hid]
  clear hon
  generalize (m + 7) / 8 = q at *
  go_enter Try.func15, Try.ntmps15
  go_wp2_with fail
  with_reducible refine (Right_any _ _ _ _ hx1 h9).mono ?_
  rintro e w1 ⟨rfl, hb1⟩
  rw [hr]
  have hw1 : Below w.heap.size w w1 := (((Below.refl _ w).alloc (Nat.le_refl _) _).alloc (by simp) _).trans (hb1.mono (by simp; omega))
  have r0 : RowAt w1 w.heap.size 24 [.int .i64 (m : Int), .slice A on.length c] := ((RowAt.new w 24 #[.int .i64 (m : Int), .slice A on.length c]).alloc _).below hb1 (by simp; omega)
  have r1 : RowAt w1 (w.heap.size + 1) 24 [.int .i64 0, .slice none 0 0] := by
    have := (RowAt.new (w.alloc (.cells #[.int .i64 (m : Int), .slice A on.length c] 24)) 24 #[.int .i64 0, .slice none 0 0]).below hb1 (by simp)
    rw [World.size_alloc] at this
    exact this
  have hs1 : w.heap.size + 2 ≤ w1.heap.size := by have := hb1.size; simp at this; omega
  have c00 := r0.cell 0
  have c01 := r0.cell 1
  simp only [List.getElem?_cons_zero, List.getElem?_cons_succ] at c00 c01
  have c01A := cellA c01 (.cells M 5)
  clear hb1 hx1
  go_wp2_with fail
  with_reducible refine (VB _).mono ?_
  rintro e w1' ⟨rfl, rfl⟩
  go_wp2_with fail
  have hrow := RowAt.new w1 5 M
  rw [hM] at hrow
  with_reducible refine (mark_len q w1.heap.size q _ on _ _ (by simp) hrow ((hv.on hw1).alloc _) (fun h0 => hv.apart h0 hw1.size) h9 (by omega) hk).mono ?_
  rintro e w2 ⟨rfl, hrow2, hbut2⟩
  have hw2 : Below w.heap.size w w2 := But.below (hw1.alloc hw1.size _) hbut2 hw1.size (by have := hw1.size; simp; omega)
  have s0 := hbut2.rowAt (r0.alloc _) (by omega)
  have s1 := hbut2.rowAt (r1.alloc _) (by omega)
  have hs2 : w1.heap.size + 1 ≤ w2.heap.size := by have := hbut2.size; simpa using this
  generalize hg : w1.heap.size = g at *
  clear hg hbut2 hrow hmk VB r0 r1 c00 c01 c01A hw1
  go_wp2_with fail
  have HN := Lib.hid (unionOf_no (m : Int) on more)
  have HY := Lib.hid (unionOf_yes (m : Int) on more hr)
  go_loopw [23] (fun i wr => ∃ k : Nat, k ≤ more.length ∧ i = .int .i64 k ∧ RowAt wr g 5 (byteVals (putBits (List.replicate q 0) (on ++ (more.take k).flatMap (·.2)))) ∧ (RowAt wr w.heap.size 24 [.int .i64 (m : Int), .slice A on.length c] ∧ RowAt wr (w.heap.size + 1) 24 [.int .i64 0, .slice none 0 0]) ∧ (∀ b ∈ more.take k, likeB (m : Int) b = true) ∧ Below w.heap.size w wr) (fun i _ => more.length - (intOf i).toNat)
  case atStart => exact ⟨0, Nat.zero_le _, rfl, by simpa using hrow2, ⟨s0, s1⟩, by simp, hw2⟩
  case round =>
    obtain ⟨k, hk1, rfl, hrw, ⟨t0, t1⟩, hall, hb⟩ := hrel
    clear hrow2 s0 s1 hw2
    by_cases hlt : k < more.length
    · obtain ⟨ad, u, rfl, hbl, hd0, hd1, hu⟩ := hm.at_ hlt
      replace hd0 := (hb.cell (by rw [add_block]; exact hbl)).trans hd0
      replace hd1 := (hb.cell (p := ⟨(ad.add (k * 2)).block, (ad.add (k * 2)).off + 1, none⟩) (by show (ad.add (k * 2)).block < _; rw [add_block]; exact hbl)).trans hd1
      have HT := Lib.hid (show more.take (k + 1) = more.take k ++ [more[k]] from List.take_succ_eq_append_getElem hlt)
      have h9k := h9m _ (List.getElem_mem hlt)
      have HI := Lib.hid (List.getElem_mem hlt)
      generalize hb0 : more[k] = bk at *
      clear hb0
      obtain ⟨nk, onk⟩ := bk
      obtain ⟨Au, cu, rfl, hcu⟩ := hu.form
      simp only at hd0 hd1 hu h9k hcu
      have hap := fun h0 => hu.apart h0 (show w.heap.size ≤ g by omega)
      replace hu := hu.on hb
      have hx3 : Bt wr (.agg #[.int .i64 nk, .slice Au onk.length cu]) nk onk := ⟨_, rfl, hu⟩
      have hx4 := hx3.alloc (.cells #[.int .i64 nk, .slice Au onk.length cu] 24)
      go_wp2_with fail
      with_reducible refine (Right_any _ _ _ _ hx4 h9k).mono ?_
      rintro e w3 ⟨rfl, hb3⟩
      have hwr : Below wr.heap.size wr w3 := ((Below.refl _ wr).alloc (Nat.le_refl _) _).trans (hb3.mono (by simp))
      have hb4 : Below w.heap.size w w3 := hb.trans (hwr.mono hb.size)
      have rb : RowAt w3 wr.heap.size 24 [.int .i64 nk, .slice Au onk.length cu] := (RowAt.new wr 24 #[.int .i64 nk, .slice Au onk.length cu]).below hb3 (by simp)
      have t0' := t0.below hwr t0.lt
      have t1' := t1.below hwr t1.lt
      have hrw' := hrw.below hwr hrw.lt
      have hux := hu.on hwr
      have hgl := hrw.lt
      have x00 := t0'.cell 0
      have x10 := t1'.cell 0
      have x11 := t1'.cell 1
      have xb0 := rb.cell 0
      have xb1 := rb.cell 1
      simp only [List.getElem?_cons_zero, List.getElem?_cons_succ] at x00 x10 x11 xb0 xb1
      have f10 := t1'.frozen 0
      have f11 := t1'.frozen 1
      have R := (t1'.set 0 (.int .i64 0)).set 1 (.slice none 0 0)
      have e0 := R.cell 0
      have e1 := R.cell 1
      simp only [List.set_cons_zero, List.set_cons_succ, List.getElem?_cons_zero, List.getElem?_cons_succ] at e0 e1
      have E0 := Lib.hid e0
      have E1 := Lib.hid e1
      clear hd0 hd1 hx3 hx4 t0 t1 hrw hu hb3 R e0 e1
      cases hrk : rightB nk onk
      · go_wp2_with fail
        have e0 := E0.out
        have e1 := E1.out
        refine bodyPost_ret (v := .tuple #[.agg #[.int .i64 0, .slice none 0 0], .int .i64 1]) (by simp [results, Try.results15, go_sem, e0, e1]) rfl ?_
        rw [HN.out ⟨_, HI.out, by simp [likeB, hrk]⟩]
        exact ⟨_, rfl, ⟨_, rfl, Elems.nil _ _ _⟩, (hb4.setCell (p := ⟨w.heap.size + 1, 0, none⟩) (by simp) _).setCell (p := ⟨w.heap.size + 1, 1, none⟩) (by simp) _⟩
      · by_cases hnk : nk = (m : Int)
        · subst hnk
          go_wp2_with fail
          have hlk : likeB (m : Int) ((m : Int), onk) = true := by simp [likeB, hrk]
          with_reducible refine (mark_len q g q _ onk _ _ (by rw [putBits_length, List.length_replicate]) hrw' hux hap h9k (by omega) (hkm _ hlk)).mono ?_
          rintro e w4 ⟨rfl, hrw4, hbut4⟩
          go_wp2_with fail
          go_roundw
          case rel =>
            refine ⟨k + 1, by omega, by go_num, ?_, ⟨hbut4.rowAt t0' (by omega), hbut4.rowAt t1' (by omega)⟩, ?_, But.below hb4 hbut4 (by omega) hb4.size⟩
            · rw [HT.out, List.flatMap_append, ← List.append_assoc, putBits_append]
              simpa using hrw4
            · rw [HT.out]
              intro b hb
              simp only [List.mem_append, List.mem_singleton] at hb
              rcases hb with hb | rfl
              · exact hall b hb
              · exact hlk
          case measure => simp [intOf]; omega
        · have hnk' : (nk != (m : Int)) = true := by simpa using hnk
          go_wp2_with fail
          have e0 := E0.out
          have e1 := E1.out
          refine bodyPost_ret (v := .tuple #[.agg #[.int .i64 0, .slice none 0 0], .int .i64 1]) (by simp [results, Try.results15, go_sem, e0, e1]) rfl ?_
          rw [HN.out ⟨_, HI.out, by simp [likeB, hnk]⟩]
          exact ⟨_, rfl, ⟨_, rfl, Elems.nil _ _ _⟩, (hb4.setCell (p := ⟨w.heap.size + 1, 0, none⟩) (by simp) _).setCell (p := ⟨w.heap.size + 1, 1, none⟩) (by simp) _⟩
    · obtain rfl : k = more.length := by omega
      rw [List.take_length] at hrw hall
      have HF := Lib.hid (HY.out hall)
      have HV2 := HV.out
      have hbl : (putBits (List.replicate q 0) (on ++ more.flatMap (·.2))).length = q := by rw [putBits_length, List.length_replicate]
      have HP : Hid (putBits (vecOf (m : Int) on) (more.flatMap (·.2)) = putBits (List.replicate q 0) (on ++ more.flatMap (·.2))) := by rw [HV2, ← putBits_append]; rfl
      generalize putBits (List.replicate q 0) (on ++ more.flatMap (·.2)) = bs at *
      subst hbl
      have hel : Elems enc8 wr wr.heap.size (.slice (some ⟨g, 0, none⟩) bs.length bs.length) bs := Elems.row hrw
      have x00 := t0.cell 0
      simp only [List.getElem?_cons_zero, List.getElem?_cons_succ] at x00
      have hgl := hrw.lt
      clear HN HY hall hM hk hkm HV HV2 hx hm
      have hbA := hb.alloc hb.size (.cells #[.slice (some ⟨g, 0, none⟩) bs.length bs.length] 42)
      have HC : ∀ W : World, W.heap = (wr.alloc (.cells #[.slice (some ⟨g, 0, none⟩) bs.length bs.length] 42)).heap → Below w.heap.size w W →
          Calls Try.prog 33 #[.func (.func 42) #[] #[.pointer (some ⟨wr.heap.size, 0, none⟩)]] W fun e w' => ∃ Av cv, e = .returned (.slice Av (onsOf bs).length cv) ∧
            (w'.cell? ⟨w.heap.size, 0, none⟩ = some (.int .i64 (m : Int)) ∧ w'.cell? ⟨w.heap.size + 1, 0, none⟩ = some (.int .i64 0) ∧ w'.cell? ⟨w.heap.size + 1, 1, none⟩ = some (.slice none 0 0) ∧ w'.frozen? ⟨w.heap.size + 1, 0, none⟩ = false ∧ w'.frozen? ⟨w.heap.size + 1, 1, none⟩ = false) ∧
            Hid (RowAt w' (w.heap.size + 1) 24 [.int .i64 0, .slice none 0 0] ∧ Below w.heap.size w w' ∧ Ints w' w'.heap.size (.slice Av (onsOf bs).length cv) (onsOf bs) ∧ FromOn wr.heap.size (.slice Av (onsOf bs).length cv)) := by
        intro W hW hBW
        have hsz : W.heap.size = wr.heap.size + 1 := by rw [hW]; simp
        have hcell : ∀ p, W.cell? p = (wr.alloc (.cells #[.slice (some ⟨g, 0, none⟩) bs.length bs.length] 42)).cell? p := fun p => World.cell?_of_block (by rw [hW])
        have helW : Elems enc8 W W.heap.size (.slice (some ⟨g, 0, none⟩) bs.length bs.length) bs := by
          have := (hel.alloc (.cells #[.slice (some ⟨g, 0, none⟩) bs.length bs.length] 42)).keep (w' := W) (fun p _ => hcell p)
          rw [hW]; exact this
        refine (Collect_marked wr.heap.size _ bs W (by omega) ((hcell _).trans (cell_new1 _ _ _)) helW (by omega)).mono ?_
        rintro e w' ⟨v, rfl, hv, hfo, hb'⟩
        obtain ⟨Av, cv, rfl, _⟩ := hv.form
        have q0 : RowAt W w.heap.size 24 [.int .i64 (m : Int), .slice A on.length c] := by unfold RowAt; rw [hW]; exact t0.alloc _
        have q1 : RowAt W (w.heap.size + 1) 24 [.int .i64 0, .slice none 0 0] := by unfold RowAt; rw [hW]; exact t1.alloc _
        have z0 := q0.below hb' q0.lt
        have z1 := q1.below hb' q1.lt
        exact ⟨Av, cv, rfl, ⟨z0.cell 0, z1.cell 0, z1.cell 1, z1.frozen 0, z1.frozen 1⟩, z1, hBW.trans (hb'.mono hBW.size), hv, hfo.less (by omega)⟩
      clear hel
      go_wp2_with fail
      go_region_with (first | (go_at_call 34; refine (marked_any _ _ _ _).mono ?_; rintro e w3 ⟨rfl, rfl⟩; have x01 := cellA x00 (.cells #[.slice (some ⟨g, 0, none⟩) bs.length bs.length] 42)) | (go_at_call 33; refine (HC _ ?_ ?_).mono ?_; rfl; exact ⟨hbA.os, hbA.tape, hbA.output, hbA.size, hbA.block⟩; rintro e w4 ⟨Av, cv, rfl, ⟨y0, y1, y2, y3, y4⟩, HH⟩))
      all_goals
        clear HC
        go_wp2_with fail
        obtain ⟨z1, hB4, hI4, hfo4⟩ := HH.out
        have R := (z1.set 0 (.int .i64 (m : Int))).set 1 (.slice Av (onsOf bs).length cv)
        have e0 := R.cell 0
        have e1 := R.cell 1
        simp only [List.set_cons_zero, List.set_cons_succ, List.getElem?_cons_zero, List.getElem?_cons_succ] at e0 e1
        refine bodyPost_ret (v := .tuple #[.agg #[.int .i64 (m : Int), .slice Av (onsOf bs).length cv], .int .i64 0]) (by simp [results, Try.results15, go_sem, e0, e1]) rfl ?_
        rw [HF.out, HP.out]
        have hne : ∀ ad' n' c', Value.slice Av (onsOf bs).length cv = .slice (some ad') n' c' → ad'.block ≠ w.heap.size + 1 := by
          intro ad' n' c' e
          have := hfo4 ad' n' c' e
          omega
        refine ⟨_, rfl, ⟨_, rfl, ?_⟩, (hB4.setCell (p := ⟨w.heap.size + 1, 0, none⟩) (by simp) _).setCell (p := ⟨w.heap.size + 1, 1, none⟩) (by simp) _⟩
        have := Elems.apart_of (Elems.apart_of hI4 hne (p := ⟨w.heap.size + 1, 0, none⟩) rfl (.int .i64 (m : Int))) hne (p := ⟨w.heap.size + 1, 1, none⟩) rfl (.slice Av (onsOf bs).length cv)
        simpa [World.setCell] using this

theorem Union_any (x : Value) (n : Int) (on : List Int) (v : Value) (more : List (Int × List Int)) (w : World) (hx : Bt w x n on) (hm : BtRow w v more) (h9 : on.length ≤ maxLen) (h9m : ∀ b ∈ more, b.2.length ≤ maxLen) (hml : more.length ≤ maxLen) :
    Calls Try.prog 15 #[x, v] w fun e w' => ∃ y, e = .returned (.tuple #[y, .int .i64 (unionOf n on more).2.2]) ∧ Bt w' y (unionOf n on more).1 (unionOf n on more).2.1 ∧ Below w.heap.size w w' := by
  cases hr : rightB n on
  · have e : unionOf n on more = (0, [], 1) := by unfold unionOf; rw [hr]; rfl
    rw [e]
    exact (Union_no x n on v w hx h9 hr).mono fun e w' ⟨he, hb⟩ => ⟨_, he, ⟨_, rfl, Elems.nil _ _ _⟩, hb⟩
  · exact Union_yes x n on v more w hx hm h9 h9m hml hr
end Go.Proofs.Ytpojpikndlcbkaa
