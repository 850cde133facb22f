/- The program's Encode. -/
import Derived.Test.YtjipibpcnheniaaDoorTokG
import Derived.Test.YtjipibpcnheniaaDoorTokD
import Derived.Test.YtjipibpcnheniaaDoorShelfC
namespace Go.Proofs.YtjipibpcnheniaaDoor
open Go.RowKit

theorem tBuilderAt_keep {T e : TypeId} {B b : Nat} {p : Value} {bs : List Value} {w w' : World} (h : Lib.BuilderAt T e B b p bs w) (hb : Below w.heap.size w w') : Lib.BuilderAt T e B b p bs w' := by
  have hlt := h.lt
  obtain ⟨hB, v, hh, ho, hn⟩ := h
  exact ⟨hB, v, by rw [hb.block b hlt]; exact hh, tOwns_below ho hb, hn⟩
theorem ownsRowF_keep {w w' : World} {base : Nat} {e : TypeId} {size n : Nat} {v : Value} {xs : List Value} (h : w.ownsRowF base e size v n xs) (hb : Below w.heap.size w w') : w'.ownsRowF base e size v n xs := by
  obtain ⟨hl, h⟩ := h
  refine ⟨hl, ?_⟩
  rcases h with h | ⟨g, cap, cur, fz, hv, hg, hh, h1⟩
  · exact .inl h
  · refine .inr ⟨g, cap, cur, fz, hv, hg, ?_, h1⟩
    rw [hb.block g ?_]; exact hh
    rcases Nat.lt_or_ge g w.heap.size with k | k
    · exact k
    · rw [Array.getElem?_eq_none k] at hh; cases hh
theorem builderAtF_keep {T e : TypeId} {B b : Nat} {p : Value} {bs : List Value} {w w' : World} (h : Lib.BuilderAtF T e B b p bs w) (hb : Below w.heap.size w w') : Lib.BuilderAtF T e B b p bs w' := by
  have hlt := h.lt
  obtain ⟨hB, v, hh, ho, hn⟩ := h
  exact ⟨hB, v, by rw [hb.block b hlt]; exact hh, ownsRowF_keep ho hb, hn⟩
theorem usedF {T e : TypeId} {B b : Nat} {bs : List Value} {w : World} (h : Lib.BuilderAtF T e B b (.pointer (some ⟨b, 0, none⟩)) bs w) : Lib.IsBuilderF T e B b bs w := Or.inr h
theorem RowAt.others {w w' : World} {e t : TypeId} {g b : Nat} {l : List Value} (h : RowAt w g t l) (hk : Lib.OthersKept e (some b) w w') (hgb : g ≠ b) (hte : t ≠ e) : RowAt w' g t l :=
  hk g _ h (by intro e; injection e with e; exact hgb e) (by intro c fz e; injection e with _ e _; exact hte e)
theorem byteCells_snoc (l : List UInt8) (m n : List UInt8) : Lib.byteCells l ++ Lib.strCells ⟨m.toArray⟩ ++ Lib.strCells ⟨n.toArray⟩ = Lib.byteCells (l ++ m ++ n) := by
  rw [Lib.strCells_eq, Lib.strCells_eq, ← Lib.byteCells_append, ← Lib.byteCells_append]
theorem Put8 (m : Nat) (w : World) : Calls Tryd.prog 55 #[.int .u64 m, .int .i64 8] w fun e w' => e = .returned (.string ⟨(leBytes m 8).toArray⟩) ∧ Below w.heap.size w w' := Put_yes m 8 w (by decide) (by decide)
theorem encB_snoc (f : Bool) (l : List Pr) (k : Nat) (hk : k < l.length) : encB f (l.take (k + 1)) = encB f (l.take k) ++ leBytes (l[k]).1 8 ++ leBytes (l[k]).2 8 := by
  unfold encB
  rw [List.take_succ_eq_append_getElem hk, List.flatMap_append]
  simp [pairBytes]

set_option maxHeartbeats 2000000 in
theorem Encode_any (x : Value) (f : Bool) (l : List Pr) (w : World) (hx : Tk w x f l) (h9 : l.length ≤ maxLen) :
    Calls Tryd.prog 46 #[x] w fun e w' => e = .returned (.tuple #[.string ⟨(encT f l).1.toArray⟩, .int .i64 (encT f l).2]) ∧ Below w.heap.size w w' := by
  obtain ⟨A, c, rfl, hc, hv⟩ := hx.form
  obtain ⟨w0, hw0⟩ : ∃ w0, w0 = w.alloc (.cells #[.bool f, .slice A l.length c] 28) := ⟨_, rfl⟩
  have b0 : Below w.heap.size w w0 := by rw [hw0]; exact boxed _ _ _
  have r0 : RowAt w0 w.heap.size 28 [.bool f, .slice A l.length c] := by rw [hw0]; exact RowAt.new w 28 #[.bool f, .slice A l.length c]
  have cR := tRight_any _ f l w0 (hx.on b0) h9
  have hv0 := hv.on b0
  have HW := Lib.hid hw0
  clear hw0 hx hv
  unfold encT
  cases hr : rightT l
  · rw [hr] at cR
    clear hr
    go_enter Tryd.func46, Tryd.ntmps46
    go_wp2_with fail
    rw [← HW.out]
    with_reducible refine cR.mono ?_
    rintro e w1 ⟨rfl, hb1⟩
    have hw1 := bstep b0 hb1 b0.size
    clear cR
    go_wp2_with fail
    go_ret2
    exact ⟨rfl, hw1⟩
  · rw [hr] at cR
    have hl := right_len hr
    clear hr
    go_enter Tryd.func46, Tryd.ntmps46
    go_wp2_with fail
    rw [← HW.out]
    with_reducible refine cR.mono ?_
    rintro e w1 ⟨rfl, hb1⟩
    have hw1 := bstep b0 hb1 b0.size
    have r1 := r0.on hb1
    have hv1 := hv0.on hb1
    clear cR r0 hv0 hb1
    obtain ⟨w2, hw2⟩ : ∃ w2, w2 = w1.alloc (.cells #[.pointer none, .slice none 0 0] 96) := ⟨_, rfl⟩
    have hb2 : Below w1.heap.size w1 w2 := by rw [hw2]; exact (Below.refl _ _).alloc (Nat.le_refl _) _
    have hbk : RowAt w2 w1.heap.size 96 [.pointer none, .slice none 0 0] := by rw [hw2]; exact RowAt.new w1 96 #[.pointer none, .slice none 0 0]
    obtain ⟨u0, u1⟩ := r1.two
    have x0 := cellA u0 (.cells #[.pointer none, .slice none 0 0] 96)
    have x1 := cellA u1 (.cells #[.pointer none, .slice none 0 0] 96)
    clear u0 u1
    have HW2 := Lib.hid hw2
    have cG := Tryd.Builder_Grow w1.heap.size w1.heap.size (1 + 16 * l.length) w2 (Nat.le_refl _) hbk hb2.size (by omega)
    rw [show ((1 + 16 * l.length : Nat) : Int) = 1 + 16 * (l.length : Int) by omega] at cG
    clear hw2
    go_wp2_with fail
    rw [← HW2.out]
    with_reducible refine cG.mono ?_
    rintro e w3 ⟨rfl, hB3, hb3⟩
    have hb13 := hb2.trans hb3
    have r3 := r1.on hb13
    have hx3 : Tk w3 (.agg #[.bool f, .slice A l.length c]) f l := ⟨_, rfl, hv1.on hb13⟩
    have cF := firstByte_any _ f l w3 hx3
    generalize hfc : (if f = true then (1 : Int) else 0) = fc at cF
    have HFC := Lib.hid hfc
    clear hfc
    clear cG x0 x1 hb3
    obtain ⟨x0, x1⟩ := r3.two
    go_wp2_with fail
    with_reducible refine cF.mono ?_
    rintro e w4 ⟨rfl, hb4⟩
    have hb14 := hb13.trans (hb4.mono hb13.size)
    have hB4 := tBuilderAt_keep hB3 hb4
    clear cF x0 x1 r3
    have cW := Tryd.Builder_WriteByte w1.heap.size w1.heap.size [] fc w4 (Or.inr hB4) (by simp) hb14.size
    go_wp2_with fail
    with_reducible refine cW.mono ?_
    rintro e w5 ⟨rfl, hB5, hb5⟩
    have hb15 := hb14.trans hb5
    have hBe : Lib.BuilderAtF 96 5 w1.heap.size w1.heap.size (.pointer (some ⟨w1.heap.size, 0, none⟩)) (Lib.byteCells (encB f (l.take 0))) w5 := by
      have := Lib.BuilderAtF.of hB5
      rw [← HFC.out] at this
      cases f <;> exact this
    obtain ⟨x0, x1⟩ := (r1.on hb15).two
    clear cW hB3 hB4 hB5 hb4 hb5
    go_wp2_with fail
    go_loopw [22] (fun i wr => ∃ k : Nat, k ≤ l.length ∧ i = .int .i64 k ∧ Lib.BuilderAtF 96 5 w1.heap.size w1.heap.size (.pointer (some ⟨w1.heap.size, 0, none⟩)) (Lib.byteCells (encB f (l.take k))) wr ∧ Below w1.heap.size w1 wr) (fun i _ => l.length - (intOf i).toNat)
    case atStart => exact ⟨0, Nat.zero_le _, rfl, hBe, hb15⟩
    case round =>
      obtain ⟨k, hk, rfl, hB, hb⟩ := hrel
      have hbw := bstep hw1 hb hw1.size
      clear x0 x1 hBe
      have hz := hb.size
      by_cases hlt : k < l.length
      · obtain ⟨ad, rfl, _, c1, c2⟩ := (hv1.below hb (Nat.le_refl _)).at_ hlt
        have HE := Lib.hid (encB_snoc f l k hlt)
        have hel : (Lib.byteCells (encB f (l.take k))).length ≤ 40000 := by rw [Lib.byteCells_length, encB_length, List.length_take]; omega
        have p1 := fun W => Put8 (l[k]).1 W
        have p2 := fun W => Put8 (l[k]).2 W
        generalize encB f (l.take k) = E at *
        generalize (l[k]).1 = k1 at *
        generalize (l[k]).2 = k2 at *
        obtain ⟨wa, hwa⟩ : ∃ wa, wa = wr.alloc (.cells #[.int .u64 (k1 : Int), .int .u64 (k2 : Int)] 53) := ⟨_, rfl⟩
        have hba : Below wr.heap.size wr wa := by rw [hwa]; exact (Below.refl _ _).alloc (Nat.le_refl _) _
        have ra : RowAt wa wr.heap.size 53 [.int .u64 (k1 : Int), .int .u64 (k2 : Int)] := by rw [hwa]; exact RowAt.new wr 53 #[.int .u64 (k1 : Int), .int .u64 (k2 : Int)]
        have hlb : w1.heap.size < wr.heap.size := hB.lt
        have HA := Lib.hid hwa
        clear hwa
        go_wp2_with fail
        try rw [← HA.out]
        with_reducible refine (p1 _).mono ?_
        rintro e wp ⟨rfl, hbp⟩
        have rp := ra.on hbp
        have hbap := bstep hba hbp hba.size
        have hBp := builderAtF_keep hB hbap
        have hbr := bstep hb hbap hb.size
        clear p1 c1 c2 ra hbp
        obtain ⟨y0, y1⟩ := rp.two
        go_wp2_with fail
        with_reducible refine (Tryd.Builder_WriteString_k w1.heap.size w1.heap.size _ _ _ (usedF hBp) ?_ hbr.size).mono ?_
        · rw [size_le, leBytes_length]; omega
        rintro e wq ⟨rfl, hBq, hbq, hoq⟩
        have rq := rp.others hoq (by omega) (by decide)
        have hbrq := hbr.trans hbq
        clear y0 y1 hBp hB hbq hoq
        obtain ⟨y0, y1⟩ := rq.two
        go_wp2_with fail
        with_reducible refine (p2 _).mono ?_
        rintro e ws ⟨rfl, hbs⟩
        have hBs := builderAtF_keep hBq hbs
        have hbrs := hbrq.trans (hbs.mono hbrq.size)
        clear p2 y0 y1 rq hBq
        go_wp2_with fail
        with_reducible refine (Tryd.Builder_WriteString_k w1.heap.size w1.heap.size _ _ _ (usedF hBs) ?_ hbrs.size).mono ?_
        · rw [List.length_append, Lib.strCells_eq, size_le, leBytes_length]
          have h7 : (Lib.byteCells (⟨(leBytes k1 8).toArray⟩ : ByteArray).data.toList).length = 8 := by rw [Lib.byteCells_length]; exact leBytes_length 8 k1
          omega
        rintro e wt ⟨rfl, hBt, hbt, hot⟩
        have hBn : Lib.BuilderAtF 96 5 w1.heap.size w1.heap.size (.pointer (some ⟨w1.heap.size, 0, none⟩)) (Lib.byteCells (encB f (l.take (k + 1)))) wt := by
          rw [HE.out, ← byteCells_snoc]; exact hBt
        have hbn := hbrs.trans hbt
        clear hBs hBt hbt hot
        go_wp2_with fail
        go_roundw
        case rel => exact ⟨k + 1, by omega, by go_num, hBn, hbn⟩
        case measure => simp [intOf]; omega
      · obtain rfl : l.length = k := by omega
        rw [List.take_length] at hB
        go_wp2_with fail
        with_reducible refine (Tryd.Builder_String_any_k w1.heap.size w1.heap.size _ _ (usedF hB) hz).mono ?_
        rintro e w9 ⟨rfl, _, hb9, _⟩
        have hbn := bstep hw1 (hb.trans hb9) hw1.size
        clear hB hb9 hb
        go_wp2_with fail
        go_ret2
        exact ⟨rfl, hbn⟩
end Go.Proofs.YtjipibpcnheniaaDoor
