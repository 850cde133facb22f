/- The walk of BitsTells. -/
import Derived.Test.YtpojpikndlcbkaaRBitG
import Derived.OpenShut
import Derived.Deep.CutRange
namespace Go.Proofs.Ytpojpikndlcbkaa
open Go.RowKit Go.Shelf

theorem tells_five (w : World) (a b c d e : ByteArray) (ha : a.size ≤ 3000) (hb : b.size ≤ 1000) (hc : c.size ≤ 3000) (hd : d.size ≤ 1000) (he : e.size ≤ 3000) :
    ∃ ts : List ByteArray, Hid (ts.length = 5) ∧ Hid (∀ t ∈ ts, t.size ≤ 3000) ∧ RowAt (w.alloc (.cells #[.string a, .string b, .string c, .string d, .string e] 9)) w.heap.size 9 (ts.map Value.string) :=
  ⟨[a, b, c, d, e], rfl, by
    show ∀ t ∈ [a, b, c, d, e], t.size ≤ 3000
    intro t ht
    simp only [List.mem_cons, List.not_mem_nil, or_false] at ht
    rcases ht with rfl | rfl | rfl | rfl | rfl <;> omega, RowAt.new w _ _⟩
theorem tells_bel {v wa wb : World} (o : Obj) (h1 : Below v.drew.heap.size v.drew wa) (h2 : Below wa.heap.size wa wb) : Below v.heap.size v (wb.alloc o) := by
  have a := (Below.refl v.heap.size v).drew
  have b := a.trans (h1.mono a.size)
  have c := b.trans (h2.mono b.size)
  have d := (Below.refl wb.heap.size wb).alloc (Nat.le_refl _) o
  exact c.trans (d.mono c.size)

set_option maxHeartbeats 8000000 in
set_option maxRecDepth 100000 in
theorem btells_walk (nb : Int) (onb : List Int) (Ab : Option Addr) (cb_ : Nat) (n : Int) (raw other : List Int) (v u : Value) (s : ByteArray) (at_ : Int) (c : UInt8) (most i : Int) (w : World)
    (hb : Bt w (.agg #[.int .i64 nb, .slice Ab onb.length cb_]) nb onb) (hcb : onb.length ≤ cb_) (hcb9 : cb_ ≤ maxLen) (hv : Ints w w.heap.size v raw) (hu : Ints w w.heap.size u other) (hn : I64 n) (hr : ∀ r ∈ raw, I64 r) (ho : ∀ r ∈ other, I64 r) (hs : s.size ≤ 9223372036854775807) (hat : I64 at_) (hmost : I64 most) (hi : I64 i) :
    Calls Try.prog 3 #[.agg #[.int .i64 nb, .slice Ab onb.length cb_], .int .i64 n, v, u, .string s, .int .i64 at_, .int .u8 (c.toNat : Int), .int .i64 most, .int .i64 i] w fun e w' => e = .returned (.bool true) ∧ Below w.heap.size w w' := by
  obtain ⟨Av, cv, rfl, -⟩ := hv.form
  obtain ⟨Au, cu, rfl, -⟩ := hu.form
  have hcb9' : cb_ ≤ 9223372036854775807 := hcb9
  obtain ⟨P, hP, hP2⟩ := pick_nat n 40 (by omega)
  have rp := pickSet_right P raw (by omega)
  have rq := pickSet_right P other (by omega)
  have lp := pickSet_length P raw (by omega)
  have lq := pickSet_length P other (by omega)
  have BA := fun W (h : Ints W W.heap.size (.slice Av raw.length cv) raw) => Bits_eq n 40 raw _ W P hP h hn hr (by omega) (by omega)
  have BB := fun W (h : Ints W W.heap.size (.slice Au other.length cu) other) => Bits_eq n 40 other _ W P hP h hn ho (by omega) (by omega)
  clear hP
  generalize pickSet P raw = a at *
  generalize pickSet P other = b at *
  have la9 := small_len (l := a) (by omega)
  have lb9 := small_len (l := b) (by omega)
  have hi' : -9223372036854775808 ≤ i ∧ i ≤ 9223372036854775807 := hi
  have hat' : -9223372036854775808 ≤ at_ ∧ at_ ≤ 9223372036854775807 := hat
  have hmost' : -9223372036854775808 ≤ most ∧ most ≤ 9223372036854775807 := hmost
  have HP40 := fun W => pick_any i 40 W hi' (by omega) (by omega)
  have HP50 := fun W => pick_any most 50 W hmost' (by omega) (by omega)
  generalize pickOf i 40 = K40 at *
  generalize pickOf most 50 = K50 at *
  obtain ⟨S, hS⟩ : ∃ S : ByteArray, (⟨(lstOf P a).toArray⟩ : ByteArray) = S := ⟨_, rfl⟩
  obtain ⟨V, hV⟩ : ∃ V : ByteArray, (⟨(vctOf P a).toArray⟩ : ByteArray) = V := ⟨_, rfl⟩
  have HsS : Hid (S.size ≤ 1000) := by show S.size ≤ 1000; rw [← hS, mk_size, lstOf, if_pos rp, listOf_length]; omega
  have HsV : Hid (V.size ≤ 1000) := by show V.size ≤ 1000; rw [← hV, mk_size, vctOf, if_pos rp, vecOf_length]; omega
  have HhS := Lib.hid hS
  have HhV := Lib.hid hV
  have HhE : Hid (argErr (rightB P a) = 0) := by simp [argErr, rp, Hid]
  clear hS hV rp rq
  go_enter Try.func3, Try.ntmps3
  have hA1 : Below (w).heap.size (w) (w.alloc (.cells #[.int .i64 nb, .slice Ab onb.length cb_] 24)) := (Below.refl _ _).alloc (Nat.le_refl _) _
  have rb0_ := RowAt.new (w) 24 #[.int .i64 nb, .slice Ab onb.length cb_]
  replace hb := hb.on hA1
  replace hv := hv.on hA1
  replace hu := hu.on hA1
  have hw2 : Below w.heap.size w (w.alloc (.cells #[.int .i64 nb, .slice Ab onb.length cb_] 24)) := hA1
  clear hA1
  have rb0 : RowAt (w.alloc (.cells #[.int .i64 nb, .slice Ab onb.length cb_] 24)) (w.heap.size) 24 [.int .i64 nb, .slice Ab onb.length cb_] := rb0_
  clear rb0_
  obtain ⟨crb00_1, crb01_1⟩ := rb0.two
  go_wp2_with fail
  with_reducible refine (awake_any _).mono ?_
  rintro e w1 ⟨rfl, hB3⟩
  clear crb00_1 crb01_1
  replace hb := hb.on hB3
  replace hv := hv.on hB3
  replace hu := hu.on hB3
  replace rb0 := rb0.on hB3
  have hw4 : Below w.heap.size w (w1) := hw2.trans (hB3.mono hw2.size)
  clear hw2
  clear hB3
  obtain ⟨crb00_2, crb01_2⟩ := rb0.two
  have zi := cellA crb01_2 (.cells #[.int .i64 nb, .slice Ab onb.length cb_] 24)
  go_upto_region 3 with (fail)
  go_cut [] from 57 to 64 (fun wx => ∃ xs : List Int, xs.length ≤ maxLen ∧ Bt wx (.agg #[.int .i64 nb, .slice Ab xs.length cb_]) nb xs ∧ Ints wx wx.heap.size (.slice Av raw.length cv) raw ∧ Ints wx wx.heap.size (.slice Au other.length cu) other ∧ RowAt wx w1.heap.size 24 [.int .i64 nb, .slice Ab xs.length cb_] ∧ Below w.heap.size w wx)
  case first =>
    go_wp2_with fail
    case' inr =>
      have hX := hb
      have lx9 : onb.length ≤ maxLen := Nat.le_trans hcb hcb9
      clear zi
      generalize hxs : onb = xs at *
      clear hxs
    case' inl =>
      have hX : Bt w1 (.agg #[.int .i64 nb, .slice Ab (onb.take 60).length cb_]) nb (onb.take 60) := by
        have hl : (onb.take 60).length = 60 := by rw [List.length_take]; omega
        rw [hl]
        exact ⟨_, rfl, hb.ints.first 60 (by omega)⟩
      have h60 : (onb.take 60).length = 60 := by rw [List.length_take]; omega
      clear zi
      generalize onb.take 60 = xs at *
      have lx9 : xs.length ≤ maxLen := by rw [h60]; decide
      rw [← h60]
      clear h60
    all_goals
      clear hb
      have hA5 : Below (w1).heap.size (w1) (w1.alloc (.cells #[.int .i64 nb, .slice Ab xs.length cb_] 24)) := (Below.refl _ _).alloc (Nat.le_refl _) _
      have rx_ := RowAt.new (w1) 24 #[.int .i64 nb, .slice Ab xs.length cb_]
      replace hv := hv.on hA5
      replace hu := hu.on hA5
      replace hX := hX.on hA5
      replace rb0 := rb0.on hA5
      have hw6 : Below w.heap.size w (w1.alloc (.cells #[.int .i64 nb, .slice Ab xs.length cb_] 24)) := hw4.trans (hA5.mono hw4.size)
      clear hw4
      clear hA5
      obtain ⟨crb00_3, crb01_3⟩ := rb0.two
      have rx : RowAt (w1.alloc (.cells #[.int .i64 nb, .slice Ab xs.length cb_] 24)) (w1.heap.size) 24 [.int .i64 nb, .slice Ab xs.length cb_] := rx_
      clear rx_
      obtain ⟨crx0_4, crx1_4⟩ := rx.two
      go_meet
      exact ⟨xs, lx9, hX, hv, hu, rx, hw6⟩
  case rest =>
    clear hb hv hu rb0 zi crb00_2 crb01_2 hw4
    obtain ⟨wy, hwy⟩ : ∃ wy, wy = wc := ⟨_, rfl⟩
    subst hwy
    obtain ⟨xs, lx9, hX, hv, hu, rx, hB0⟩ := hcut
    obtain ⟨crx0_1, crx1_1⟩ := rx.two
    go_wp2_with fail
    with_reducible refine (BA _ hv).mono ?_
    rintro e w2 ⟨Ap, cAp, rfl, hAp, hB1⟩
    clear crx0_1 crx1_1
    replace hv := hv.on hB1
    replace hu := hu.on hB1
    replace hX := hX.on hB1
    replace rx := rx.on hB1
    have hw2 : Below w.heap.size w (w2) := hB0.trans (hB1.mono hB0.size)
    clear hB0
    clear hB1
    obtain ⟨crx0_2, crx1_2⟩ := rx.two
    have hA3 : Below (w2).heap.size (w2) (w2.alloc (.cells #[.int .i64 (P : Int), .slice Ap a.length cAp] 24)) := (Below.refl _ _).alloc (Nat.le_refl _) _
    have rp_ := RowAt.new (w2) 24 #[.int .i64 (P : Int), .slice Ap a.length cAp]
    replace hv := hv.on hA3
    replace hu := hu.on hA3
    replace hX := hX.on hA3
    replace hAp := hAp.on hA3
    replace rx := rx.on hA3
    have hw4 : Below w.heap.size w (w2.alloc (.cells #[.int .i64 (P : Int), .slice Ap a.length cAp] 24)) := hw2.trans (hA3.mono hw2.size)
    clear hw2
    clear hA3
    obtain ⟨crx0_3, crx1_3⟩ := rx.two
    have rp : RowAt (w2.alloc (.cells #[.int .i64 (P : Int), .slice Ap a.length cAp] 24)) (w2.heap.size) 24 [.int .i64 (P : Int), .slice Ap a.length cAp] := rp_
    clear rp_
    obtain ⟨crp0_4, crp1_4⟩ := rp.two
    go_wp2_with fail
    with_reducible refine (BB _ hu).mono ?_
    rintro e w3 ⟨Aq, cAq, rfl, hAq, hB5⟩
    clear crx0_2 crx1_2 crx0_3 crx1_3 crp0_4 crp1_4
    replace hv := hv.on hB5
    replace hu := hu.on hB5
    replace hX := hX.on hB5
    replace hAp := hAp.on hB5
    replace rx := rx.on hB5
    replace rp := rp.on hB5
    have hw6 : Below w.heap.size w (w3) := hw4.trans (hB5.mono hw4.size)
    clear hw4
    clear hB5
    obtain ⟨crx0_5, crx1_5⟩ := rx.two
    obtain ⟨crp0_6, crp1_6⟩ := rp.two
    have hA7 : Below (w3).heap.size (w3) (w3.alloc (.cells #[.int .i64 (P : Int), .slice Aq b.length cAq] 24)) := (Below.refl _ _).alloc (Nat.le_refl _) _
    have rq_ := RowAt.new (w3) 24 #[.int .i64 (P : Int), .slice Aq b.length cAq]
    replace hv := hv.on hA7
    replace hu := hu.on hA7
    replace hX := hX.on hA7
    replace hAp := hAp.on hA7
    replace hAq := hAq.on hA7
    replace rx := rx.on hA7
    replace rp := rp.on hA7
    have hw8 : Below w.heap.size w (w3.alloc (.cells #[.int .i64 (P : Int), .slice Aq b.length cAq] 24)) := hw6.trans (hA7.mono hw6.size)
    clear hw6
    clear hA7
    obtain ⟨crx0_7, crx1_7⟩ := rx.two
    obtain ⟨crp0_8, crp1_8⟩ := rp.two
    have rq : RowAt (w3.alloc (.cells #[.int .i64 (P : Int), .slice Aq b.length cAq] 24)) (w3.heap.size) 24 [.int .i64 (P : Int), .slice Aq b.length cAq] := rq_
    clear rq_
    obtain ⟨crq0_9, crq1_9⟩ := rq.two
    have hys := BtRow.three (n := nb) (m := (P : Int)) (l := (P : Int)) hX.ints hAp.ints hAq.ints 24 (w3.heap.size + 1) (by simp)
    have hA9 : Below (w3.alloc (.cells #[.int .i64 (P : Int), .slice Aq b.length cAq] 24)).heap.size (w3.alloc (.cells #[.int .i64 (P : Int), .slice Aq b.length cAq] 24)) ((w3.alloc (.cells #[.int .i64 (P : Int), .slice Aq b.length cAq] 24)).alloc (.cells #[.int .i64 nb, .slice Ab xs.length cb_, .int .i64 (P : Int), .slice Ap a.length cAp, .int .i64 (P : Int), .slice Aq b.length cAq] 24)) := (Below.refl _ _).alloc (Nat.le_refl _) _
    replace hv := hv.on hA9
    replace hu := hu.on hA9
    replace hX := hX.on hA9
    replace hAp := hAp.on hA9
    replace hAq := hAq.on hA9
    replace rx := rx.on hA9
    replace rp := rp.on hA9
    replace rq := rq.on hA9
    have hw10 : Below w.heap.size w ((w3.alloc (.cells #[.int .i64 (P : Int), .slice Aq b.length cAq] 24)).alloc (.cells #[.int .i64 nb, .slice Ab xs.length cb_, .int .i64 (P : Int), .slice Ap a.length cAp, .int .i64 (P : Int), .slice Aq b.length cAq] 24)) := hw8.trans (hA9.mono hw8.size)
    clear hw8
    clear hA9
    obtain ⟨crx0_10, crx1_10⟩ := rx.two
    obtain ⟨crp0_11, crp1_11⟩ := rp.two
    obtain ⟨crq0_12, crq1_12⟩ := rq.two
    obtain ⟨bs, hbs⟩ : ∃ bs, bs = [(nb, xs), ((P : Int), a), ((P : Int), b)] := ⟨_, rfl⟩
    have hbl : bs.length = 3 := by rw [hbs]; rfl
    have hb9 : ∀ (k : Nat) (x : Int × List Int), bs[k]? = some x → x.2.length ≤ maxLen := by
      intro k x hk
      have hm := List.mem_of_getElem? hk
      rw [hbs] at hm
      simp only [List.mem_cons, List.not_mem_nil, or_false] at hm
      rcases hm with rfl | rfl | rfl
      · exact lx9
      · exact la9
      · exact lb9
    have HBL := Lib.hid hbl
    rw [← hbs] at hys
    have HBS := Lib.hid hbs
    clear hbs hbl
    go_wp2_with fail
    obtain ⟨G1, hG1⟩ : ∃ G1, G1 = w3.heap.size + 1 := ⟨_, rfl⟩
    rw [← hG1] at hys ⊢
    clear hG1 crx0_5 crx1_5 crp0_6 crp1_6 crx0_7 crx1_7 crp0_8 crp1_8 crq0_9 crq1_9 crx0_10 crx1_10 crp0_11 crp1_11 crq0_12 crq1_12
    go_loopw [76] (fun jv wr => ∃ j : Nat, j ≤ 3 ∧ jv = .int .i64 j ∧ BtRow wr (.slice (some ⟨G1, 0, none⟩) 3 3) bs ∧ (Bt wr (.agg #[.int .i64 nb, .slice Ab xs.length cb_]) nb xs ∧ Bt wr (.agg #[.int .i64 (P : Int), .slice Ap a.length cAp]) P a ∧ Bt wr (.agg #[.int .i64 (P : Int), .slice Aq b.length cAq]) P b) ∧ (RowAt wr w1.heap.size 24 [.int .i64 nb, .slice Ab xs.length cb_] ∧ RowAt wr w2.heap.size 24 [.int .i64 (P : Int), .slice Ap a.length cAp] ∧ RowAt wr w3.heap.size 24 [.int .i64 (P : Int), .slice Aq b.length cAq]) ∧ Below w.heap.size w wr) (fun jv _ => 3 - (intOf jv).toNat)
    case atStart => exact ⟨0, by omega, rfl, hys, ⟨hX, hAp, hAq⟩, ⟨rx, rp, rq⟩, hw10⟩
    case round =>
      clear hys hX hAp hAq rx rp rq hw10 hv hu
      obtain ⟨j, hj, rfl, hys, ⟨hX, hAp, hAq⟩, ⟨rx, rp, rq⟩, hB⟩ := hrel
      by_cases hlt : j < 3
      · obtain ⟨ny, ony, Ay, cy, hget, z0, z1, hY⟩ := hys.pick (k := j) (by rw [HBL.out]; exact hlt)
        have ly9 := hb9 _ _ hget
        have HGY := Lib.hid hget
        clear hget
        simp only at ly9
        obtain ⟨S0, hS⟩ : ∃ S0 : ByteArray, (⟨(lstOf ny ony).toArray⟩ : ByteArray) = S0 := ⟨_, rfl⟩
        obtain ⟨V0, hV⟩ : ∃ V0 : ByteArray, (⟨(vctOf ny ony).toArray⟩ : ByteArray) = V0 := ⟨_, rfl⟩
        obtain ⟨E, hE⟩ : ∃ E : Int, argErr (rightB ny ony) = E := ⟨_, rfl⟩
        have HhS0 := Lib.hid hS
        have HhV0 := Lib.hid hV
        have HhE0 := Lib.hid hE
        clear hS hV hE
        obtain ⟨crx0_1, crx1_1⟩ := rx.two
        obtain ⟨crp0_2, crp1_2⟩ := rp.two
        obtain ⟨crq0_3, crq1_3⟩ := rq.two
        have hA1 : Below (wr).heap.size (wr) (wr.alloc (.cells #[.int .i64 ny, .slice Ay ony.length cy] 24)) := (Below.refl _ _).alloc (Nat.le_refl _) _
        have ry_ := RowAt.new (wr) 24 #[.int .i64 ny, .slice Ay ony.length cy]
        replace hys := hys.on hA1
        replace hX := hX.on hA1
        replace hAp := hAp.on hA1
        replace hAq := hAq.on hA1
        replace hY := hY.on hA1
        replace rx := rx.on hA1
        replace rp := rp.on hA1
        replace rq := rq.on hA1
        have hw2 : Below w.heap.size w (wr.alloc (.cells #[.int .i64 ny, .slice Ay ony.length cy] 24)) := hB.trans (hA1.mono hB.size)
        clear hB
        clear hA1
        obtain ⟨crx0_4, crx1_4⟩ := rx.two
        obtain ⟨crp0_5, crp1_5⟩ := rp.two
        obtain ⟨crq0_6, crq1_6⟩ := rq.two
        have ry : RowAt (wr.alloc (.cells #[.int .i64 ny, .slice Ay ony.length cy] 24)) (wr.heap.size) 24 [.int .i64 ny, .slice Ay ony.length cy] := ry_
        clear ry_
        obtain ⟨cry0_7, cry1_7⟩ := ry.two
        go_wp2_with fail
        with_reducible refine (List_eq _ ny ony _ S0 E HhS0.out HhE0.out hY ly9).mono ?_
        rintro e v1 ⟨rfl, hB3⟩
        clear crx0_1 crx1_1 crp0_2 crp1_2 crq0_3 crq1_3 crx0_4 crx1_4 crp0_5 crp1_5 crq0_6 crq1_6 cry0_7 cry1_7
        replace hys := hys.on hB3
        replace hX := hX.on hB3
        replace hAp := hAp.on hB3
        replace hAq := hAq.on hB3
        replace hY := hY.on hB3
        replace rx := rx.on hB3
        replace rp := rp.on hB3
        replace rq := rq.on hB3
        replace ry := ry.on hB3
        have hw4 : Below w.heap.size w (v1) := hw2.trans (hB3.mono hw2.size)
        clear hw2
        clear hB3
        obtain ⟨crx0_8, crx1_8⟩ := rx.two
        obtain ⟨crp0_9, crp1_9⟩ := rp.two
        obtain ⟨crq0_10, crq1_10⟩ := rq.two
        obtain ⟨cry0_11, cry1_11⟩ := ry.two
        clear z0 z1
        go_wp2_with fail
        with_reducible refine (rList_eq _ ny ony _ S0 E HhS0.out HhE0.out hY ly9).mono ?_
        rintro e v2 ⟨rfl, hB5⟩
        clear crx0_8 crx1_8 crp0_9 crp1_9 crq0_10 crq1_10 cry0_11 cry1_11
        replace hys := hys.on hB5
        replace hX := hX.on hB5
        replace hAp := hAp.on hB5
        replace hAq := hAq.on hB5
        replace hY := hY.on hB5
        replace rx := rx.on hB5
        replace rp := rp.on hB5
        replace rq := rq.on hB5
        replace ry := ry.on hB5
        have hw6 : Below w.heap.size w (v2) := hw4.trans (hB5.mono hw4.size)
        clear hw4
        clear hB5
        obtain ⟨crx0_12, crx1_12⟩ := rx.two
        obtain ⟨crp0_13, crp1_13⟩ := rp.two
        obtain ⟨crq0_14, crq1_14⟩ := rq.two
        obtain ⟨cry0_15, cry1_15⟩ := ry.two
        go_wp2_with fail
        with_reducible refine (Vector_eq _ ny ony _ V0 E HhV0.out HhE0.out hY ly9).mono ?_
        rintro e v3 ⟨rfl, hB7⟩
        clear crx0_12 crx1_12 crp0_13 crp1_13 crq0_14 crq1_14 cry0_15 cry1_15
        replace hys := hys.on hB7
        replace hX := hX.on hB7
        replace hAp := hAp.on hB7
        replace hAq := hAq.on hB7
        replace hY := hY.on hB7
        replace rx := rx.on hB7
        replace rp := rp.on hB7
        replace rq := rq.on hB7
        replace ry := ry.on hB7
        have hw8 : Below w.heap.size w (v3) := hw6.trans (hB7.mono hw6.size)
        clear hw6
        clear hB7
        obtain ⟨crx0_16, crx1_16⟩ := rx.two
        obtain ⟨crp0_17, crp1_17⟩ := rp.two
        obtain ⟨crq0_18, crq1_18⟩ := rq.two
        obtain ⟨cry0_19, cry1_19⟩ := ry.two
        go_wp2_with fail
        with_reducible refine (rVector_eq _ ny ony _ V0 E HhV0.out HhE0.out hY ly9).mono ?_
        rintro e v4 ⟨rfl, hB9⟩
        clear crx0_16 crx1_16 crp0_17 crp1_17 crq0_18 crq1_18 cry0_19 cry1_19
        replace hys := hys.on hB9
        replace hX := hX.on hB9
        replace hAp := hAp.on hB9
        replace hAq := hAq.on hB9
        replace hY := hY.on hB9
        replace rx := rx.on hB9
        replace rp := rp.on hB9
        replace rq := rq.on hB9
        replace ry := ry.on hB9
        have hw10 : Below w.heap.size w (v4) := hw8.trans (hB9.mono hw8.size)
        clear hw8
        clear hB9
        obtain ⟨crx0_20, crx1_20⟩ := rx.two
        obtain ⟨crp0_21, crp1_21⟩ := rp.two
        obtain ⟨crq0_22, crq1_22⟩ := rq.two
        obtain ⟨cry0_23, cry1_23⟩ := ry.two
        clear crx0_20 crx1_20 crp0_21 crp1_21 crq0_22 crq1_22 cry0_23 cry1_23
        have ya0 := ry.later 0 _ rfl
        have ya1 := ry.later 1 _ rfl
        obtain ⟨tR, htR⟩ : ∃ tR, rightB ny ony = tR := ⟨_, rfl⟩
        obtain ⟨h1, hh1⟩ : ∃ h1, hasOf ny ony i = h1 := ⟨_, rfl⟩
        obtain ⟨h2, hh2⟩ : ∃ h2, hasOf ny ony K40 = h2 := ⟨_, rfl⟩
        have HR1 : ∀ p : Later v4, Calls Try.prog 10 #[.agg #[.int .i64 ny, .slice Ay ony.length cy]] p.W fun e w_ => e = .returned (.bool tR) ∧ ∃ p : Later v4, w_ = p.W := fun p => later_of (by rw [← htR]; exact Right_any _ ny ony _ (hY.on p.h) ly9)
        have HR2 : ∀ p : Later v4, Calls Try.prog 11 #[.agg #[.int .i64 ny, .slice Ay ony.length cy]] p.W fun e w_ => e = .returned (.bool tR) ∧ ∃ p : Later v4, w_ = p.W := fun p => later_of (by rw [← htR]; exact rRight_any _ ny ony _ (hY.on p.h) ly9)
        have HA1 : ∀ p : Later v4, Calls Try.prog 12 #[.agg #[.int .i64 ny, .slice Ay ony.length cy], .int .i64 i] p.W fun e w_ => e = .returned (.bool h1) ∧ ∃ p : Later v4, w_ = p.W := fun p => later_of (by rw [← hh1]; exact Has_any _ ny ony i _ (hY.on p.h) ly9)
        have HA2 : ∀ p : Later v4, Calls Try.prog 13 #[.agg #[.int .i64 ny, .slice Ay ony.length cy], .int .i64 i] p.W fun e w_ => e = .returned (.bool h1) ∧ ∃ p : Later v4, w_ = p.W := fun p => later_of (by rw [← hh1]; exact rHas_any _ ny ony i _ (hY.on p.h) ly9)
        have HA3 : ∀ p : Later v4, Calls Try.prog 12 #[.agg #[.int .i64 ny, .slice Ay ony.length cy], .int .i64 K40] p.W fun e w_ => e = .returned (.bool h2) ∧ ∃ p : Later v4, w_ = p.W := fun p => later_of (by rw [← hh2]; exact Has_any _ ny ony K40 _ (hY.on p.h) ly9)
        have HA4 : ∀ p : Later v4, Calls Try.prog 13 #[.agg #[.int .i64 ny, .slice Ay ony.length cy], .int .i64 K40] p.W fun e w_ => e = .returned (.bool h2) ∧ ∃ p : Later v4, w_ = p.W := fun p => later_of (by rw [← hh2]; exact rHas_any _ ny ony K40 _ (hY.on p.h) ly9)
        clear htR hh1 hh2
        go_wp2_with fail
        refine wp_region_later (by kernel_rfl) (by kernel_rfl) ?_
        repeat (go_big_quiet_step (first | (go_at_call 10; exact HR1 _) | (go_at_call 11; exact HR2 _) | (go_at_call_of 12 (Value.int IntKind.i64 i); exact HA1 _) | (go_at_call_of 13 (Value.int IntKind.i64 i); exact HA2 _) | (go_at_call 12; exact HA3 _) | (go_at_call 13; exact HA4 _) | (go_at_call 14; exact later_same (HP40 _))))
        refine wpQuiet_nil ?_
        intro _ hw'
        obtain ⟨pq, rfl⟩ := hw'
        have hq5 := pq.h
        generalize pq.W = v5 at hq5 ⊢
        clear pq ya0 ya1 HR1 HR2 HA1 HA2 HA3 HA4
        replace hys := hys.on hq5
        replace hX := hX.on hq5
        replace hAp := hAp.on hq5
        replace hAq := hAq.on hq5
        replace hY := hY.on hq5
        replace rx := rx.on hq5
        replace rp := rp.on hq5
        replace rq := rq.on hq5
        replace ry := ry.on hq5
        have hw11 : Below w.heap.size w (v5) := hw10.trans (hq5.mono hw10.size)
        clear hw10
        clear hq5
        obtain ⟨crx0_24, crx1_24⟩ := rx.two
        obtain ⟨crp0_25, crp1_25⟩ := rp.two
        obtain ⟨crq0_26, crq1_26⟩ := rq.two
        obtain ⟨cry0_27, cry1_27⟩ := ry.two
        have hzs := BtRow.three (n := nb) (m := (P : Int)) (l := (P : Int)) hX.ints hAp.ints hAq.ints 24 (v5.heap.size) (by simp)
        rw [← HBS.out] at hzs
        have hA12 : Below (v5).heap.size (v5) (v5.alloc (.cells #[.int .i64 nb, .slice Ab xs.length cb_, .int .i64 (P : Int), .slice Ap a.length cAp, .int .i64 (P : Int), .slice Aq b.length cAq] 24)) := (Below.refl _ _).alloc (Nat.le_refl _) _
        replace hys := hys.on hA12
        replace hX := hX.on hA12
        replace hAp := hAp.on hA12
        replace hAq := hAq.on hA12
        replace hY := hY.on hA12
        replace rx := rx.on hA12
        replace rp := rp.on hA12
        replace rq := rq.on hA12
        replace ry := ry.on hA12
        have hw13 : Below w.heap.size w (v5.alloc (.cells #[.int .i64 nb, .slice Ab xs.length cb_, .int .i64 (P : Int), .slice Ap a.length cAp, .int .i64 (P : Int), .slice Aq b.length cAq] 24)) := hw11.trans (hA12.mono hw11.size)
        clear hw11
        clear hA12
        obtain ⟨crx0_28, crx1_28⟩ := rx.two
        obtain ⟨crp0_29, crp1_29⟩ := rp.two
        obtain ⟨crq0_30, crq1_30⟩ := rq.two
        obtain ⟨cry0_31, cry1_31⟩ := ry.two
        go_wp2_with fail
        obtain ⟨G2, hG2⟩ : ∃ G2, G2 = v5.heap.size := ⟨_, rfl⟩
        obtain ⟨GY, hGY⟩ : ∃ GY, GY = wr.heap.size := ⟨_, rfl⟩
        rw [← hG2] at hzs ⊢
        rw [← hGY] at ry ⊢
        clear hG2 hGY crx0_24 crx1_24 crp0_25 crp1_25 crq0_26 crq1_26 cry0_27 cry1_27 crx0_28 crx1_28 crp0_29 crp1_29 crq0_30 crq1_30 cry0_31 cry1_31
        go_loopw [150] (fun kv wr => ∃ k : Nat, k ≤ 3 ∧ kv = .int .i64 k ∧ BtRow wr (.slice (some ⟨G1, 0, none⟩) 3 3) bs ∧ (Bt wr (.agg #[.int .i64 nb, .slice Ab xs.length cb_]) nb xs ∧ Bt wr (.agg #[.int .i64 (P : Int), .slice Ap a.length cAp]) P a ∧ Bt wr (.agg #[.int .i64 (P : Int), .slice Aq b.length cAq]) P b) ∧ (RowAt wr w1.heap.size 24 [.int .i64 nb, .slice Ab xs.length cb_] ∧ RowAt wr w2.heap.size 24 [.int .i64 (P : Int), .slice Ap a.length cAp] ∧ RowAt wr w3.heap.size 24 [.int .i64 (P : Int), .slice Aq b.length cAq]) ∧ (BtRow wr (.slice (some ⟨G2, 0, none⟩) 3 3) bs ∧ Bt wr (.agg #[.int .i64 ny, .slice Ay ony.length cy]) ny ony ∧ RowAt wr GY 24 [.int .i64 ny, .slice Ay ony.length cy]) ∧ Below w.heap.size w wr) (fun kv _ => 3 - (intOf kv).toNat)
        case atStart => exact ⟨0, by omega, rfl, hys, ⟨hX, hAp, hAq⟩, ⟨rx, rp, rq⟩, ⟨hzs, hY, ry⟩, hw13⟩
        case round =>
          clear hys hX hAp hAq rx rp rq hzs hY ry hw13
          obtain ⟨k, hk, rfl, hys, ⟨hX, hAp, hAq⟩, ⟨rx, rp, rq⟩, ⟨hzs, hY, ry⟩, hB⟩ := hrel
          by_cases hlk : k < 3
          · obtain ⟨nz, onz, Az, cz, hget, z0, z1, hZ⟩ := hzs.pick (k := k) (by rw [HBL.out]; exact hlk)
            have lz9 := hb9 _ _ hget
            clear hget
            simp only at lz9
            obtain ⟨N, res, err, hun⟩ : ∃ (N : Int) (res : List Int) (err : Int), unionOf ny ony [(nz, onz), ((P : Int), a)] = (N, res, err) := ⟨_, _, _, rfl⟩
            have lr9 := unionOf_len ny ony [(nz, onz), ((P : Int), a)]
            rw [hun] at lr9
            simp only at lr9
            have HUN := Lib.hid hun
            clear hun
            have H9a : ∀ x ∈ [(nz, onz), ((P : Int), a)], x.2.length ≤ maxLen := by simp; exact ⟨lz9, la9⟩
            have H9b : ∀ x ∈ (ny, ony) :: [(nz, onz), ((P : Int), a)], x.2.length ≤ maxLen := by simp; exact ⟨ly9, lz9, la9⟩
            obtain ⟨crx0_1, crx1_1⟩ := rx.two
            obtain ⟨crp0_2, crp1_2⟩ := rp.two
            obtain ⟨crq0_3, crq1_3⟩ := rq.two
            obtain ⟨cry0_4, cry1_4⟩ := ry.two
            have hA1 : Below (wr).heap.size (wr) (wr.alloc (.cells #[.int .i64 nz, .slice Az onz.length cz] 24)) := (Below.refl _ _).alloc (Nat.le_refl _) _
            have rz_ := RowAt.new (wr) 24 #[.int .i64 nz, .slice Az onz.length cz]
            replace hys := hys.on hA1
            replace hX := hX.on hA1
            replace hAp := hAp.on hA1
            replace hAq := hAq.on hA1
            replace hY := hY.on hA1
            replace hzs := hzs.on hA1
            replace hZ := hZ.on hA1
            replace rx := rx.on hA1
            replace rp := rp.on hA1
            replace rq := rq.on hA1
            replace ry := ry.on hA1
            have hw2 : Below w.heap.size w (wr.alloc (.cells #[.int .i64 nz, .slice Az onz.length cz] 24)) := hB.trans (hA1.mono hB.size)
            clear hB
            clear hA1
            obtain ⟨crx0_5, crx1_5⟩ := rx.two
            obtain ⟨crp0_6, crp1_6⟩ := rp.two
            obtain ⟨crq0_7, crq1_7⟩ := rq.two
            obtain ⟨cry0_8, cry1_8⟩ := ry.two
            have rz : RowAt (wr.alloc (.cells #[.int .i64 nz, .slice Az onz.length cz] 24)) (wr.heap.size) 24 [.int .i64 nz, .slice Az onz.length cz] := rz_
            clear rz_
            obtain ⟨crz0_9, crz1_9⟩ := rz.two
            have hm_ := BtRow.two (n := nz) (m := (P : Int)) hZ.ints hAp.ints 24 (wr.heap.size + 1) (by simp)
            have hA3 : Below (wr.alloc (.cells #[.int .i64 nz, .slice Az onz.length cz] 24)).heap.size (wr.alloc (.cells #[.int .i64 nz, .slice Az onz.length cz] 24)) ((wr.alloc (.cells #[.int .i64 nz, .slice Az onz.length cz] 24)).alloc (.cells #[.int .i64 nz, .slice Az onz.length cz, .int .i64 (P : Int), .slice Ap a.length cAp] 24)) := (Below.refl _ _).alloc (Nat.le_refl _) _
            replace hys := hys.on hA3
            replace hX := hX.on hA3
            replace hAp := hAp.on hA3
            replace hAq := hAq.on hA3
            replace hY := hY.on hA3
            replace hzs := hzs.on hA3
            replace hZ := hZ.on hA3
            replace rx := rx.on hA3
            replace rp := rp.on hA3
            replace rq := rq.on hA3
            replace ry := ry.on hA3
            replace rz := rz.on hA3
            have hw4 : Below w.heap.size w ((wr.alloc (.cells #[.int .i64 nz, .slice Az onz.length cz] 24)).alloc (.cells #[.int .i64 nz, .slice Az onz.length cz, .int .i64 (P : Int), .slice Ap a.length cAp] 24)) := hw2.trans (hA3.mono hw2.size)
            clear hw2
            clear hA3
            obtain ⟨crx0_10, crx1_10⟩ := rx.two
            obtain ⟨crp0_11, crp1_11⟩ := rp.two
            obtain ⟨crq0_12, crq1_12⟩ := rq.two
            obtain ⟨cry0_13, cry1_13⟩ := ry.two
            obtain ⟨crz0_14, crz1_14⟩ := rz.two
            go_wp2_with fail
            with_reducible refine (Union_eq _ ny ony _ [(nz, onz), ((P : Int), a)] N err res _ HUN.out hY hm_ ly9 H9a (by simp [maxLen])).mono ?_
            rintro e u1 ⟨A1, cA1, rfl, hA1, hB5⟩
            clear crx0_1 crx1_1 crp0_2 crp1_2 crq0_3 crq1_3 cry0_4 cry1_4 crx0_5 crx1_5 crp0_6 crp1_6 crq0_7 crq1_7 cry0_8 cry1_8 crz0_9 crz1_9 crx0_10 crx1_10 crp0_11 crp1_11 crq0_12 crq1_12 cry0_13 cry1_13 crz0_14 crz1_14
            replace hys := hys.on hB5
            replace hX := hX.on hB5
            replace hAp := hAp.on hB5
            replace hAq := hAq.on hB5
            replace hY := hY.on hB5
            replace hzs := hzs.on hB5
            replace hZ := hZ.on hB5
            replace rx := rx.on hB5
            replace rp := rp.on hB5
            replace rq := rq.on hB5
            replace ry := ry.on hB5
            replace rz := rz.on hB5
            have hw6 : Below w.heap.size w (u1) := hw4.trans (hB5.mono hw4.size)
            clear hw4
            clear hB5
            obtain ⟨crx0_15, crx1_15⟩ := rx.two
            obtain ⟨crp0_16, crp1_16⟩ := rp.two
            obtain ⟨crq0_17, crq1_17⟩ := rq.two
            obtain ⟨cry0_18, cry1_18⟩ := ry.two
            obtain ⟨crz0_19, crz1_19⟩ := rz.two
            clear hm_ z0 z1
            have hA7 : Below (u1).heap.size (u1) (u1.alloc (.cells #[.int .i64 N, .slice A1 res.length cA1] 24)) := (Below.refl _ _).alloc (Nat.le_refl _) _
            have ru_ := RowAt.new (u1) 24 #[.int .i64 N, .slice A1 res.length cA1]
            replace hys := hys.on hA7
            replace hX := hX.on hA7
            replace hAp := hAp.on hA7
            replace hAq := hAq.on hA7
            replace hY := hY.on hA7
            replace hzs := hzs.on hA7
            replace hZ := hZ.on hA7
            replace hA1 := hA1.on hA7
            replace rx := rx.on hA7
            replace rp := rp.on hA7
            replace rq := rq.on hA7
            replace ry := ry.on hA7
            replace rz := rz.on hA7
            have hw8 : Below w.heap.size w (u1.alloc (.cells #[.int .i64 N, .slice A1 res.length cA1] 24)) := hw6.trans (hA7.mono hw6.size)
            clear hw6
            clear hA7
            obtain ⟨crx0_20, crx1_20⟩ := rx.two
            obtain ⟨crp0_21, crp1_21⟩ := rp.two
            obtain ⟨crq0_22, crq1_22⟩ := rq.two
            obtain ⟨cry0_23, cry1_23⟩ := ry.two
            obtain ⟨crz0_24, crz1_24⟩ := rz.two
            have ru : RowAt (u1.alloc (.cells #[.int .i64 N, .slice A1 res.length cA1] 24)) (u1.heap.size) 24 [.int .i64 N, .slice A1 res.length cA1] := ru_
            clear ru_
            obtain ⟨cru0_25, cru1_25⟩ := ru.two
            have hm_ := BtRow.three (n := ny) (m := nz) (l := (P : Int)) hY.ints hZ.ints hAp.ints 24 (u1.heap.size + 1) (by simp)
            have hA9 : Below (u1.alloc (.cells #[.int .i64 N, .slice A1 res.length cA1] 24)).heap.size (u1.alloc (.cells #[.int .i64 N, .slice A1 res.length cA1] 24)) ((u1.alloc (.cells #[.int .i64 N, .slice A1 res.length cA1] 24)).alloc (.cells #[.int .i64 ny, .slice Ay ony.length cy, .int .i64 nz, .slice Az onz.length cz, .int .i64 (P : Int), .slice Ap a.length cAp] 24)) := (Below.refl _ _).alloc (Nat.le_refl _) _
            replace hys := hys.on hA9
            replace hX := hX.on hA9
            replace hAp := hAp.on hA9
            replace hAq := hAq.on hA9
            replace hY := hY.on hA9
            replace hzs := hzs.on hA9
            replace hZ := hZ.on hA9
            replace hA1 := hA1.on hA9
            replace rx := rx.on hA9
            replace rp := rp.on hA9
            replace rq := rq.on hA9
            replace ry := ry.on hA9
            replace rz := rz.on hA9
            replace ru := ru.on hA9
            have hw10 : Below w.heap.size w ((u1.alloc (.cells #[.int .i64 N, .slice A1 res.length cA1] 24)).alloc (.cells #[.int .i64 ny, .slice Ay ony.length cy, .int .i64 nz, .slice Az onz.length cz, .int .i64 (P : Int), .slice Ap a.length cAp] 24)) := hw8.trans (hA9.mono hw8.size)
            clear hw8
            clear hA9
            obtain ⟨crx0_26, crx1_26⟩ := rx.two
            obtain ⟨crp0_27, crp1_27⟩ := rp.two
            obtain ⟨crq0_28, crq1_28⟩ := rq.two
            obtain ⟨cry0_29, cry1_29⟩ := ry.two
            obtain ⟨crz0_30, crz1_30⟩ := rz.two
            obtain ⟨cru0_31, cru1_31⟩ := ru.two
            go_wp2_with fail
            with_reducible refine (rUnion_eq ny ony _ [(nz, onz), ((P : Int), a)] N err res _ HUN.out hm_ H9b (by simp)).mono ?_
            rintro e u2 ⟨A2, cA2, rfl, hA2, hB11⟩
            clear crx0_15 crx1_15 crp0_16 crp1_16 crq0_17 crq1_17 cry0_18 cry1_18 crz0_19 crz1_19 crx0_20 crx1_20 crp0_21 crp1_21 crq0_22 crq1_22 cry0_23 cry1_23 crz0_24 crz1_24 cru0_25 cru1_25 crx0_26 crx1_26 crp0_27 crp1_27 crq0_28 crq1_28 cry0_29 cry1_29 crz0_30 crz1_30 cru0_31 cru1_31
            replace hys := hys.on hB11
            replace hX := hX.on hB11
            replace hAp := hAp.on hB11
            replace hAq := hAq.on hB11
            replace hY := hY.on hB11
            replace hzs := hzs.on hB11
            replace hZ := hZ.on hB11
            replace hA1 := hA1.on hB11
            replace rx := rx.on hB11
            replace rp := rp.on hB11
            replace rq := rq.on hB11
            replace ry := ry.on hB11
            replace rz := rz.on hB11
            replace ru := ru.on hB11
            have hw12 : Below w.heap.size w (u2) := hw10.trans (hB11.mono hw10.size)
            clear hw10
            clear hB11
            obtain ⟨crx0_32, crx1_32⟩ := rx.two
            obtain ⟨crp0_33, crp1_33⟩ := rp.two
            obtain ⟨crq0_34, crq1_34⟩ := rq.two
            obtain ⟨cry0_35, cry1_35⟩ := ry.two
            obtain ⟨crz0_36, crz1_36⟩ := rz.two
            obtain ⟨cru0_37, cru1_37⟩ := ru.two
            clear hm_
            have hA13 : Below (u2).heap.size (u2) (u2.alloc (.cells #[.int .i64 N, .slice A2 res.length cA2] 24)) := (Below.refl _ _).alloc (Nat.le_refl _) _
            have rt_ := RowAt.new (u2) 24 #[.int .i64 N, .slice A2 res.length cA2]
            replace hys := hys.on hA13
            replace hX := hX.on hA13
            replace hAp := hAp.on hA13
            replace hAq := hAq.on hA13
            replace hY := hY.on hA13
            replace hzs := hzs.on hA13
            replace hZ := hZ.on hA13
            replace hA1 := hA1.on hA13
            replace hA2 := hA2.on hA13
            replace rx := rx.on hA13
            replace rp := rp.on hA13
            replace rq := rq.on hA13
            replace ry := ry.on hA13
            replace rz := rz.on hA13
            replace ru := ru.on hA13
            have hw14 : Below w.heap.size w (u2.alloc (.cells #[.int .i64 N, .slice A2 res.length cA2] 24)) := hw12.trans (hA13.mono hw12.size)
            clear hw12
            clear hA13
            obtain ⟨crx0_38, crx1_38⟩ := rx.two
            obtain ⟨crp0_39, crp1_39⟩ := rp.two
            obtain ⟨crq0_40, crq1_40⟩ := rq.two
            obtain ⟨cry0_41, cry1_41⟩ := ry.two
            obtain ⟨crz0_42, crz1_42⟩ := rz.two
            obtain ⟨cru0_43, cru1_43⟩ := ru.two
            have rt : RowAt (u2.alloc (.cells #[.int .i64 N, .slice A2 res.length cA2] 24)) (u2.heap.size) 24 [.int .i64 N, .slice A2 res.length cA2] := rt_
            clear rt_
            obtain ⟨crt0_44, crt1_44⟩ := rt.two
            clear crx0_32 crx1_32 crp0_33 crp1_33 crq0_34 crq1_34 cry0_35 cry1_35 crz0_36 crz1_36 cru0_37 cru1_37 crx0_38 crx1_38 crp0_39 crp1_39 crq0_40 crq1_40 cry0_41 cry1_41 crz0_42 crz1_42 cru0_43 cru1_43 crt0_44 crt1_44
            obtain ⟨U0, hU0⟩ : ∃ U0, U0 = u2.alloc (.cells #[.int .i64 N, .slice A2 res.length cA2] 24) := ⟨_, rfl⟩
            go_wp2_with fail
            rw [← hU0] at hys hX hAp hAq hY hzs hZ hA1 hA2 rx rp rq ry rz ru rt hw14 ⊢
            clear hU0
            have xy0 := ry.later 0 _ rfl
            have xy1 := ry.later 1 _ rfl
            have xz0 := rz.later 0 _ rfl
            have xz1 := rz.later 1 _ rfl
            have xu0 := ru.later 0 _ rfl
            have xu1 := ru.later 1 _ rfl
            have xt0 := rt.later 0 _ rfl
            have xt1 := rt.later 1 _ rfl
            obtain ⟨tD, htD⟩ : ∃ tD, disjOf ny ony nz onz = tD := ⟨_, rfl⟩
            obtain ⟨tS, htS⟩ : ∃ tS, subOf ny ony nz onz = tS := ⟨_, rfl⟩
            have HD1 : ∀ p : Later U0, Calls Try.prog 18 #[.agg #[.int .i64 ny, .slice Ay ony.length cy], .agg #[.int .i64 nz, .slice Az onz.length cz]] p.W fun e w_ => e = .returned (.bool tD) ∧ ∃ p : Later U0, w_ = p.W := fun p => later_of (by rw [← htD]; exact Disjoint_any _ _ ny nz ony onz _ (hY.on p.h) (hZ.on p.h) ly9 lz9)
            have HD2 : ∀ p : Later U0, Calls Try.prog 19 #[.agg #[.int .i64 ny, .slice Ay ony.length cy], .agg #[.int .i64 nz, .slice Az onz.length cz]] p.W fun e w_ => e = .returned (.bool tD) ∧ ∃ p : Later U0, w_ = p.W := fun p => later_of (by rw [← htD]; exact rDisjoint_any _ _ ny nz ony onz _ (hY.on p.h) (hZ.on p.h) ly9 lz9)
            have HS1 : ∀ p : Later U0, Calls Try.prog 20 #[.agg #[.int .i64 ny, .slice Ay ony.length cy], .agg #[.int .i64 nz, .slice Az onz.length cz]] p.W fun e w_ => e = .returned (.bool tS) ∧ ∃ p : Later U0, w_ = p.W := fun p => later_of (by rw [← htS]; exact Subset_any _ _ ny nz ony onz _ (hY.on p.h) (hZ.on p.h) ly9 lz9)
            have HS2 : ∀ p : Later U0, Calls Try.prog 21 #[.agg #[.int .i64 ny, .slice Ay ony.length cy], .agg #[.int .i64 nz, .slice Az onz.length cz]] p.W fun e w_ => e = .returned (.bool tS) ∧ ∃ p : Later U0, w_ = p.W := fun p => later_of (by rw [← htS]; exact rSubset_any _ _ ny nz ony onz _ (hY.on p.h) (hZ.on p.h) ly9 lz9)
            have HSM : ∀ p : Later U0, Calls Try.prog 17 #[.agg #[.int .i64 N, .slice A1 res.length cA1], .agg #[.int .i64 N, .slice A2 res.length cA2]] p.W fun e w_ => e = .returned (.bool true) ∧ ∃ p : Later U0, w_ = p.W := fun p => later_of (Same_eq _ _ N N res res _ true (by simp [sameB]) (hA1.on p.h) (hA2.on p.h) lr9 lr9)
            clear htD htS
            refine wp_region_later (by kernel_rfl) (by kernel_rfl) ?_
            repeat (go_big_quiet_step (first | (go_at_call 17; exact HSM _) | (go_at_call 18; exact HD1 _) | (go_at_call 19; exact HD2 _) | (go_at_call 20; exact HS1 _) | (go_at_call 21; exact HS2 _)))
            refine wpQuiet_nil ?_
            intro _ hw'
            obtain ⟨pq, rfl⟩ := hw'
            have hq5 := pq.h
            generalize pq.W = u5 at hq5 ⊢
            clear pq xy0 xy1 xz0 xz1 xu0 xu1 xt0 xt1 HD1 HD2 HS1 HS2 HSM
            go_wp2_with fail
            go_roundw
            case rel => exact ⟨k + 1, by omega, by go_num, hys.on hq5, ⟨hX.on hq5, hAp.on hq5, hAq.on hq5⟩, ⟨rx.on hq5, rp.on hq5, rq.on hq5⟩, ⟨hzs.on hq5, hY.on hq5, ry.on hq5⟩, hw14.trans (hq5.mono hw14.size)⟩
            case measure => simp [intOf]; omega
          · go_wp2_with fail
            go_roundw
            case rel => exact ⟨j + 1, by omega, by go_num, hys, ⟨hX, hAp, hAq⟩, ⟨rx, rp, rq⟩, hB⟩
            case measure => simp [intOf]; omega
      · obtain ⟨crp0_1, crp1_1⟩ := rp.two
        clear hys hX hAq rx rq hb9 HBL HBS BA BB
        go_wp2_with fail
        with_reducible refine (rList_eq _ P a _ S 0 HhS.out HhE.out hAp la9).mono ?_
        rintro e v1 ⟨rfl, hB1⟩
        clear crp0_1 crp1_1
        replace hAp := hAp.on hB1
        replace rp := rp.on hB1
        have hw2 : Below w.heap.size w (v1) := hB.trans (hB1.mono hB.size)
        clear hB
        clear hB1
        obtain ⟨crp0_2, crp1_2⟩ := rp.two
        go_wp2_with fail
        with_reducible refine (rVector_eq _ P a _ V 0 HhV.out HhE.out hAp la9).mono ?_
        rintro e v2 ⟨rfl, hB3⟩
        clear crp0_2 crp1_2
        replace hAp := hAp.on hB3
        replace rp := rp.on hB3
        have hw4 : Below w.heap.size w (v2) := hw2.trans (hB3.mono hw2.size)
        clear hw2
        clear hB3
        obtain ⟨crp0_3, crp1_3⟩ := rp.two
        clear crp0_3 crp1_3
        go_wp2_with fail
        go_upto_region 26 with (fail)
        go_cut [224, 225, 226] from 209 to 226 (fun tv lv iv wx => ∃ G : Nat, (tv = .slice (some ⟨G, 0, none⟩) 5 5 ∧ lv = .int .i64 5 ∧ iv = .int .i64 0) ∧ (∃ ts : List ByteArray, Hid (ts.length = 5) ∧ Hid (∀ t ∈ ts, t.size ≤ 3000) ∧ RowAt wx G 9 (ts.map Value.string)) ∧ Bt wx (.agg #[.int .i64 (P : Int), .slice Ap a.length cAp]) P a ∧ RowAt wx w2.heap.size 24 [.int .i64 (P : Int), .slice Ap a.length cAp] ∧ Below w.heap.size w wx)
        case first =>
          by_cases h80 : s.size ≤ 80
          all_goals
            go_region_with (first | (go_at_call_of 22 (Value.string S); refine (turned_any S at_ c _ HsS.out hat').mono ?_; rintro e wt1 ⟨t1, rfl, ht1, hbt1⟩) | (go_at_call_of 22 (Value.string V); refine (turned_any V at_ c _ HsV.out hat').mono ?_; rintro e wt2 ⟨t2, rfl, ht2, hbt2⟩))
            all_goals
              go_simp
              go_wp2_with fail
              go_meet
              exact ⟨wt2.heap.size, ⟨rfl, rfl, rfl⟩, tells_five wt2 _ S t1 V t2 (by first | omega | (simp only [ByteArray.size_extract]; omega)) HsS.out ht1 HsV.out ht2, hAp.on (tells_bel _ hbt1 hbt2), rp.on (tells_bel _ hbt1 hbt2), hw4.trans ((tells_bel _ hbt1 hbt2).mono hw4.size)⟩
        case rest =>
          clear hAp rp hw4 HsS HsV HhS HhV HhE
          obtain ⟨wk, hwk⟩ : ∃ wk, wk = wc := ⟨_, rfl⟩
          subst hwk
          obtain ⟨G, ⟨rfl, rfl, rfl⟩, ⟨ts, HL5, HT, hT⟩, hAp, rp, hB⟩ := hcut
          go_wp2_with fail
          go_loopw [226] (fun jv wr => ∃ j : Nat, j ≤ 5 ∧ jv = .int .i64 j ∧ RowAt wr G 9 (ts.map Value.string) ∧ Bt wr (.agg #[.int .i64 (P : Int), .slice Ap a.length cAp]) P a ∧ RowAt wr w2.heap.size 24 [.int .i64 (P : Int), .slice Ap a.length cAp] ∧ Below w.heap.size w wr) (fun jv _ => 5 - (intOf jv).toNat)
          case atStart => exact ⟨0, by omega, rfl, hT, hAp, rp, hB⟩
          case round =>
            clear hT hAp rp hB
            obtain ⟨j, hj, rfl, hT, hAp, rp, hB⟩ := hrel
            by_cases hlt : j < 5
            · have hjl : j < ts.length := by rw [HL5.out]; exact hlt
              obtain ⟨t, ht⟩ : ∃ t, ts[j] = t := ⟨_, rfl⟩
              have ht3 : t.size ≤ 3000 := by rw [← ht]; exact HT.out _ (List.getElem_mem hjl)
              have ct := hT.cell j
              rw [List.getElem?_map, List.getElem?_eq_getElem hjl, ht, Option.map_some] at ct
              clear ht hjl
              obtain ⟨crp0_1, crp1_1⟩ := rp.two
              go_wp2_with fail
              go_region_with ((go_at_call 14; refine (HP50 _).mono ?_; rintro e w_ ⟨rfl, rfl⟩))
              all_goals
                obtain ⟨wo, hwo⟩ : ∃ wo, wo = wr := ⟨_, rfl⟩
                subst hwo
                have hq : Below wo.heap.size wo ((wo.alloc (.cells #[.int .i64 most, .int .i64 (P : Int), .int .i64 K50] 3)).drew) := ((Below.refl _ _).alloc (Nat.le_refl _) _).drew
                have rk : RowAt ((wo.alloc (.cells #[.int .i64 most, .int .i64 (P : Int), .int .i64 K50] 3)).drew) wo.heap.size 3 [.int .i64 most, .int .i64 (P : Int), .int .i64 K50] := (RowAt.new wo 3 #[.int .i64 most, .int .i64 (P : Int), .int .i64 K50]).on (Below.refl _ _).drew
                go_simp
                go_wp2_with fail
                obtain ⟨G2, hG2⟩ : ∃ G2, G2 = wo.heap.size := ⟨_, rfl⟩
                rw [← hG2] at rk ⊢
                clear hG2 ct crp0_1 crp1_1
                go_loopw [237] (fun kv wr => ∃ k : Nat, k ≤ 3 ∧ kv = .int .i64 k ∧ RowAt wr G2 3 [.int .i64 most, .int .i64 (P : Int), .int .i64 K50] ∧ RowAt wr G 9 (ts.map Value.string) ∧ Bt wr (.agg #[.int .i64 (P : Int), .slice Ap a.length cAp]) P a ∧ RowAt wr w2.heap.size 24 [.int .i64 (P : Int), .slice Ap a.length cAp] ∧ Below w.heap.size w wr) (fun kv _ => 3 - (intOf kv).toNat)
                case atStart => exact ⟨0, by omega, rfl, rk, hT.on hq, hAp.on hq, rp.on hq, hB.trans (hq.mono hB.size)⟩
                case round =>
                  clear hq rk hT hAp rp hB
                  obtain ⟨k, hk, rfl, rk, hT, hAp, rp, hB⟩ := hrel
                  by_cases hlk : k < 3
                  · obtain ⟨K, ck⟩ : ∃ K : Int, wr.cell? ⟨G2, k, none⟩ = some (.int .i64 K) := by
                      have hc := rk.cell k
                      rcases (by omega : k = 0 ∨ k = 1 ∨ k = 2) with h | h | h <;> subst h <;> exact ⟨_, hc⟩
                    obtain ⟨N1, on1, er1, h1⟩ : ∃ (N : Int) (on : List Int) (er : Int), unlistOf t.data.toList K = (N, on, er) := ⟨_, _, _, rfl⟩
                    have ln1 := unlist_len t.data.toList K (by rw [bytes_length]; exact ht3)
                    rw [h1] at ln1
                    simp only at ln1
                    have HU1 := Lib.hid h1
                    clear h1
                    obtain ⟨N2, on2, er2, h2⟩ : ∃ (N : Int) (on : List Int) (er : Int), unvecOf t.data.toList K = (N, on, er) := ⟨_, _, _, rfl⟩
                    have ln2 := unvec_len t.data.toList K (by rw [bytes_length]; exact ht3)
                    rw [h2] at ln2
                    simp only at ln2
                    have HU2 := Lib.hid h2
                    clear h2
                    have ht9 : t.size ≤ 1000000000000000 := by omega
                    have ht6 : t.size ≤ 1000000 := by omega
                    go_wp2_with fail
                    with_reducible refine (Unlist_eq t K N1 er1 on1 _ HU1.out ht9).mono ?_
                    rintro e y1 ⟨A1, c1, rfl, hA1, hB1⟩
                    replace rk := rk.on hB1
                    replace hT := hT.on hB1
                    replace hAp := hAp.on hB1
                    replace rp := rp.on hB1
                    have hw2 : Below w.heap.size w (y1) := hB.trans (hB1.mono hB.size)
                    clear hB
                    clear hB1
                    clear ck
                    have hA3 : Below (y1).heap.size (y1) (y1.alloc (.cells #[.int .i64 N1, .slice A1 on1.length c1] 24)) := (Below.refl _ _).alloc (Nat.le_refl _) _
                    have rd_ := RowAt.new (y1) 24 #[.int .i64 N1, .slice A1 on1.length c1]
                    replace rk := rk.on hA3
                    replace hT := hT.on hA3
                    replace hAp := hAp.on hA3
                    replace rp := rp.on hA3
                    replace hA1 := hA1.on hA3
                    have hw4 : Below w.heap.size w (y1.alloc (.cells #[.int .i64 N1, .slice A1 on1.length c1] 24)) := hw2.trans (hA3.mono hw2.size)
                    clear hw2
                    clear hA3
                    have rd : RowAt (y1.alloc (.cells #[.int .i64 N1, .slice A1 on1.length c1] 24)) (y1.heap.size) 24 [.int .i64 N1, .slice A1 on1.length c1] := rd_
                    clear rd_
                    obtain ⟨crd0_1, crd1_1⟩ := rd.two
                    go_wp2_with fail
                    with_reducible refine (rUnlist_eq t K N1 er1 on1 _ HU1.out ht6).mono ?_
                    rintro e y2 ⟨A2, c2, rfl, hA2, hB5⟩
                    clear crd0_1 crd1_1
                    replace rk := rk.on hB5
                    replace hT := hT.on hB5
                    replace hAp := hAp.on hB5
                    replace rp := rp.on hB5
                    replace hA1 := hA1.on hB5
                    replace rd := rd.on hB5
                    have hw6 : Below w.heap.size w (y2) := hw4.trans (hB5.mono hw4.size)
                    clear hw4
                    clear hB5
                    obtain ⟨crd0_2, crd1_2⟩ := rd.two
                    have hA7 : Below (y2).heap.size (y2) (y2.alloc (.cells #[.int .i64 N1, .slice A2 on1.length c2] 24)) := (Below.refl _ _).alloc (Nat.le_refl _) _
                    have rg_ := RowAt.new (y2) 24 #[.int .i64 N1, .slice A2 on1.length c2]
                    replace rk := rk.on hA7
                    replace hT := hT.on hA7
                    replace hAp := hAp.on hA7
                    replace rp := rp.on hA7
                    replace hA1 := hA1.on hA7
                    replace hA2 := hA2.on hA7
                    replace rd := rd.on hA7
                    have hw8 : Below w.heap.size w (y2.alloc (.cells #[.int .i64 N1, .slice A2 on1.length c2] 24)) := hw6.trans (hA7.mono hw6.size)
                    clear hw6
                    clear hA7
                    obtain ⟨crd0_3, crd1_3⟩ := rd.two
                    have rg : RowAt (y2.alloc (.cells #[.int .i64 N1, .slice A2 on1.length c2] 24)) (y2.heap.size) 24 [.int .i64 N1, .slice A2 on1.length c2] := rg_
                    clear rg_
                    obtain ⟨crg0_4, crg1_4⟩ := rg.two
                    go_wp2_with fail
                    with_reducible refine (Unvector_eq t K N2 er2 on2 _ HU2.out).mono ?_
                    rintro e y3 ⟨A3, c3, rfl, hA3, hB9⟩
                    clear crd0_2 crd1_2 crd0_3 crd1_3 crg0_4 crg1_4
                    replace rk := rk.on hB9
                    replace hT := hT.on hB9
                    replace hAp := hAp.on hB9
                    replace rp := rp.on hB9
                    replace hA1 := hA1.on hB9
                    replace hA2 := hA2.on hB9
                    replace rd := rd.on hB9
                    replace rg := rg.on hB9
                    have hw10 : Below w.heap.size w (y3) := hw8.trans (hB9.mono hw8.size)
                    clear hw8
                    clear hB9
                    obtain ⟨crd0_5, crd1_5⟩ := rd.two
                    obtain ⟨crg0_6, crg1_6⟩ := rg.two
                    have hA11 : Below (y3).heap.size (y3) (y3.alloc (.cells #[.int .i64 N2, .slice A3 on2.length c3] 24)) := (Below.refl _ _).alloc (Nat.le_refl _) _
                    have ru_ := RowAt.new (y3) 24 #[.int .i64 N2, .slice A3 on2.length c3]
                    replace rk := rk.on hA11
                    replace hT := hT.on hA11
                    replace hAp := hAp.on hA11
                    replace rp := rp.on hA11
                    replace hA1 := hA1.on hA11
                    replace hA2 := hA2.on hA11
                    replace hA3 := hA3.on hA11
                    replace rd := rd.on hA11
                    replace rg := rg.on hA11
                    have hw12 : Below w.heap.size w (y3.alloc (.cells #[.int .i64 N2, .slice A3 on2.length c3] 24)) := hw10.trans (hA11.mono hw10.size)
                    clear hw10
                    clear hA11
                    obtain ⟨crd0_7, crd1_7⟩ := rd.two
                    obtain ⟨crg0_8, crg1_8⟩ := rg.two
                    have ru : RowAt (y3.alloc (.cells #[.int .i64 N2, .slice A3 on2.length c3] 24)) (y3.heap.size) 24 [.int .i64 N2, .slice A3 on2.length c3] := ru_
                    clear ru_
                    obtain ⟨cru0_9, cru1_9⟩ := ru.two
                    go_wp2_with fail
                    with_reducible refine (rUnvector_eq t K N2 er2 on2 _ HU2.out ht6).mono ?_
                    rintro e y4 ⟨A4, c4, rfl, hA4, hB13⟩
                    clear crd0_5 crd1_5 crg0_6 crg1_6 crd0_7 crd1_7 crg0_8 crg1_8 cru0_9 cru1_9
                    replace rk := rk.on hB13
                    replace hT := hT.on hB13
                    replace hAp := hAp.on hB13
                    replace rp := rp.on hB13
                    replace hA1 := hA1.on hB13
                    replace hA2 := hA2.on hB13
                    replace hA3 := hA3.on hB13
                    replace rd := rd.on hB13
                    replace rg := rg.on hB13
                    replace ru := ru.on hB13
                    have hw14 : Below w.heap.size w (y4) := hw12.trans (hB13.mono hw12.size)
                    clear hw12
                    clear hB13
                    obtain ⟨crd0_10, crd1_10⟩ := rd.two
                    obtain ⟨crg0_11, crg1_11⟩ := rg.two
                    obtain ⟨cru0_12, cru1_12⟩ := ru.two
                    have hA15 : Below (y4).heap.size (y4) (y4.alloc (.cells #[.int .i64 N2, .slice A4 on2.length c4] 24)) := (Below.refl _ _).alloc (Nat.le_refl _) _
                    have rv_ := RowAt.new (y4) 24 #[.int .i64 N2, .slice A4 on2.length c4]
                    replace rk := rk.on hA15
                    replace hT := hT.on hA15
                    replace hAp := hAp.on hA15
                    replace rp := rp.on hA15
                    replace hA1 := hA1.on hA15
                    replace hA2 := hA2.on hA15
                    replace hA3 := hA3.on hA15
                    replace hA4 := hA4.on hA15
                    replace rd := rd.on hA15
                    replace rg := rg.on hA15
                    replace ru := ru.on hA15
                    have hw16 : Below w.heap.size w (y4.alloc (.cells #[.int .i64 N2, .slice A4 on2.length c4] 24)) := hw14.trans (hA15.mono hw14.size)
                    clear hw14
                    clear hA15
                    obtain ⟨crd0_13, crd1_13⟩ := rd.two
                    obtain ⟨crg0_14, crg1_14⟩ := rg.two
                    obtain ⟨cru0_15, cru1_15⟩ := ru.two
                    have rv : RowAt (y4.alloc (.cells #[.int .i64 N2, .slice A4 on2.length c4] 24)) (y4.heap.size) 24 [.int .i64 N2, .slice A4 on2.length c4] := rv_
                    clear rv_
                    obtain ⟨crv0_16, crv1_16⟩ := rv.two
                    go_wp2_with fail
                    with_reducible refine (Same_eq _ _ N1 N1 on1 on1 _ true (by simp [sameB]) hA1 hA2 ln1 ln1).mono ?_
                    rintro e y5 ⟨rfl, hB17⟩
                    clear crd0_10 crd1_10 crg0_11 crg1_11 cru0_12 cru1_12 crd0_13 crd1_13 crg0_14 crg1_14 cru0_15 cru1_15 crv0_16 crv1_16
                    replace rk := rk.on hB17
                    replace hT := hT.on hB17
                    replace hAp := hAp.on hB17
                    replace rp := rp.on hB17
                    replace hA1 := hA1.on hB17
                    replace hA2 := hA2.on hB17
                    replace hA3 := hA3.on hB17
                    replace hA4 := hA4.on hB17
                    replace rd := rd.on hB17
                    replace rg := rg.on hB17
                    replace ru := ru.on hB17
                    replace rv := rv.on hB17
                    have hw18 : Below w.heap.size w (y5) := hw16.trans (hB17.mono hw16.size)
                    clear hw16
                    clear hB17
                    obtain ⟨crd0_17, crd1_17⟩ := rd.two
                    obtain ⟨crg0_18, crg1_18⟩ := rg.two
                    obtain ⟨cru0_19, cru1_19⟩ := ru.two
                    obtain ⟨crv0_20, crv1_20⟩ := rv.two
                    go_wp2_with fail
                    with_reducible refine (Same_eq _ _ N2 N2 on2 on2 _ true (by simp [sameB]) hA3 hA4 ln2 ln2).mono ?_
                    rintro e y6 ⟨rfl, hB19⟩
                    clear crd0_17 crd1_17 crg0_18 crg1_18 cru0_19 cru1_19 crv0_20 crv1_20
                    replace rk := rk.on hB19
                    replace hT := hT.on hB19
                    replace hAp := hAp.on hB19
                    replace rp := rp.on hB19
                    replace hA1 := hA1.on hB19
                    replace hA2 := hA2.on hB19
                    replace hA3 := hA3.on hB19
                    replace hA4 := hA4.on hB19
                    replace rd := rd.on hB19
                    replace rg := rg.on hB19
                    replace ru := ru.on hB19
                    replace rv := rv.on hB19
                    have hw20 : Below w.heap.size w (y6) := hw18.trans (hB19.mono hw18.size)
                    clear hw18
                    clear hB19
                    obtain ⟨crd0_21, crd1_21⟩ := rd.two
                    obtain ⟨crg0_22, crg1_22⟩ := rg.two
                    obtain ⟨cru0_23, cru1_23⟩ := ru.two
                    obtain ⟨crv0_24, crv1_24⟩ := rv.two
                    go_wp2_with fail
                    go_roundw
                    case rel => exact ⟨k + 1, by omega, by go_num, rk, hT, hAp, rp, hw20⟩
                    case measure => simp [intOf]; omega
                  · go_wp2_with fail
                    go_roundw
                    case rel => exact ⟨j + 1, by omega, by go_num, hT, hAp, rp, hB⟩
                    case measure => simp [intOf]; omega
            · go_wp2_with fail
              go_ret
              exact ⟨rfl, hB⟩

theorem btells_calls (nb : Int) (onb : List Int) (Ab : Option Addr) (cb_ : Nat) {w : World} (s0 : Ints w w.heap.size (.slice Ab onb.length cb_) onb) (hcb : onb.length ≤ cb_) (hcb9 : cb_ ≤ maxLen) (a1 : Int) (w1 : (Lit.int .i64 a1).wf = true)
    (xs2 : List Int) (v2 : Value) (s2 : Ints w w.heap.size v2 xs2) (b2 : ∀ x ∈ xs2, -9223372036854775808 ≤ x ∧ x ≤ 9223372036854775807) (_ : xs2.length ≤ maxLen) (xs3 : List Int) (v3 : Value) (s3 : Ints w w.heap.size v3 xs3) (b3 : ∀ x ∈ xs3, -9223372036854775808 ≤ x ∧ x ≤ 9223372036854775807) (_ : xs3.length ≤ maxLen)
    (s : ByteArray) (hs : s.size ≤ maxLen) (a5 : Int) (w5 : (Lit.int .i64 a5).wf = true) (c : Int) (w6 : (Lit.int .u8 c).wf = true) (a7 : Int) (w7 : (Lit.int .i64 a7).wf = true) (a8 : Int) (w8 : (Lit.int .i64 a8).wf = true) :
    Calls Try.prog 3 #[.agg #[.int .i64 nb, .slice Ab onb.length cb_], .int .i64 a1, v2, v3, .string s, .int .i64 a5, .int .u8 c, .int .i64 a7, .int .i64 a8] w fun e w' => e = .returned (.bool true) ∧ Below w.heap.size w w' := by
  obtain ⟨h0, h1⟩ := bounds_u8 w6
  obtain ⟨y, rfl⟩ := Int.eq_ofNat_of_zero_le h0
  have e : ((UInt8.ofNat y).toNat : Int) = (y : Int) := by rw [UInt8.toNat_ofNat']; omega
  have h := btells_walk nb onb Ab cb_ a1 xs2 xs3 v2 v3 s a5 (UInt8.ofNat y) a7 a8 w ⟨_, rfl, s0⟩ hcb hcb9 s2 s3 (bounds_i64 w1) b2 b3 hs (bounds_i64 w5) (bounds_i64 w7) (bounds_i64 w8)
  rw [e] at h
  exact h
end Go.Proofs.Ytpojpikndlcbkaa
