/- The walk of OracleMerge. -/
import Derived.Test.YtjjccoliknngcaaOrcX
namespace Go.Proofs.Ytjjccoliknngcaa
open Go.RowKit Go.Lib

set_option maxHeartbeats 4000000 in
set_option maxRecDepth 100000 in
theorem omerge_walk (v u : Value) (raw few : List Int) (at_ root : Int) (w : World) (hv : Ints w w.heap.size v raw) (hu : Ints w w.heap.size u few) (hI : ∀ r ∈ raw, I64 r) (hJ : ∀ r ∈ few, I64 r) (l9 : raw.length ≤ maxLen) (l9u : few.length ≤ maxLen) (hat : I64 at_) (hroot : I64 root) :
    Calls Try.prog 7 #[v, u, .int .i64 at_, .int .i64 root] w fun e w' => e = .returned (.bool true) ∧ Below w.heap.size w w' := by
  obtain ⟨Av, cv, rfl, hcv⟩ := hv.form
  obtain ⟨Au, cu, rfl, hcu⟩ := hu.form
  obtain ⟨hn, hk12, hlk⟩ := keysL_facts few
  obtain ⟨ht, htl⟩ := tableL_facts raw
  have cT := fun W h => Table7_any (.slice Av raw.length cv) raw W h hI l9
  have cK := fun W h => Keys7_any (.slice Au few.length cu) few W h hJ l9u
  generalize tableL raw = t at *
  generalize keysL few = ks at *
  go_enter Try.func7, Try.ntmps7
  go_wp2_with fail
  with_reducible refine (awake7_any _).mono ?_
  rintro e w1 ⟨rfl, b1⟩
  go_wp2_with fail
  with_reducible refine (cT _ (hv.on b1)).mono ?_
  rintro e w2 ⟨A, c, rfl, hT, b2⟩
  have B2 := b1.trans (b2.mono b1.size)
  clear b1 b2
  go_wp2_with fail
  with_reducible refine (cK _ (hu.on B2)).mono ?_
  rintro e w3 ⟨K, kc, rfl, hK, b3⟩
  replace hT := hT.on b3
  have B3 := B2.trans (b3.mono B2.size)
  clear b3 B2 hv hu cT cK
  have hr := pickN_lt root 3 (by decide)
  have cR := fun W => pick7_any root 3 W hroot (by decide) (by decide)
  generalize pickN root 3 = r at *
  have hwr : IntKind.u64.wrap (r : Int) = (r : Int) := IntWalk.u64_in _ (by omega)
  have hw1 : IntKind.i64.wrap ((ks.length : Int) + 1) = (ks.length : Int) + 1 := IntWalk.i64_in _ (by omega)
  go_wp2_with fail
  with_reducible refine (cR _).mono ?_
  rintro e w4 ⟨rfl, rfl⟩
  clear cR
  have hn1 := pickN_lt at_ ((ks.length : Int) + 1) (by omega)
  have cN := fun W => pick7_any at_ ((ks.length : Int) + 1) W hat (by omega) (by omega)
  generalize pickN at_ ((ks.length : Int) + 1) = n at *
  go_wp2_with fail
  with_reducible refine (cN _).mono ?_
  rintro e w5 ⟨rfl, rfl⟩
  clear cN
  have hkc := hK.form'
  have hn2 : n ≤ ks.length := by omega
  have f1 : ((n : Int) ≤ (kc : Int)) = True := eq_true (by omega)
  have f2 : (n ≤ kc) = True := eq_true (by omega)
  have f3 : ((n : Int) ≤ (ks.length : Int)) = True := eq_true (by omega)
  have f4 : (n ≤ ks.length) = True := eq_true (by omega)
  have hP := hK.first n hn2
  have hR := hK.past n hn2
  obtain ⟨Q, hQ⟩ : ∃ Q, (if kc = n then K else K.map (fun x => x.add n)) = Q := ⟨_, rfl⟩
  rw [hQ] at hR
  have hfit : ∀ x ∈ ks, x < 18446744073709551616 := fun x hx => by have := hk12 x hx; omega
  have hfitP : ∀ x ∈ ks.take n, x < 18446744073709551616 := fun x hx => hfit x (List.mem_of_mem_take hx)
  have hfitR : ∀ x ∈ ks.drop n, x < 18446744073709551616 := fun x hx => hfit x (List.mem_of_mem_drop hx)
  have hlP : (ks.take n).length = n := by rw [List.length_take]; omega
  have hlR : (ks.drop n).length = ks.length - n := List.length_drop
  have hrf := tableO_right ht htl
  obtain ⟨ca1, ca2, ca3⟩ := check_apart (t := t) (r := r) hn (show ks.length ≤ 2048 by omega) n
  have hMt := merge_parts (r := r) (ks := ks) n (by omega)
  have cZ := fun k0 => check_more t ks r k0
  have hMz := fun k0 => merge_two (r := r) (a := ks) (b := [k0]) (by simp; omega)
  have zP : n = 0 → checkO t (ks.take n) r false (signL r (ks.take n)) = false := fun h => by subst h; exact check_none t r _ _
  have zR : n = ks.length → checkO t (ks.drop n) r false (signL r (ks.drop n)) = false := fun h => by subst h; rw [List.drop_length]; exact check_none t r _ _
  have zK : ks.length = 0 → checkO t ks r false (signL r ks) = false := fun h => by rw [List.eq_nil_of_length_eq_zero h]; exact check_none t r _ _
  have lsP : (signL r (ks.take n)).length ≤ 12 := by rw [signL_length]; omega
  have lsR : (signL r (ks.drop n)).length ≤ 12 := by rw [signL_length]; omega
  have lsK : (signL r ks).length ≤ 12 := by rw [signL_length]; omega
  obtain ⟨la, hla⟩ : ∃ la, signL r (ks.take n) = la := ⟨_, rfl⟩
  obtain ⟨lb, hlb⟩ : ∃ lb, signL r (ks.drop n) = lb := ⟨_, rfl⟩
  obtain ⟨lk, hlk'⟩ : ∃ lk, signL r ks = lk := ⟨_, rfl⟩
  rw [hla] at ca1 ca2 hMt zP lsP
  rw [hlb] at ca1 ca3 hMt zR lsR
  rw [hlk'] at ca1 ca2 ca3 hMt zK lsK hMz
  obtain ⟨x1, hx1⟩ : ∃ x1, checkO t (ks.take n) r false la = x1 := ⟨_, rfl⟩
  obtain ⟨x2, hx2⟩ : ∃ x2, checkO t (ks.drop n) r false lb = x2 := ⟨_, rfl⟩
  obtain ⟨x3, hx3⟩ : ∃ x3, checkO t ks r false lk = x3 := ⟨_, rfl⟩
  rw [hx1] at ca1 ca2 zP
  rw [hx2] at ca1 ca3 zR
  rw [hx3] at ca1 ca2 ca3 zK
  have ways := merge_ways ca1 ca2 ca3 zP zR (show n ≤ ks.length by omega)
  have cS1 := fun W h => Sign_eq r (.slice K n kc) (ks.take n) la hla W h (by omega)
  have cS2 := fun W h => Sign_eq r (.slice Q (ks.length - n) (kc - n)) (ks.drop n) lb hlb W h (by omega)
  have cS3 := fun W h => Sign_eq r (.slice K ks.length kc) ks lk hlk' W h (by omega)
  have cC1 := fun (P : Option Addr) pc W h1 h2 h3 => Check_eq A K P t.length c n kc la.length pc t la (ks.take n) r false x1 hx1 hlP.symm rfl W h1 h2 h3 hfitP (by omega) (by omega) (by omega)
  have cC2 := fun (P : Option Addr) pc W h1 h2 h3 => Check_eq A Q P t.length c (ks.length - n) (kc - n) lb.length pc t lb (ks.drop n) r false x2 hx2 hlR.symm rfl W h1 h2 h3 hfitR (by omega) (by omega) (by omega)
  have cC3 := fun (P : Option Addr) pc W h1 h2 h3 => Check_eq A K P t.length c ks.length kc lk.length pc t lk ks r false x3 hx3 rfl rfl W h1 h2 h3 hfit (by omega) (by omega) (by omega)
  have HM1 := Lib.hid hMt
  have HCA := Lib.hid ways
  have HZ := Lib.hid cZ
  have HMz := Lib.hid hMz
  have HzK := Lib.hid zK
  clear hMt ways cZ hMz ca1 ca2 ca3 zP zR zK hla hlb hx1 hx2 hx3
  go_wp2_with fail
  with_reducible refine (cS1 _ hP).mono ?_
  rintro e w6 ⟨SA, sa, rfl, hA, b6⟩
  clear cS1
  replace hT := hT.on b6
  replace hK := hK.on b6
  replace hP := hP.on b6
  replace hR := hR.on b6
  have B6 := B3.trans (b6.mono B3.size)
  clear b6 B3
  go_upto_region 7 with (fail)
  have qA := RowAt.new w6 40 #[.bool false, .slice SA la.length sa]
  have bx := (Below.refl w6.heap.size w6).alloc (Nat.le_refl _) (.cells #[.bool false, .slice SA la.length sa] 40)
  replace hT := hT.on bx
  replace hK := hK.on bx
  replace hP := hP.on bx
  replace hR := hR.on bx
  replace hA := hA.on bx
  have B7 := B6.trans (bx.mono B6.size)
  clear bx B6
  generalize w6.alloc (.cells #[.bool false, .slice SA la.length sa] 40) = w7 at *
  generalize w6.heap.size = gA at *
  go_wp2_with fail
  with_reducible refine (cS2 _ hR).mono ?_
  rintro e w8 ⟨SB, sb, rfl, hB, b8⟩
  clear cS2
  replace hT := hT.on b8
  replace hK := hK.on b8
  replace hP := hP.on b8
  replace hR := hR.on b8
  replace hA := hA.on b8
  replace qA := qA.on b8
  have B8 := B7.trans (b8.mono B7.size)
  clear b8 B7
  go_upto_region 8 with (fail)
  have qB := RowAt.new w8 40 #[.bool false, .slice SB lb.length sb]
  have bx := (Below.refl w8.heap.size w8).alloc (Nat.le_refl _) (.cells #[.bool false, .slice SB lb.length sb] 40)
  replace hT := hT.on bx
  replace hK := hK.on bx
  replace hP := hP.on bx
  replace hR := hR.on bx
  replace hA := hA.on bx
  replace hB := hB.on bx
  replace qA := qA.on bx
  have B9 := B8.trans (bx.mono B8.size)
  clear bx B8
  generalize w8.alloc (.cells #[.bool false, .slice SB lb.length sb] 40) = w9 at *
  generalize w8.heap.size = gB at *
  obtain ⟨s0, s1⟩ := qA.two
  obtain ⟨s2, s3⟩ := qB.two
  have tR : TkRow (w9.alloc (.cells #[.bool false, .slice SA la.length sa, .bool false, .slice SB lb.length sb] 40)) (.slice (some ⟨w9.heap.size, 0, none⟩) 2 2) [(false, la), (false, lb)] := two_toks (RowAt.new w9 40 #[.bool false, .slice SA la.length sa, .bool false, .slice SB lb.length sb]) (hA.alloc _) (hB.alloc _)
  have bR := (Below.refl w9.heap.size w9).alloc (Nat.le_refl _) (.cells #[.bool false, .slice SA la.length sa, .bool false, .slice SB lb.length sb] 40)
  go_wp2_with fail
  with_reducible refine (Merge_eq _ _ _ 0 false lk HM1.out tR (by simp) (two_max (by unfold maxLen; omega) (by unfold maxLen; omega))).mono ?_
  rintro e w10 ⟨SM, sm, rfl, hM', b10⟩
  have hM := hM'.prs
  replace b10 := bR.trans (b10.mono bR.size)
  clear hM' tR bR s0 s1 s2 s3
  replace hT := hT.on b10
  replace hK := hK.on b10
  replace hP := hP.on b10
  replace hR := hR.on b10
  replace hA := hA.on b10
  replace hB := hB.on b10
  replace qA := qA.on b10
  replace qB := qB.on b10
  have B10 := B9.trans (b10.mono B9.size)
  clear b10 B9
  go_upto_region 9 with (fail)
  have qM := RowAt.new w10 40 #[.bool false, .slice SM lk.length sm]
  have bx := (Below.refl w10.heap.size w10).alloc (Nat.le_refl _) (.cells #[.bool false, .slice SM lk.length sm] 40)
  replace hT := hT.on bx
  replace hK := hK.on bx
  replace hP := hP.on bx
  replace hR := hR.on bx
  replace hA := hA.on bx
  replace hB := hB.on bx
  replace hM := hM.on bx
  replace qA := qA.on bx
  replace qB := qB.on bx
  have B11 := B10.trans (bx.mono B10.size)
  clear bx B10
  generalize w10.alloc (.cells #[.bool false, .slice SM lk.length sm] 40) = w11 at *
  generalize w10.heap.size = gM at *
  go_wp2_with fail
  with_reducible refine (cS3 _ hK).mono ?_
  rintro e w12 ⟨SW, sw, rfl, hW, b12⟩
  clear cS3
  replace hT := hT.on b12
  replace hK := hK.on b12
  replace hP := hP.on b12
  replace hR := hR.on b12
  replace hA := hA.on b12
  replace hB := hB.on b12
  replace hM := hM.on b12
  replace qA := qA.on b12
  replace qB := qB.on b12
  replace qM := qM.on b12
  have B12 := B11.trans (b12.mono B11.size)
  clear b12 B11
  go_upto_region 10 with (fail)
  have qW := RowAt.new w12 40 #[.bool false, .slice SW lk.length sw]
  have bx := (Below.refl w12.heap.size w12).alloc (Nat.le_refl _) (.cells #[.bool false, .slice SW lk.length sw] 40)
  replace hT := hT.on bx
  replace hK := hK.on bx
  replace hP := hP.on bx
  replace hR := hR.on bx
  replace hA := hA.on bx
  replace hB := hB.on bx
  replace hM := hM.on bx
  replace hW := hW.on bx
  replace qA := qA.on bx
  replace qB := qB.on bx
  replace qM := qM.on bx
  have B13 := B12.trans (bx.mono B12.size)
  clear bx B12
  generalize w12.alloc (.cells #[.bool false, .slice SW lk.length sw] 40) = w13 at *
  generalize w12.heap.size = gW at *
  obtain ⟨s0, s1⟩ := qM.two
  obtain ⟨s2, s3⟩ := qW.two
  go_wp2_with fail
  with_reducible refine (Same_eq _ _ false false lk lk _ true (sameT_refl _ _) (Tk.of hM) (Tk.of hW) (by omega) (by omega)).mono ?_
  rintro e w14 ⟨rfl, b14⟩
  clear s0 s1 s2 s3 hW qW
  replace hT := hT.on b14
  replace hK := hK.on b14
  replace hP := hP.on b14
  replace hR := hR.on b14
  replace hA := hA.on b14
  replace hB := hB.on b14
  replace hM := hM.on b14
  replace qA := qA.on b14
  replace qB := qB.on b14
  replace qM := qM.on b14
  have B14 := B13.trans (b14.mono B13.size)
  clear b14 B13
  go_wp2_with fail
  obtain ⟨s0, s1⟩ := qA.two
  have d1 : Prs w14.drew w14.drew.heap.size (.slice A t.length c) t := hT
  have d2 : Wds w14.drew w14.drew.heap.size (.slice K n kc) (ks.take n) := hP
  have d3 : Prs w14.drew w14.drew.heap.size (.slice SA la.length sa) la := hA
  refine wp_still_tail_ 7 (by kernel_rfl) (by kernel_rfl) ?_
  simp only [List.take_succ_cons, List.take_zero, List.drop_succ_cons, List.drop_zero]
  repeat still_step
  refine wpStill_nil ?_
  go_wp2_with fail
  with_reducible refine (cC1 _ _ _ d1 d2 d3).mono ?_
  rintro e w15 ⟨rfl, b15⟩
  replace b15 := ((Below.refl w14.heap.size w14).drew).trans b15
  clear s0 s1 cC1 d1 d2 d3
  replace hT := hT.on b15
  replace hK := hK.on b15
  replace hP := hP.on b15
  replace hR := hR.on b15
  replace hA := hA.on b15
  replace hB := hB.on b15
  replace hM := hM.on b15
  replace qA := qA.on b15
  replace qB := qB.on b15
  replace qM := qM.on b15
  have B15 := B14.trans (b15.mono B14.size)
  clear b15 B14
  go_wp2_with fail
  obtain ⟨s0, s1⟩ := qB.two
  have d1 : Prs w15.drew w15.drew.heap.size (.slice A t.length c) t := hT
  have d2 : Wds w15.drew w15.drew.heap.size (.slice Q (ks.length - n) (kc - n)) (ks.drop n) := hR
  have d3 : Prs w15.drew w15.drew.heap.size (.slice SB lb.length sb) lb := hB
  refine wp_still_tail_ 7 (by kernel_rfl) (by kernel_rfl) ?_
  simp only [List.take_succ_cons, List.take_zero, List.drop_succ_cons, List.drop_zero]
  repeat still_step
  refine wpStill_nil ?_
  go_wp2_with fail
  with_reducible refine (cC2 _ _ _ d1 d2 d3).mono ?_
  rintro e w16 ⟨rfl, b16⟩
  replace b16 := ((Below.refl w15.heap.size w15).drew).trans b16
  clear s0 s1 cC2 d1 d2 d3
  replace hT := hT.on b16
  replace hK := hK.on b16
  replace hM := hM.on b16
  replace qM := qM.on b16
  have B16 := B15.trans (b16.mono B15.size)
  clear b16 B15
  obtain ⟨s0, s1⟩ := qM.two
  go_wp2_with fail
  with_reducible refine (cC3 _ _ _ hT hK hM).mono ?_
  rintro e w17 ⟨rfl, b17⟩
  clear s0 s1 cC3
  replace hT := hT.on b17
  replace hK := hK.on b17
  replace hM := hM.on b17
  replace qM := qM.on b17
  have B17 := B16.trans (b17.mono B16.size)
  clear b17 B16
  clear hP hR hA hB hfitP hfitR hlP hlR lsP lsR hrf
  have e0 : (((ks.length : Int) = 0) = True ∧ (ks.length = 0) = True ∧ ((ks.length : Int) == 0) = true) ∨ (((ks.length : Int) = 0) = False ∧ (ks.length = 0) = False ∧ ((ks.length : Int) == 0) = false) := by
    by_cases h : ks.length = 0
    · exact .inl ⟨eq_true (by omega), eq_true h, by simp [h]⟩
    · exact .inr ⟨eq_false (by omega), eq_false h, by simp [h]⟩
  rcases e0 with ⟨e1, e2, e3⟩ | ⟨e1, e2, e3⟩
  · have hx3 := HzK.out (of_eq_true e2)
    subst hx3
    rcases HCA.out with ⟨h1, rfl⟩ | ⟨h1, rfl, rfl⟩ | ⟨h1, rest⟩
    · go_wp2_with fail
      go_ret
      exact ⟨rfl, B17⟩
    · go_wp2_with fail
      go_ret
      exact ⟨rfl, B17⟩
    · cases h1
  · have hpos : 0 < ks.length := Nat.pos_of_ne_zero fun h => by rw [e2] at h; exact h
    obtain ⟨ad, rfl, _, hc0⟩ := hK.at_ (k := 0) hpos
    have hk0 := HZ.out ks[0]
    have hm0 := HMz.out ks[0]
    have hz0 := hfit ks[0] (List.getElem_mem _)
    have hs0 : signL r [ks[0]] = [(ks[0], r)] := sign_one _ _
    rw [hs0] at hm0
    obtain ⟨l2, hl2⟩ : ∃ l2, signL r (ks ++ [ks[0]]) = l2 := ⟨_, rfl⟩
    have hl2n : l2.length ≤ 13 := by rw [← hl2, signL_length]; simp; omega
    rw [hl2] at hk0 hm0
    have HM2 := Lib.hid hm0
    clear hm0 hl2 HzK HMz HZ HM1
    generalize ks[0] = k0 at *
    have cS4 := fun (v : Value) W h => Sign_eq r v [k0] [(k0, r)] (sign_one _ _) W h (by simp)
    have cC4 := fun (P : Option Addr) pc W h1 h2 h3 => Check_eq A (some ad) P t.length c ks.length kc l2.length pc t l2 ks r false false hk0 rfl rfl W h1 h2 h3 hfit (by omega) (by omega) (by omega)
    have hc0' : w17.cell? ad = some (.int .u64 (k0 : Int)) := by simpa [Addr.add] using hc0
    have hrow : Wds (w17.alloc (.cells #[.int .u64 (k0 : Int)] 25)) (w17.alloc (.cells #[.int .u64 (k0 : Int)] 25)).heap.size (.slice (some ⟨w17.heap.size, 0, none⟩) 1 1) [k0] := Elems.row (enc := fun n : Nat => Value.int .u64 (n : Int)) (xs := [k0]) (RowAt.new w17 25 #[.int .u64 (k0 : Int)])
    have b18 := (Below.refl w17.heap.size w17).alloc (Nat.le_refl _) (.cells #[.int .u64 (k0 : Int)] 25)
    have fin : ∀ (x1 x2 x3 : Bool), True := fun _ _ _ => trivial
    clear fin
    rcases HCA.out with ⟨rfl, rfl⟩ | ⟨rfl, rfl, rfl⟩ | ⟨rfl, rest⟩
    case' inr.inr => rcases rest with ⟨g1, g2, g3, g4, rfl, rfl⟩ | ⟨g1, g2, g3, g4, rfl, rfl⟩ | ⟨g1, g2, g3, g4, rfl, rfl⟩ | ⟨g1, g2, g3, g4, rfl, rfl⟩
    all_goals
      go_wp2_with fail
      with_reducible refine (cS4 _ _ hrow).mono ?_
      rintro e w18 ⟨SC, sc, rfl, hC, b18'⟩
      replace b18 := b18.trans (b18'.mono b18.size)
      replace hT := hT.on b18
      replace hK := hK.on b18
      replace hM := hM.on b18
      replace qM := qM.on b18
      have B18 := B17.trans (b18.mono B17.size)
      clear hrow hc0 hc0' b18' b18
      go_upto_region 20 with (fail)
      have qC := RowAt.new w18 40 #[.bool false, .slice SC 1 sc]
      have bx := (Below.refl w18.heap.size w18).alloc (Nat.le_refl _) (.cells #[.bool false, .slice SC 1 sc] 40)
      replace hT := hT.on bx
      replace hK := hK.on bx
      replace hM := hM.on bx
      replace hC := hC.on bx
      replace qM := qM.on bx
      have B19 := B18.trans (bx.mono B18.size)
      clear bx B18
      generalize w18.alloc (.cells #[.bool false, .slice SC 1 sc] 40) = w19 at *
      generalize w18.heap.size = gC at *
      obtain ⟨s0, s1⟩ := qM.two
      obtain ⟨s2, s3⟩ := qC.two
      have tR : TkRow (w19.alloc (.cells #[.bool false, .slice SM lk.length sm, .bool false, .slice SC 1 sc] 40)) (.slice (some ⟨w19.heap.size, 0, none⟩) 2 2) [(false, lk), (false, [(k0, r)])] := two_toks (RowAt.new w19 40 #[.bool false, .slice SM lk.length sm, .bool false, .slice SC 1 sc]) (hM.alloc _) (hC.alloc _)
      have bR := (Below.refl w19.heap.size w19).alloc (Nat.le_refl _) (.cells #[.bool false, .slice SM lk.length sm, .bool false, .slice SC 1 sc] 40)
      go_wp2_with fail
      with_reducible refine (Merge_eq _ _ _ 0 false l2 HM2.out tR (by simp) (two_max (by unfold maxLen; omega) (by unfold maxLen; simp))).mono ?_
      rintro e w20 ⟨SX, sx, rfl, hX', b20⟩
      have hX := hX'.prs
      replace b20 := bR.trans (b20.mono bR.size)
      clear hX' tR bR s0 s1 s2 s3
      replace hT := hT.on b20
      replace hK := hK.on b20
      have B20 := B19.trans (b20.mono B19.size)
      clear b20 B19
      go_upto_region 21 with (fail)
      have qX := RowAt.new w20 40 #[.bool false, .slice SX l2.length sx]
      have bx := (Below.refl w20.heap.size w20).alloc (Nat.le_refl _) (.cells #[.bool false, .slice SX l2.length sx] 40)
      replace hT := hT.on bx
      replace hK := hK.on bx
      replace hX := hX.on bx
      have B21 := B20.trans (bx.mono B20.size)
      clear bx B20
      generalize w20.alloc (.cells #[.bool false, .slice SX l2.length sx] 40) = w21 at *
      generalize w20.heap.size = gX at *
      obtain ⟨s0, s1⟩ := qX.two
      go_wp2_with fail
      with_reducible refine (cC4 _ _ _ hT hK hX).mono ?_
      rintro e w22 ⟨rfl, b22⟩
      have B22 := B21.trans (b22.mono B21.size)
      go_wp2_with fail
      go_ret
      exact ⟨rfl, B22⟩
theorem omerge_calls (xs0 : List Int) (v0 : Value) {w : World} (s0 : Ints w w.heap.size v0 xs0) (b0 : ∀ x ∈ xs0, -9223372036854775808 ≤ x ∧ x ≤ 9223372036854775807) (l0 : xs0.length ≤ maxLen) (xs1 : List Int) (v1 : Value) (s1 : Ints w w.heap.size v1 xs1) (b1 : ∀ x ∈ xs1, -9223372036854775808 ≤ x ∧ x ≤ 9223372036854775807) (l1 : xs1.length ≤ maxLen) (a2 : Int) (w2 : (Lit.int .i64 a2).wf = true) (a3 : Int) (w3 : (Lit.int .i64 a3).wf = true) :
    Calls Try.prog 7 #[v0, v1, .int .i64 a2, .int .i64 a3] w fun e w' => e = .returned (.bool true) ∧ Below w.heap.size w w' :=
  omerge_walk v0 v1 xs0 xs1 a2 a3 w s0 s1 b0 b1 l0 l1 (bounds_i64 w2) (bounds_i64 w3)
end Go.Proofs.Ytjjccoliknngcaa
