/- The walk of OracleMore. -/
import Derived.Test.YtjjccoliknngcaaOrcY
namespace Go.Proofs.Ytjjccoliknngcaa
open Go.RowKit Go.Lib

theorem addL_own {t m : List Pr} (ht : Rise t) : addL (addL t m) t = addL t m := addL_eq (addL_rise ht) (addL_rise ht) fun x => ⟨fun h => .inl h, fun h => by
  rcases h with h | h
  · exact h
  · exact mem_addL.2 (.inl h)⟩
theorem check_sub {t u : List Pr} {ks : List Nat} {r : Nat} {f : Bool} {l : List Pr} (hu : rightO u = true) (hs : ∀ x ∈ t, x ∈ u) (h : checkO t ks r f l = true) : checkO u ks r f l = true := by
  unfold checkO at h ⊢
  simp only [Bool.and_eq_true, List.all_eq_true, decide_eq_true_eq] at h ⊢
  obtain ⟨⟨⟨⟨⟨⟨h0, h1⟩, h2⟩, h3⟩, h4⟩, h5⟩, h6⟩ := h
  exact ⟨⟨⟨⟨⟨⟨hu, h1⟩, h2⟩, h3⟩, h4⟩, h5⟩, fun x hx => hs x (h6 x hx)⟩
theorem Add_eq (A B : Option Addr) (an ac bn bc : Nat) (t m u : List Pr) (hT : addO t m = (u, 0)) (w : World) (hv : Prs w w.heap.size (.slice A an ac) t) (hu : Prs w w.heap.size (.slice B bn bc) m) (h9 : t.length ≤ 100000) (h9m : m.length ≤ 100000) :
    Calls Try.prog 12 #[.slice A an ac, .slice B bn bc] w fun e w' => ∃ C c, e = .returned (.tuple #[.slice C u.length c, .int .i64 0]) ∧ Prs w' w'.heap.size (.slice C u.length c) u ∧ Below w.heap.size w w' := by
  have := oAdd_any (.slice A an ac) (.slice B bn bc) t m w hv hu h9 h9m
  rw [hT] at this
  exact this

set_option maxHeartbeats 4000000 in
set_option maxRecDepth 100000 in
theorem omore_walk (v u y k : Value) (raw more tok few : List Int) (root : Int) (w : World) (hv : Ints w w.heap.size v raw) (hu : Ints w w.heap.size u more) (hy : Ints w w.heap.size y tok) (hk : Ints w w.heap.size k few)
    (hI : ∀ r ∈ raw, I64 r) (hJ : ∀ r ∈ more, I64 r) (hH : ∀ r ∈ tok, I64 r) (hG : ∀ r ∈ few, I64 r) (l9v : raw.length ≤ maxLen) (l9u : more.length ≤ maxLen) (l9y : tok.length ≤ maxLen) (l9k : few.length ≤ maxLen) (hroot : I64 root) :
    Calls Try.prog 6 #[v, u, y, k, .int .i64 root] w fun e w' => e = .returned (.bool true) ∧ Below w.heap.size w w' := by
  obtain ⟨Av, cv, rfl, hcv⟩ := hv.form
  obtain ⟨Au, cu, rfl, hcu⟩ := hu.form
  obtain ⟨Ay, cy, rfl, hcy⟩ := hy.form
  obtain ⟨Ak, ck, rfl, hck⟩ := hk.form
  obtain ⟨hnd, hk12, hlk⟩ := keysL_facts few
  obtain ⟨ht, htl⟩ := tableL_facts raw
  obtain ⟨hm, hml⟩ := tableL_facts more
  have cA := fun W h => Table7_any (.slice Av raw.length cv) raw W h hI l9v
  have cB := fun W h => Table7_any (.slice Au more.length cu) more W h hJ l9u
  have cK := fun W h => Keys7_any (.slice Ak few.length ck) few W h hG l9k
  generalize tableL raw = t at *
  generalize tableL more = m at *
  generalize keysL few = ks at *
  obtain ⟨lt, hlt⟩ : ∃ lt, tokL tok = lt := ⟨_, rfl⟩
  have hlt9 : lt.length ≤ 30 := by rw [← hlt]; exact tokL_length tok
  have cT := fun W h => Token_eq (.slice Ay tok.length cy) tok false lt W hlt h hH l9y
  have HT := Lib.hid cT
  have hU := addL_own (m := m) ht
  have hUm : ∀ x, x ∈ addL t m ↔ x ∈ t ∨ x ∈ m := fun x => mem_addL
  have hUr : Rise (addL t m) := addL_rise ht
  obtain ⟨hU1, hU2⟩ := addL_length t m
  obtain ⟨us, hus⟩ : ∃ us, addL t m = us := ⟨_, rfl⟩
  rw [hus] at hU hUm hUr hU1 hU2
  have hUR : rightO us = true := (rightO_iff _).2 ⟨by omega, hUr⟩
  have a1 : addO t m = (us, 0) := by unfold addO; rw [if_pos (tableO_right ht htl), hus, if_neg (by omega)]
  have a2 : addO us t = (us, 0) := by unfold addO; rw [if_pos hUR, hU, if_neg (by omega)]
  have HA1 := Lib.hid a1
  have HA2 := Lib.hid a2
  have HUM := Lib.hid hUm
  have HTR := Lib.hid (tableO_right ht htl)
  have HMR := Lib.hid (tableO_right hm hml)
  have HUR := Lib.hid hUR
  clear a1 a2 hus hU hUm hUr hUR hlt cT ht hm hnd
  go_enter Try.func6, Try.ntmps6
  go_wp2_with fail
  with_reducible refine (awake7_any _).mono ?_
  rintro e w1 ⟨rfl, B1⟩
  go_wp2_with fail
  with_reducible refine (cA _ (hv.on B1)).mono ?_
  rintro e w2 ⟨A, c, rfl, hT, b2⟩
  have B2 := B1.trans (b2.mono B1.size)
  clear b2 B1 cA
  go_wp2_with fail
  with_reducible refine (cB _ (hu.on B2)).mono ?_
  rintro e w3 ⟨M, mc, rfl, hM, b3⟩
  replace hT := hT.on b3
  have B3 := B2.trans (b3.mono B2.size)
  clear b3 B2 cB
  go_wp2_with fail
  with_reducible refine (Add_eq A M _ c _ mc t m us HA1.out _ hT hM (by omega) (by omega)).mono ?_
  rintro e w4 ⟨U, uc, rfl, hU, b4⟩
  replace hT := hT.on b4
  replace hM := hM.on b4
  have B4 := B3.trans (b4.mono B3.size)
  clear b4 B3 HA1
  go_wp2_with fail
  with_reducible refine (Add_eq U A _ uc _ c us t us HA2.out _ hU hT (by omega) (by omega)).mono ?_
  rintro e w5 ⟨V, vc, rfl, hV, b5⟩
  replace hT := hT.on b5
  replace hM := hM.on b5
  replace hU := hU.on b5
  have B5 := B4.trans (b5.mono B4.size)
  clear b5 B4 HA2
  have hr := pickN_lt root 3 (by decide)
  have cR := fun W => pick7_any root 3 W hroot (by decide) (by decide)
  generalize pickN root 3 = r at *
  have hwr : IntKind.u64.wrap (r : Int) = (r : Int) := IntWalk.u64_in _ (by omega)
  go_wp2_with fail
  with_reducible refine (cR _).mono ?_
  rintro e w6 ⟨rfl, rfl⟩
  clear cR
  go_wp2_with fail
  with_reducible refine (cK _ (hk.on B5)).mono ?_
  rintro e w7 ⟨K, kc, rfl, hK, b7⟩
  replace hT := hT.on b7
  replace hM := hM.on b7
  replace hU := hU.on b7
  replace hV := hV.on b7
  have B7 := B5.trans (b7.mono B5.size)
  clear b7 B5 cK
  have hfit : ∀ x ∈ ks, x < 18446744073709551616 := fun x hx => by have := hk12 x hx; omega
  have cS := fun W h => Sign_eq r (.slice K ks.length kc) ks _ rfl W h (by omega)
  have ls12 : (signL r ks).length ≤ 12 := by rw [signL_length]; omega
  generalize signL r ks = l at *
  go_wp2_with fail
  with_reducible refine (cS _ hK).mono ?_
  rintro e w8 ⟨SA, sa, rfl, hA, b8⟩
  replace hT := hT.on b8
  replace hM := hM.on b8
  replace hU := hU.on b8
  replace hV := hV.on b8
  replace hK := hK.on b8
  have B8 := B7.trans (b8.mono B7.size)
  clear b8 B7 cS
  go_upto_region 9 with (fail)
  have qA := RowAt.new w8 40 #[.bool false, .slice SA l.length sa]
  have bx := (Below.refl w8.heap.size w8).alloc (Nat.le_refl _) (.cells #[.bool false, .slice SA l.length sa] 40)
  replace hT := hT.on bx
  replace hM := hM.on bx
  replace hU := hU.on bx
  replace hV := hV.on bx
  replace hK := hK.on bx
  replace hA := hA.on bx
  have B9 := B8.trans (bx.mono B8.size)
  clear bx B8
  generalize w8.alloc (.cells #[.bool false, .slice SA l.length sa] 40) = w9 at *
  generalize w8.heap.size = gA at *
  have cP := orPairs_any (.slice U us.length uc) (.slice V us.length vc) us us _ hU hV (by omega) (by omega)
  rw [decide_eq_true rfl] at cP
  go_wp2_with fail
  with_reducible refine cP.mono ?_
  rintro e w10 ⟨rfl, b10⟩
  replace hT := hT.on b10
  replace hM := hM.on b10
  replace hU := hU.on b10
  replace hK := hK.on b10
  replace hA := hA.on b10
  replace qA := qA.on b10
  have B10 := B9.trans (b10.mono B9.size)
  clear b10 B9 cP hV
  have cRt := oRight_any (.slice U us.length uc) us _ hU (by omega)
  rw [HUR.out] at cRt
  go_wp2_with fail
  with_reducible refine cRt.mono ?_
  rintro e w11 ⟨rfl, b11⟩
  replace hT := hT.on b11
  replace hM := hM.on b11
  replace hU := hU.on b11
  replace hK := hK.on b11
  replace hA := hA.on b11
  replace qA := qA.on b11
  have B11 := B10.trans (b11.mono B10.size)
  clear b11 B10 cRt
  go_upto_region 11 with (fail)
  go_cut [83, 84, 85] from 74 to 85 (fun rv nv iv wx => ∃ g : Nat, rv = .slice (some ⟨g, 0, none⟩) 2 2 ∧ nv = .int .i64 2 ∧ iv = .int .i64 0 ∧ ItRow wx (.slice (some ⟨g, 0, none⟩) 2 2) [⟨ks, r, false, l⟩, ⟨ks, r, false, lt⟩] ∧ Below w11.heap.size w11 wx)
  case first =>
    have hyw := hy.on B11
    have cT1 := HT.out _ (show Ints w11.drew w11.drew.heap.size _ _ from hyw)
    obtain ⟨y0, y1⟩ := qA.two
    go_region_held3 (fun w' => w'.cell? ⟨gA, 0, none⟩ = some (.bool false) ∧ w'.cell? ⟨gA, 1, none⟩ = some (.slice SA l.length sa)) (first | assumption | exact ⟨y0, y1⟩ | exact hz | exact ⟨cellA hz.1 _, cellA hz.2 _⟩ | go_keep)
      (first | ((with_reducible refine cT1.mono ?_); rintro e wT ⟨At, ct, rfl, tT, bT'⟩; have bT := ((Below.refl w11.heap.size w11).drew).trans bT'; have hz := (qA.on bT).two))
    all_goals
      go_simp
      go_wp2_with fail
      go_meet
      have ba := (Below.refl wT.heap.size wT).alloc (Nat.le_refl _) (.cells #[.slice K ks.length kc, .int .u64 r, .bool false, .slice SA l.length sa, .slice K ks.length kc, .int .u64 r, .bool false, .slice At lt.length ct] 44)
      exact ⟨_, rfl, rfl, rfl, two_items (i1 := ⟨ks, r, false, l⟩) (i2 := ⟨ks, r, false, lt⟩) (RowAt.new wT 44 #[.slice K ks.length kc, .int .u64 r, .bool false, .slice SA l.length sa, .slice K ks.length kc, .int .u64 r, .bool false, .slice At lt.length ct]) ((hK.on bT).on ba) ((hA.on bT).on ba) ((hK.on bT).on ba) (tT.prs.on ba), bT.trans (ba.mono bT.size)⟩
  case rest =>
    obtain ⟨w12, hw12⟩ : ∃ w12, w12 = wc := ⟨_, rfl⟩
    subst hw12
    obtain ⟨g, rfl, rfl, rfl, hR, b12⟩ := hcut
    replace hT := hT.on b12
    replace hM := hM.on b12
    replace hU := hU.on b12
    have B12 := B11.trans (b12.mono B11.size)
    clear b12 B11 qA hK hA HT
    have his : ∀ i ∈ ([⟨ks, r, false, l⟩, ⟨ks, r, false, lt⟩] : List Itm), i.ks.length ≤ 100000 ∧ i.l.length ≤ 100000 ∧ ∀ x ∈ i.ks, x < 18446744073709551616 := fun i hi => by
      simp at hi
      rcases hi with rfl | rfl
      · exact ⟨by show ks.length ≤ _; omega, by show l.length ≤ _; omega, hfit⟩
      · exact ⟨by show ks.length ≤ _; omega, by show lt.length ≤ _; omega, hfit⟩
    have hil : ([⟨ks, r, false, l⟩, ⟨ks, r, false, lt⟩] : List Itm).length = 2 := rfl
    generalize ([⟨ks, r, false, l⟩, ⟨ks, r, false, lt⟩] : List Itm) = is at *
    go_wp2_with fail
    go_loopw [85] (fun iv wr => ∃ i : Nat, i ≤ 2 ∧ iv = .int .i64 (i : Int) ∧ Below w12.heap.size w12 wr) (fun iv _ => 2 - (intOf iv).toNat)
    case atStart => exact ⟨0, by omega, rfl, Below.refl _ _⟩
    case round =>
      obtain ⟨i, hi2, rfl, hb⟩ := hrel
      replace hT := hT.on hb
      replace hM := hM.on hb
      replace hU := hU.on hb
      have B13 := B12.trans (hb.mono B12.size)
      by_cases hi : i < 2
      · have g1 : ((i : Int) < 2) = True := eq_true (by omega)
        have g2 : (i < 2) = True := eq_true hi
        have hli : i < is.length := by omega
        obtain ⟨ad, e0, K', P', kc', pc', c0, c1, c2, c3, qk, qp⟩ := (hR.on hb).read hli
        injection e0 with e0
        subst e0
        have ea : (⟨g, 0, none⟩ : Addr).add (i * 4) = ⟨g, i * 4, none⟩ := by unfold Addr.add; split <;> simp_all
        rw [ea] at c0 c1 c2 c3
        obtain ⟨h9k, h9l, hft⟩ := his _ (List.getElem_mem hli)
        have ba := (Below.refl wr.heap.size wr).alloc (Nat.le_refl _) (.cells #[.slice K' is[i].ks.length kc', .int .u64 is[i].root, .bool is[i].f, .slice P' is[i].l.length pc'] 44)
        have qI := RowAt.new wr 44 #[.slice K' is[i].ks.length kc', .int .u64 is[i].root, .bool is[i].f, .slice P' is[i].l.length pc']
        have cC := oCheck_any (.slice A t.length c) t K' P' kc' pc' _ is[i].root is[i].f _ _ (hT.on ba) (qk.on ba) (qp.on ba) hft (by omega) h9k h9l
        have HC2 := Lib.hid (fun (W : World) (hb : Below wr.heap.size wr W) => oCheck_any (.slice U us.length uc) us K' P' kc' pc' _ is[i].root is[i].f _ W (hU.on hb) (qk.on hb) (qp.on hb) hft (by omega) h9k h9l)
        have HX := Lib.hid (check_sub (t := t) (u := us) (ks := is[i].ks) (r := is[i].root) (f := is[i].f) (l := is[i].l) HUR.out (fun x hx => (HUM.out x).2 (.inl hx)))
        clear qk qp h9k h9l hft
        generalize checkO t is[i].ks is[i].root is[i].f is[i].l = x1 at *
        generalize checkO us is[i].ks is[i].root is[i].f is[i].l = x2 at *
        generalize is[i].ks.length = m1 at *
        generalize is[i].l.length = m2 at *
        generalize is[i].root = m3 at *
        generalize is[i].f = m4 at *
        go_wp2_with fail
        with_reducible refine cC.mono ?_
        rintro e w14 ⟨rfl, b14⟩
        have b14' := ba.trans (b14.mono ba.size)
        obtain ⟨z0, z1, z2, z3⟩ := (qI.on b14).four
        clear cC c0 c1 c2 c3 b14 ba qI
        cases x1
        · go_wp2_with fail
          go_roundw
          case rel => exact ⟨i + 1, by omega, by go_num, hb.trans (b14'.mono hb.size)⟩
          case measure => simp [intOf]; omega
        · have hx2 := HX.out rfl
          subst hx2
          have cC := HC2.out _ b14'
          go_wp2_with fail
          with_reducible refine cC.mono ?_
          rintro e w15 ⟨rfl, b15⟩
          have b15' := b14'.trans (b15.mono b14'.size)
          clear b15 cC
          go_wp2_with fail
          go_roundw
          case rel => exact ⟨i + 1, by omega, by go_num, hb.trans (b15'.mono hb.size)⟩
          case measure => simp [intOf]; omega
      · obtain rfl : i = 2 := by omega
        obtain ⟨wo, hwo⟩ : ∃ wo, wo = wr := ⟨_, rfl⟩
        subst hwo
        clear hR his hil hb
        go_wp2_with fail
        obtain ⟨r10, h10⟩ : ∃ r10, r10 = u10 := ⟨_, rfl⟩
        subst h10
        go_loopw [24] (fun iv wr => ∃ i : Nat, i ≤ us.length ∧ iv = .int .i64 (i : Int) ∧ Below wo.heap.size wo wr) (fun iv _ => us.length - (intOf iv).toNat)
        case atStart => exact ⟨0, Nat.zero_le _, rfl, Below.refl _ _⟩
        case round =>
          obtain ⟨j, hj, rfl, hb⟩ := hrel
          by_cases hlj : j < us.length
          · have g1 : ((j : Int) < (us.length : Int)) = True := eq_true (by omega)
            have g2 : (j < us.length) = True := eq_true hlj
            have hU' := hU.on hb
            obtain ⟨ad, rfl, d0, d1⟩ := hU'.read hlj
            have hin : us[j] ∈ us := List.getElem_mem hlj
            have hor := (HUM.out us[j]).1 hin
            have cV1 := oValid_any _ us us[j] _ hU' (by omega)
            rw [HUR.out, decide_eq_true hin] at cV1
            have cV2 := fun W (b : Below wo.heap.size wo W) => oValid_any _ t us[j] W (hT.on b) (by omega)
            have cV3 := fun W (b : Below wo.heap.size wo W) => oValid_any _ m us[j] W (hM.on b) (by omega)
            have HX := Lib.hid (show decide (us[j] ∈ t) = false → decide (us[j] ∈ m) = true from fun h => by
              rcases hor with h1 | h1
              · rw [decide_eq_true h1] at h; cases h
              · exact decide_eq_true h1)
            have HRd := Lib.hid (fun W (b : Below wo.heap.size wo W) => (hU.on b).read hlj)
            rw [HTR.out, Bool.true_and] at cV2
            rw [HMR.out, Bool.true_and] at cV3
            have HV2 := Lib.hid cV2
            have HV3 := Lib.hid cV3
            clear hin hor cV2 cV3
            generalize decide (us[j] ∈ t) = x1 at *
            generalize decide (us[j] ∈ m) = x2 at *
            generalize hp : us[j] = p at *
            go_wp2_with fail
            with_reducible refine cV1.mono ?_
            rintro e w16 ⟨rfl, b16⟩
            have hb16 := hb.trans (b16.mono hb.size)
            clear cV1 b16 d0 d1
            obtain ⟨_, e0, d0, d1⟩ := HRd.out _ hb16
            injection e0 with e0
            subst e0
            have cV2 := HV2.out _ hb16
            go_wp2_with fail
            with_reducible refine cV2.mono ?_
            rintro e w17 ⟨rfl, b17⟩
            have hb17 := hb16.trans (b17.mono hb16.size)
            clear cV2 b17 d0 d1
            cases x1
            · obtain ⟨_, e0, d0, d1⟩ := HRd.out _ hb17
              injection e0 with e0
              subst e0
              have cV3 := HV3.out _ hb17
              have hx2 := HX.out rfl
              subst hx2
              go_wp2_with fail
              with_reducible refine cV3.mono ?_
              rintro e w18 ⟨rfl, b18⟩
              have hb18 := hb17.trans (b18.mono hb17.size)
              clear cV3 b18 d0 d1
              go_wp2_with fail
              refine ⟨?_, ?measure⟩
              apply Exists.intro
              apply Exists.intro
              apply Exists.intro
              repeat apply Exists.intro
              refine ⟨?rel, rfl⟩
              case rel => exact ⟨j + 1, by omega, by go_num, hb18⟩
              case measure => simp [intOf]; omega
            · go_wp2_with fail
              refine ⟨?_, ?measure⟩
              apply Exists.intro
              apply Exists.intro
              apply Exists.intro
              repeat apply Exists.intro
              refine ⟨?rel, rfl⟩
              case rel => exact ⟨j + 1, by omega, by go_num, hb17⟩
              case measure => simp [intOf]; omega
          · obtain rfl : j = us.length := by omega
            have g1 : ((us.length : Int) < (us.length : Int)) = False := eq_false (by omega)
            have hws : IntKind.i64.wrap ((t.length : Int) + (m.length : Int)) = (t.length : Int) + (m.length : Int) := IntWalk.i64_in _ (by omega)
            have n1 : ((us.length : Int) ≤ (t.length : Int) + (m.length : Int)) = True := eq_true (by omega)
            have n2 : ((t.length : Int) ≤ (us.length : Int)) = True := eq_true (by omega)
            have n3 : (t.length ≤ us.length) = True := eq_true (by omega)
            go_wp2_with fail
            go_ret
            exact ⟨rfl, B13.trans (hb.mono B13.size)⟩
theorem omore_calls (xs0 : List Int) (v0 : Value) {w : World} (s0 : Ints w w.heap.size v0 xs0) (b0 : ∀ x ∈ xs0, -9223372036854775808 ≤ x ∧ x ≤ 9223372036854775807) (l0 : xs0.length ≤ maxLen) (xs1 : List Int) (v1 : Value) (s1 : Ints w w.heap.size v1 xs1) (b1 : ∀ x ∈ xs1, -9223372036854775808 ≤ x ∧ x ≤ 9223372036854775807) (l1 : xs1.length ≤ maxLen) (xs2 : List Int) (v2 : Value) (s2 : Ints w w.heap.size v2 xs2) (b2 : ∀ x ∈ xs2, -9223372036854775808 ≤ x ∧ x ≤ 9223372036854775807) (l2 : xs2.length ≤ maxLen) (xs3 : List Int) (v3 : Value) (s3 : Ints w w.heap.size v3 xs3) (b3 : ∀ x ∈ xs3, -9223372036854775808 ≤ x ∧ x ≤ 9223372036854775807) (l3 : xs3.length ≤ maxLen) (a4 : Int) (w4 : (Lit.int .i64 a4).wf = true) :
    Calls Try.prog 6 #[v0, v1, v2, v3, .int .i64 a4] w fun e w' => e = .returned (.bool true) ∧ Below w.heap.size w w' :=
  omore_walk v0 v1 v2 v3 xs0 xs1 xs2 xs3 a4 w s0 s1 s2 s3 b0 b1 b2 b3 l0 l1 l2 l3 (bounds_i64 w4)
end Go.Proofs.Ytjjccoliknngcaa
