/- The walk of TokenTells. -/
import Derived.Test.YtgkihgcclkkbeaaTokR
import Derived.OpenShut
namespace Go.Proofs.Ytgkihgcclkkbeaa
open Go.RowKit Go.Shelf

theorem one_byte (W : World) (g : Nat) (c : UInt8) (h : W.cell? ⟨g, 0, none⟩ = some (.int .u8 (c.toNat : Int))) : (convert 43 9 (.slice (some ⟨g, 0, none⟩) 1 1)).run Try.prog W = .ok (.string ⟨#[c]⟩) W := by
  have h := run_convert_bytes_back (P := Try.prog) W 43 9 5 ⟨g, 0, none⟩ 1 [c] Try.underlying43 Try.underlying5 Try.underlying9 (fun j hj => by
    have hj0 : j = 0 := by simpa using hj
    subst hj0
    simpa [Addr.add] using h)
  simpa using h
theorem enc_named (f : Bool) (l : List Pr) : ∃ (S : ByteArray) (e : Int), encT f l = (S.data.toList, e) := ⟨⟨(encT f l).1.toArray⟩, (encT f l).2, rfl⟩
theorem keys_named (root : Nat) (l : List Pr) : ∃ (ks : List Nat) (b : Bool), keysT root l = (ks, b) ∧ ks.length ≤ l.length := by
  refine ⟨(keysT root l).1, (keysT root l).2, rfl, ?_⟩
  unfold keysT
  split <;> simp
theorem merge_named (ts : List Tok) : ∃ (n : Int) (f : Bool) (l : List Pr), mergeT ts = (n, f, l) ∧ l.length ≤ sumLen ts := by
  refine ⟨(mergeT ts).1, (mergeT ts).2.1, (mergeT ts).2.2, rfl, ?_⟩
  unfold mergeT
  split
  · simp
  · split
    · simp
    · simp [mrgAll_len]
theorem dec_named (s : ByteArray) : ∃ (n : Int) (f : Bool) (l : List Pr), decB s.data.toList = (n, f, l) ∧ l.length ≤ s.size := by
  refine ⟨_, _, _, rfl, ?_⟩
  have h : ∀ s : List UInt8, (decB s).2.2.length ≤ s.length := fun s => by
    cases s with
    | nil => simp [decB]
    | cons b r =>
      simp only [decB]
      split
      · simp
      · split
        · simp
        · split
          · simp
          · simp [readP_length]; omega
  have := h s.data.toList
  rw [list_len] at this
  exact this
theorem ext_le2 (t : ByteArray) (i j : Nat) : (t.extract i j).size ≤ t.size := by simp [ByteArray.size_extract]; omega

set_option maxHeartbeats 16000000 in
set_option maxRecDepth 100000 in
theorem ttells_walk (ft : Bool) (l lx : List Pr) (A : Option Addr) (cap : Nat) (one two : List Int) (fa : Bool) (s sx : ByteArray) (at_ : Int) (cb : UInt8) (key root : Nat) (u v : Value) (w : World)
    (tt : Tk w (.agg #[.bool ft, .slice A l.length cap]) ft l) (hlx : lx = l.take 40) (hcl : l.length ≤ cap) (hcm : cap ≤ maxLen) (hu : Ints w w.heap.size u one) (hv : Ints w w.heap.size v two) (hI1 : ∀ r ∈ one, I64 r) (hI2 : ∀ r ∈ two, I64 r) (l91 : one.length ≤ maxLen) (l92 : two.length ≤ maxLen)
    (hat : I64 at_) (hsx : sx.size ≤ 100) (hs9 : s.size ≤ maxLen) (hme : min (s.size : Int) 100 = (sx.size : Int)) (hse : s.extract 0 sx.size = sx) (hroot : root < 18446744073709551616) :
    Calls Try.prog 3 #[.agg #[.bool ft, .slice A l.length cap], u, v, .bool fa, .string s, .int .i64 at_, .int .u8 (cb.toNat : Int), .int .u64 (key : Int), .int .u64 (root : Int)] w fun e w' => e = .returned (.bool true) ∧ Below w.heap.size w w' := by
  obtain ⟨Au, cu, rfl, -⟩ := hu.form
  obtain ⟨Av, cv, rfl, -⟩ := hv.form
  have hcm' : cap ≤ 9223372036854775807 := hcm
  have hs9' : s.size ≤ 9223372036854775807 := hs9
  have hmin : min (l.length : Int) 40 = (lx.length : Int) := by rw [hlx, List.length_take]; omega
  have hlx40 : lx.length ≤ 40 := by rw [hlx, List.length_take]; omega
  have hlxl : lx.length ≤ l.length := by rw [hlx, List.length_take]; omega
  have la0 := tokL_length one
  have lb0 := tokL_length two
  have rav := tokL_right one
  generalize hA : tokL one = a at *
  generalize hB : tokL two = b at *
  have HA := Lib.hid hA
  have HB := Lib.hid hB
  have la : a.length ≤ 1000000 := by omega
  have lb : b.length ≤ 1000000 := by omega
  have llx : lx.length ≤ 1000000 := by omega
  have htx : ∀ W, Below w.heap.size w W → Tk W (.agg #[.bool ft, .slice A lx.length cap]) ft lx := fun W hb => by
    have h1 := (tt.on hb).prs.first lx.length hlxl
    rw [show l.take lx.length = lx by rw [hlx, List.length_take]; by_cases h : 40 ≤ l.length; rw [Nat.min_eq_left h]; rw [Nat.min_eq_right (by omega), List.take_of_length_le (by omega), List.take_of_length_le (by omega)]] at h1
    exact ⟨_, rfl, h1⟩
  have HTX := Lib.hid htx
  have HLX := Lib.hid hlx
  obtain ⟨O, hO⟩ : ∃ O : ByteArray, O = ⟨(encB fa a).toArray⟩ := ⟨_, rfl⟩
  have HO := Lib.hid (show encT fa a = (O.data.toList, 0) by unfold encT; rw [rav, if_pos rfl, hO])
  have hOs : O.size = 1 + 16 * a.length := by rw [← list_len, hO]; exact encB_length fa a
  have hO1 : 0 < O.size := by omega
  have hO2 : O.size ≤ 1000 := by omega
  have hpl := pickN_lt at_ (O.size : Int) (by omega)
  have pP := fun W => pick5_any at_ (O.size : Int) W hat (by omega) (by omega)
  generalize pickN at_ (O.size : Int) = k at *
  obtain ⟨r3, hr3⟩ : ∃ r3 : Nat, r3 = root % 3 := ⟨_, rfl⟩
  have hr3a : (root : Int) % 3 = (r3 : Int) := by rw [hr3]; omega
  have hr3b : (root : Int).tmod 3 = (r3 : Int) := by rw [Int.tmod_eq_emod_of_nonneg (by omega)]; exact hr3a
  have HMIN := Lib.hid hmin
  have HME := Lib.hid hme
  have HSE := Lib.hid hse
  have HR3a := Lib.hid hr3a
  have HR3b := Lib.hid hr3b
  clear hA hB htx hlx hO hOs hr3 hmin hme hse hr3a hr3b rav
  have hmin := HMIN.out
  go_enter Try.func3, Try.ntmps3
  have hA1 : Below (w).heap.size (w) (w.alloc (.cells #[.bool ft, .slice A l.length cap] 24)) := (Below.refl _ _).alloc (Nat.le_refl _) _
  have r0_ := RowAt.new (w) 24 #[.bool ft, .slice A l.length cap]
  have hw2 : Below w.heap.size w (w.alloc (.cells #[.bool ft, .slice A l.length cap] 24)) := hA1
  clear hA1
  have r0 : RowAt (w.alloc (.cells #[.bool ft, .slice A l.length cap] 24)) (w.heap.size) 24 [.bool ft, .slice A l.length cap] := r0_
  clear r0_
  obtain ⟨cr00_1, cr01_1⟩ := r0.two
  go_wp2_with fail
  with_reducible refine (awake_any _).mono ?_
  rintro e w1 ⟨rfl, hB3⟩
  clear cr00_1 cr01_1
  replace r0 := r0.on hB3
  have hw4 : Below w.heap.size w (w1) := hw2.trans (hB3.mono hw2.size)
  clear hw2
  clear hB3
  obtain ⟨cr00_2, cr01_2⟩ := r0.two
  have hbw1 := hw4
  have hA5 : Below (w1).heap.size (w1) (w1.alloc (.cells #[.bool ft, .slice A l.length cap] 24)) := (Below.refl _ _).alloc (Nat.le_refl _) _
  have rx_ := RowAt.new (w1) 24 #[.bool ft, .slice A l.length cap]
  replace r0 := r0.on hA5
  have hw6 : Below w.heap.size w (w1.alloc (.cells #[.bool ft, .slice A l.length cap] 24)) := hw4.trans (hA5.mono hw4.size)
  clear hw4
  clear hA5
  obtain ⟨cr00_3, cr01_3⟩ := r0.two
  have rx : RowAt (w1.alloc (.cells #[.bool ft, .slice A l.length cap] 24)) (w1.heap.size) 24 [.bool ft, .slice A l.length cap] := rx_
  clear rx_
  obtain ⟨crx0_4, crx1_4⟩ := rx.two
  go_upto_region 3 with (fail)
  go_cut [] from 50 to 57 (fun wx => RowAt wx w1.heap.size 24 [.bool ft, .slice A lx.length cap] ∧ Below w.heap.size w wx)
  case first =>
    have fz := rx.frozen 1
    go_wp2_with fail
    go_meet
    exact ⟨RowAt.new w1 24 #[.bool ft, .slice A lx.length cap], hbw1.alloc hbw1.size _⟩
  case rest =>
    obtain ⟨w2, hw2⟩ : ∃ w2, w2 = wc := ⟨_, rfl⟩
    subst hw2
    clear rx r0 cr00_2 cr01_2 cr00_3 cr01_3 crx0_4 crx1_4 hmin hw6
    obtain ⟨rx, hbx⟩ := hcut
    replace hu := hu.on hbx
    replace hv := hv.on hbx
    have tx := HTX.out _ hbx
    obtain ⟨crx0_31, crx1_31⟩ := rx.two
    go_wp2_with fail
    with_reducible refine (Token_eq _ one fa a _ HA.out hu hI1 l91).mono ?_
    rintro e w3 ⟨A1, c1, rfl, t1, hB31⟩
    clear crx0_31 crx1_31
    replace hu := hu.on hB31
    replace hv := hv.on hB31
    replace tx := tx.on hB31
    replace rx := rx.on hB31
    have hw32 : Below w.heap.size w (w3) := hbx.trans (hB31.mono hbx.size)
    clear hbx
    clear hB31
    obtain ⟨crx0_32, crx1_32⟩ := rx.two
    have hA33 : Below (w3).heap.size (w3) (w3.alloc (.cells #[.bool fa, .slice A1 a.length c1] 24)) := (Below.refl _ _).alloc (Nat.le_refl _) _
    have r1_ := RowAt.new (w3) 24 #[.bool fa, .slice A1 a.length c1]
    replace hv := hv.on hA33
    replace tx := tx.on hA33
    replace t1 := t1.on hA33
    replace rx := rx.on hA33
    have hw34 : Below w.heap.size w (w3.alloc (.cells #[.bool fa, .slice A1 a.length c1] 24)) := hw32.trans (hA33.mono hw32.size)
    clear hw32
    clear hA33
    obtain ⟨crx0_33, crx1_33⟩ := rx.two
    have r1 : RowAt (w3.alloc (.cells #[.bool fa, .slice A1 a.length c1] 24)) (w3.heap.size) 24 [.bool fa, .slice A1 a.length c1] := r1_
    clear r1_
    obtain ⟨cr10_34, cr11_34⟩ := r1.two
    go_wp2_with fail
    with_reducible refine (Token_eq _ two false b _ HB.out hv hI2 l92).mono ?_
    rintro e w4 ⟨A2, c2, rfl, t2, hB35⟩
    clear crx0_32 crx1_32 crx0_33 crx1_33 cr10_34 cr11_34
    replace hv := hv.on hB35
    replace tx := tx.on hB35
    replace t1 := t1.on hB35
    replace rx := rx.on hB35
    replace r1 := r1.on hB35
    have hw36 : Below w.heap.size w (w4) := hw34.trans (hB35.mono hw34.size)
    clear hw34
    clear hB35
    obtain ⟨crx0_35, crx1_35⟩ := rx.two
    obtain ⟨cr10_36, cr11_36⟩ := r1.two
    have hA37 : Below (w4).heap.size (w4) (w4.alloc (.cells #[.bool false, .slice A2 b.length c2] 24)) := (Below.refl _ _).alloc (Nat.le_refl _) _
    have r2_ := RowAt.new (w4) 24 #[.bool false, .slice A2 b.length c2]
    replace tx := tx.on hA37
    replace t1 := t1.on hA37
    replace t2 := t2.on hA37
    replace rx := rx.on hA37
    replace r1 := r1.on hA37
    have hw38 : Below w.heap.size w (w4.alloc (.cells #[.bool false, .slice A2 b.length c2] 24)) := hw36.trans (hA37.mono hw36.size)
    clear hw36
    clear hA37
    obtain ⟨crx0_37, crx1_37⟩ := rx.two
    obtain ⟨cr10_38, cr11_38⟩ := r1.two
    have r2 : RowAt (w4.alloc (.cells #[.bool false, .slice A2 b.length c2] 24)) (w4.heap.size) 24 [.bool false, .slice A2 b.length c2] := r2_
    clear r2_
    obtain ⟨cr20_39, cr21_39⟩ := r2.two
    have tr_ := RowAt.new (w4.alloc (.cells #[.bool false, .slice A2 b.length c2] 24)) 24 #[.bool ft, .slice A lx.length cap, .bool fa, .slice A1 a.length c1, .bool false, .slice A2 b.length c2]
    have hA39 : Below (w4.alloc (.cells #[.bool false, .slice A2 b.length c2] 24)).heap.size (w4.alloc (.cells #[.bool false, .slice A2 b.length c2] 24)) ((w4.alloc (.cells #[.bool false, .slice A2 b.length c2] 24)).alloc (.cells #[.bool ft, .slice A lx.length cap, .bool fa, .slice A1 a.length c1, .bool false, .slice A2 b.length c2] 24)) := (Below.refl _ _).alloc (Nat.le_refl _) _
    replace tx := tx.on hA39
    replace t1 := t1.on hA39
    replace t2 := t2.on hA39
    replace rx := rx.on hA39
    replace r1 := r1.on hA39
    replace r2 := r2.on hA39
    have hw40 : Below w.heap.size w ((w4.alloc (.cells #[.bool false, .slice A2 b.length c2] 24)).alloc (.cells #[.bool ft, .slice A lx.length cap, .bool fa, .slice A1 a.length c1, .bool false, .slice A2 b.length c2] 24)) := hw38.trans (hA39.mono hw38.size)
    clear hw38
    clear hA39
    obtain ⟨crx0_40, crx1_40⟩ := rx.two
    obtain ⟨cr10_41, cr11_41⟩ := r1.two
    obtain ⟨cr20_42, cr21_42⟩ := r2.two
    simp only [World.size_alloc] at tr_
    have tr : TkRow ((w4.alloc (.cells #[.bool false, .slice A2 b.length c2] 24)).alloc (.cells #[.bool ft, .slice A lx.length cap, .bool fa, .slice A1 a.length c1, .bool false, .slice A2 b.length c2] 24)) (.slice (some ⟨w4.heap.size + 1, 0, none⟩) 3 3) [(ft, lx), (fa, a), (false, b)] := TkRow.of (xs := [(ft, .slice A lx.length cap), (fa, .slice A1 a.length c1), (false, .slice A2 b.length c2)]) tr_ (.cons tx (.cons t1 (.cons t2 (.nil _))))
    clear tr_
    go_wp2_with fail
    clear crx0_35 crx1_35 cr10_36 cr11_36 crx0_37 crx1_37 cr10_38 cr11_38 cr20_39 cr21_39 crx0_40 crx1_40 cr10_41 cr11_41 cr20_42 cr21_42
    generalize (w4.alloc (.cells #[.bool false, .slice A2 b.length c2] 24)).alloc (.cells #[.bool ft, .slice A lx.length cap, .bool fa, .slice A1 a.length c1, .bool false, .slice A2 b.length c2] 24) = wz at *
    go_loopw [68] (fun iv wr => ∃ i : Nat, i ≤ 3 ∧ iv = .int .i64 (i : Int) ∧ Below wz.heap.size wz wr) (fun iv _ => 3 - (intOf iv).toNat)
    case atStart => exact ⟨0, Nat.zero_le _, rfl, Below.refl _ _⟩
    case round =>
      obtain ⟨i, hi, rfl, hb⟩ := hrel
      obtain ⟨wo, hwo⟩ : ∃ wo, wo = wr := ⟨_, rfl⟩
      subst hwo
      have hbw := bstep hw40 hb hw40.size
      replace tr := tr.on hb
      replace t1 := t1.on hb
      replace t2 := t2.on hb
      replace tx := tx.on hb
      replace r1 := r1.on hb
      replace r2 := r2.on hb
      replace rx := rx.on hb
      by_cases hlt : i < 3
      · obtain ⟨ad, uy, hade, had, k1, k2, hPy⟩ := tr.at_ (k := i) hlt
        injection hade with hade
        subst hade
        simp only [addr0] at k1 k2
        have hly : ([(ft, lx), (fa, a), (false, b)][i]).2.length ≤ 40 := by
          match i, hlt with
          | 0, _ => exact hlx40
          | 1, _ => show a.length ≤ 40; omega
          | 2, _ => show b.length ≤ 40; omega
        generalize ([(ft, lx), (fa, a), (false, b)][i]).1 = fy at *
        generalize ([(ft, lx), (fa, a), (false, b)][i]).2 = ly at *
        obtain ⟨Ay, cy, rfl, hcy⟩ := hPy.form
        have ty : Tk wo (.agg #[.bool fy, .slice Ay ly.length cy]) fy ly := ⟨_, rfl, hPy⟩
        have ly9 : ly.length ≤ 1000000 := by omega
        obtain ⟨S, e0, hE⟩ := enc_named fy ly
        have HE := Lib.hid hE
        obtain ⟨rr, hrr⟩ : ∃ rr, rightT ly = rr := ⟨_, rfl⟩
        have HRR := Lib.hid hrr
        clear hPy hE hrr
        have hA61 : Below (wo).heap.size (wo) (wo.alloc (.cells #[.bool fy, .slice Ay ly.length cy] 24)) := (Below.refl _ _).alloc (Nat.le_refl _) _
        have ry_ := RowAt.new (wo) 24 #[.bool fy, .slice Ay ly.length cy]
        replace tr := tr.on hA61
        replace t1 := t1.on hA61
        replace t2 := t2.on hA61
        replace tx := tx.on hA61
        replace ty := ty.on hA61
        replace r1 := r1.on hA61
        replace r2 := r2.on hA61
        replace rx := rx.on hA61
        have hw62 : Below wz.heap.size wz (wo.alloc (.cells #[.bool fy, .slice Ay ly.length cy] 24)) := hb.trans (hA61.mono hb.size)
        clear hb
        clear hA61
        obtain ⟨cr10_61, cr11_61⟩ := r1.two
        obtain ⟨cr20_62, cr21_62⟩ := r2.two
        obtain ⟨crx0_63, crx1_63⟩ := rx.two
        have ry : RowAt (wo.alloc (.cells #[.bool fy, .slice Ay ly.length cy] 24)) (wo.heap.size) 24 [.bool fy, .slice Ay ly.length cy] := ry_
        clear ry_
        obtain ⟨cry0_64, cry1_64⟩ := ry.two
        obtain ⟨cr10_65, cr11_65⟩ := r1.two
        obtain ⟨cr20_66, cr21_66⟩ := r2.two
        obtain ⟨crx0_67, crx1_67⟩ := rx.two
        go_wp2_with fail
        clear k1 k2
        with_reducible refine (Encode_eq _ fy ly _ S e0 HE.out ty ly9).mono ?_
        rintro e w5 ⟨rfl, hB63⟩
        clear cr10_61 cr11_61 cr20_62 cr21_62 crx0_63 crx1_63 cry0_64 cry1_64 cr10_65 cr11_65 cr20_66 cr21_66 crx0_67 crx1_67
        replace tr := tr.on hB63
        replace t1 := t1.on hB63
        replace t2 := t2.on hB63
        replace tx := tx.on hB63
        replace ty := ty.on hB63
        replace r1 := r1.on hB63
        replace r2 := r2.on hB63
        replace rx := rx.on hB63
        replace ry := ry.on hB63
        have hw64 : Below wz.heap.size wz (w5) := hw62.trans (hB63.mono hw62.size)
        clear hw62
        clear hB63
        obtain ⟨cr10_68, cr11_68⟩ := r1.two
        obtain ⟨cr20_69, cr21_69⟩ := r2.two
        obtain ⟨crx0_70, crx1_70⟩ := rx.two
        obtain ⟨cry0_71, cry1_71⟩ := ry.two
        go_wp2_with fail
        with_reducible refine (rEncode_eq _ fy ly _ S e0 HE.out ty ly9).mono ?_
        rintro e w6 ⟨rfl, hB65⟩
        clear cr10_68 cr11_68 cr20_69 cr21_69 crx0_70 crx1_70 cry0_71 cry1_71
        replace tr := tr.on hB65
        replace t1 := t1.on hB65
        replace t2 := t2.on hB65
        replace tx := tx.on hB65
        replace ty := ty.on hB65
        replace r1 := r1.on hB65
        replace r2 := r2.on hB65
        replace rx := rx.on hB65
        replace ry := ry.on hB65
        have hw66 : Below wz.heap.size wz (w6) := hw64.trans (hB65.mono hw64.size)
        clear hw64
        clear hB65
        obtain ⟨cr10_72, cr11_72⟩ := r1.two
        obtain ⟨cr20_73, cr21_73⟩ := r2.two
        obtain ⟨crx0_74, crx1_74⟩ := rx.two
        obtain ⟨cry0_75, cry1_75⟩ := ry.two
        go_wp2_with fail
        obtain ⟨y0, y1⟩ := ry.laters
        have cR := fun p : Later w6 => Right_eq _ fy ly p.W rr HRR.out (ty.on p.h) ly9
        have cRr := fun p : Later w6 => rRight_eq _ fy ly p.W rr HRR.out (ty.on p.h) ly9
        refine wp_region_later (by kernel_rfl) (by kernel_rfl) ?_
        repeat (go_big_quiet_step (first | (go_at_call 13; with_reducible exact later_of (cR _)) | (go_at_call 14; with_reducible exact later_of (cRr _))))
        refine wpQuiet_nil ?_
        intro _ hw'
        obtain ⟨pq, rfl⟩ := hw'
        have hbq : Below w6.heap.size w6 pq.W := pq.h
        clear y0 y1 cR cRr
        generalize pq.W = w7 at *
        clear cr10_72 cr11_72 cr20_73 cr21_73 crx0_74 crx1_74 cry0_75 cry1_75
        replace tr := tr.on hbq
        replace t1 := t1.on hbq
        replace t2 := t2.on hbq
        replace tx := tx.on hbq
        replace ty := ty.on hbq
        replace r1 := r1.on hbq
        replace r2 := r2.on hbq
        replace rx := rx.on hbq
        replace ry := ry.on hbq
        have hw67 : Below wz.heap.size wz (w7) := hw66.trans (hbq.mono hw66.size)
        clear hw66
        clear hbq
        obtain ⟨cr10_76, cr11_76⟩ := r1.two
        obtain ⟨cr20_77, cr21_77⟩ := r2.two
        obtain ⟨crx0_78, crx1_78⟩ := rx.two
        obtain ⟨cry0_79, cry1_79⟩ := ry.two
        have hr3a := HR3a.out
        have hr3b := HR3b.out
        have ww_ := RowAt.new w7 26 #[.int .u64 (root : Int), .int .u64 (r3 : Int)]
        have hA68 : Below (w7).heap.size (w7) (w7.alloc (.cells #[.int .u64 (root : Int), .int .u64 (r3 : Int)] 26)) := (Below.refl _ _).alloc (Nat.le_refl _) _
        replace tr := tr.on hA68
        replace t1 := t1.on hA68
        replace t2 := t2.on hA68
        replace tx := tx.on hA68
        replace ty := ty.on hA68
        replace r1 := r1.on hA68
        replace r2 := r2.on hA68
        replace rx := rx.on hA68
        replace ry := ry.on hA68
        have hw69 : Below wz.heap.size wz (w7.alloc (.cells #[.int .u64 (root : Int), .int .u64 (r3 : Int)] 26)) := hw67.trans (hA68.mono hw67.size)
        clear hw67
        clear hA68
        obtain ⟨cr10_80, cr11_80⟩ := r1.two
        obtain ⟨cr20_81, cr21_81⟩ := r2.two
        obtain ⟨crx0_82, crx1_82⟩ := rx.two
        obtain ⟨cry0_83, cry1_83⟩ := ry.two
        have ww : Wds (w7.alloc (.cells #[.int .u64 (root : Int), .int .u64 (r3 : Int)] 26)) (w7.alloc (.cells #[.int .u64 (root : Int), .int .u64 (r3 : Int)] 26)).heap.size (.slice (some ⟨w7.heap.size, 0, none⟩) 2 2) [root, r3] := Elems.row (xs := [root, r3]) ww_
        clear ww_
        go_wp2_with fail
        clear hr3a hr3b cr10_76 cr11_76 cr20_77 cr21_77 crx0_78 crx1_78 cry0_79 cry1_79 cr10_80 cr11_80 cr20_81 cr21_81 crx0_82 crx1_82 cry0_83 cry1_83
        generalize w7.alloc (.cells #[.int .u64 (root : Int), .int .u64 (r3 : Int)] 26) = w8 at *
        go_loopw [102] (fun jv wr => ∃ j : Nat, j ≤ 2 ∧ jv = .int .i64 (j : Int) ∧ Below w8.heap.size w8 wr) (fun jv _ => 2 - (intOf jv).toNat)
        case atStart => exact ⟨0, Nat.zero_le _, rfl, Below.refl _ _⟩
        case round =>
          obtain ⟨j, hj, rfl, hb8⟩ := hrel
          have hbw8 := bstep hw69 hb8 hw69.size
          replace tr := tr.on hb8
          replace t1 := t1.on hb8
          replace t2 := t2.on hb8
          replace tx := tx.on hb8
          replace ty := ty.on hb8
          replace ww := ww.on hb8
          replace r1 := r1.on hb8
          replace r2 := r2.on hb8
          replace rx := rx.on hb8
          replace ry := ry.on hb8
          by_cases hlt2 : j < 2
          · obtain ⟨ad, hade, _, q1⟩ := ww.at_ (k := j) hlt2
            injection hade with hade
            subst hade
            simp only [addr0] at q1
            generalize ([root, r3][j]) = rk at *
            obtain ⟨ks, bk, hK, hkl⟩ := keys_named rk ly
            have HK := Lib.hid hK
            have lk9 : ks.length ≤ 1000000 := by omega
            clear hK
            obtain ⟨cry0_91, cry1_91⟩ := ry.two
            go_wp2_with fail
            clear q1
            with_reducible refine (Keys_eq _ fy ly rk _ ks bk HK.out ty ly9).mono ?_
            rintro e w9 ⟨A7, c7, rfl, kk, hB91⟩
            clear cry0_91 cry1_91
            replace ty := ty.on hB91
            replace ry := ry.on hB91
            have hw92 : Below w8.heap.size w8 (w9) := hb8.trans (hB91.mono hb8.size)
            clear hb8
            clear hB91
            obtain ⟨cry0_92, cry1_92⟩ := ry.two
            go_wp2_with fail
            with_reducible refine (rKeys_eq _ fy ly rk _ ks bk HK.out ty ly9).mono ?_
            rintro e w10 ⟨A8, c8, rfl, kl, hB93⟩
            clear cry0_92 cry1_92
            replace ty := ty.on hB93
            replace kk := kk.on hB93
            replace ry := ry.on hB93
            have hw94 : Below w8.heap.size w8 (w10) := hw92.trans (hB93.mono hw92.size)
            clear hw92
            clear hB93
            obtain ⟨cry0_93, cry1_93⟩ := ry.two
            have hbb : (bk != bk) = false := by simp
            go_wp2_with fail
            with_reducible refine (Words_eq _ _ ks ks _ true (decide_eq_true rfl) kk kl lk9 lk9).mono ?_
            rintro e w11 ⟨rfl, hB95⟩
            clear cry0_93 cry1_93
            replace ty := ty.on hB95
            replace kk := kk.on hB95
            replace kl := kl.on hB95
            replace ry := ry.on hB95
            have hw96 : Below w8.heap.size w8 (w11) := hw94.trans (hB95.mono hw94.size)
            clear hw94
            clear hB95
            obtain ⟨cry0_94, cry1_94⟩ := ry.two
            go_wp2_with fail
            go_roundw
            case rel => exact ⟨j + 1, by omega, by go_num, hw96⟩
            case measure => simp [intOf]; omega
          · skip
            have hlt3 : (j < 2) = False := eq_false hlt2
            obtain ⟨nm, fm, lm, hM, hml⟩ := merge_named [(fy, ly), (fa, a), (false, b), (ft, lx)]
            have HM := Lib.hid hM
            have lm9 : lm.length ≤ 1000000 := by simp [sumLen] at hml; omega
            have HSM := Lib.hid (sameT_refl fm lm)
            have nine4 : ∀ t ∈ [(fy, ly), (fa, a), (false, b), (ft, lx)], t.2.length ≤ maxLen := fun t ht => by
              simp at ht
              rcases ht with rfl | rfl | rfl | rfl <;> exact small (by assumption)
            clear hM hml ww
            obtain ⟨cr10_121, cr11_121⟩ := r1.two
            obtain ⟨cr20_122, cr21_122⟩ := r2.two
            obtain ⟨crx0_123, crx1_123⟩ := rx.two
            obtain ⟨cry0_124, cry1_124⟩ := ry.two
            have q4_ := RowAt.new (wr) 24 #[.bool fy, .slice Ay ly.length cy, .bool fa, .slice A1 a.length c1, .bool false, .slice A2 b.length c2, .bool ft, .slice A lx.length cap]
            have hA121 : Below (wr).heap.size (wr) (wr.alloc (.cells #[.bool fy, .slice Ay ly.length cy, .bool fa, .slice A1 a.length c1, .bool false, .slice A2 b.length c2, .bool ft, .slice A lx.length cap] 24)) := (Below.refl _ _).alloc (Nat.le_refl _) _
            replace t1 := t1.on hA121
            replace t2 := t2.on hA121
            replace tx := tx.on hA121
            replace ty := ty.on hA121
            replace r1 := r1.on hA121
            replace r2 := r2.on hA121
            replace rx := rx.on hA121
            replace ry := ry.on hA121
            have hw122 : Below wz.heap.size wz (wr.alloc (.cells #[.bool fy, .slice Ay ly.length cy, .bool fa, .slice A1 a.length c1, .bool false, .slice A2 b.length c2, .bool ft, .slice A lx.length cap] 24)) := hbw8.trans (hA121.mono hbw8.size)
            clear hbw8
            clear hA121
            obtain ⟨cr10_125, cr11_125⟩ := r1.two
            obtain ⟨cr20_126, cr21_126⟩ := r2.two
            obtain ⟨crx0_127, crx1_127⟩ := rx.two
            obtain ⟨cry0_128, cry1_128⟩ := ry.two
            have q4 : TkRow (wr.alloc (.cells #[.bool fy, .slice Ay ly.length cy, .bool fa, .slice A1 a.length c1, .bool false, .slice A2 b.length c2, .bool ft, .slice A lx.length cap] 24)) (.slice (some ⟨wr.heap.size, 0, none⟩) 4 4) [(fy, ly), (fa, a), (false, b), (ft, lx)] := TkRow.of (xs := [(fy, .slice Ay ly.length cy), (fa, .slice A1 a.length c1), (false, .slice A2 b.length c2), (ft, .slice A lx.length cap)]) q4_ (.cons ty (.cons t1 (.cons t2 (.cons tx (.nil _)))))
            clear q4_
            go_wp2_with fail
            with_reducible refine (Merge_eq _ _ _ nm fm lm HM.out q4 (by simp) nine4).mono ?_
            rintro e w12 ⟨A9, c9, rfl, t9, hB123⟩
            clear cr10_121 cr11_121 cr20_122 cr21_122 crx0_123 crx1_123 cry0_124 cry1_124 cr10_125 cr11_125 cr20_126 cr21_126 crx0_127 crx1_127 cry0_128 cry1_128
            replace t1 := t1.on hB123
            replace t2 := t2.on hB123
            replace tx := tx.on hB123
            replace ty := ty.on hB123
            replace q4 := q4.on hB123
            replace r1 := r1.on hB123
            replace r2 := r2.on hB123
            replace rx := rx.on hB123
            replace ry := ry.on hB123
            have hw124 : Below wz.heap.size wz (w12) := hw122.trans (hB123.mono hw122.size)
            clear hw122
            clear hB123
            obtain ⟨cr10_129, cr11_129⟩ := r1.two
            obtain ⟨cr20_130, cr21_130⟩ := r2.two
            obtain ⟨crx0_131, crx1_131⟩ := rx.two
            obtain ⟨cry0_132, cry1_132⟩ := ry.two
            have hA125 : Below (w12).heap.size (w12) (w12.alloc (.cells #[.bool fm, .slice A9 lm.length c9] 24)) := (Below.refl _ _).alloc (Nat.le_refl _) _
            have r9_ := RowAt.new (w12) 24 #[.bool fm, .slice A9 lm.length c9]
            replace t1 := t1.on hA125
            replace t2 := t2.on hA125
            replace tx := tx.on hA125
            replace ty := ty.on hA125
            replace t9 := t9.on hA125
            replace r1 := r1.on hA125
            replace r2 := r2.on hA125
            replace rx := rx.on hA125
            replace ry := ry.on hA125
            have hw126 : Below wz.heap.size wz (w12.alloc (.cells #[.bool fm, .slice A9 lm.length c9] 24)) := hw124.trans (hA125.mono hw124.size)
            clear hw124
            clear hA125
            obtain ⟨cr10_133, cr11_133⟩ := r1.two
            obtain ⟨cr20_134, cr21_134⟩ := r2.two
            obtain ⟨crx0_135, crx1_135⟩ := rx.two
            obtain ⟨cry0_136, cry1_136⟩ := ry.two
            have r9 : RowAt (w12.alloc (.cells #[.bool fm, .slice A9 lm.length c9] 24)) (w12.heap.size) 24 [.bool fm, .slice A9 lm.length c9] := r9_
            clear r9_
            obtain ⟨cr90_137, cr91_137⟩ := r9.two
            have q5_ := RowAt.new (w12.alloc (.cells #[.bool fm, .slice A9 lm.length c9] 24)) 24 #[.bool fy, .slice Ay ly.length cy, .bool fa, .slice A1 a.length c1, .bool false, .slice A2 b.length c2, .bool ft, .slice A lx.length cap]
            have hA127 : Below (w12.alloc (.cells #[.bool fm, .slice A9 lm.length c9] 24)).heap.size (w12.alloc (.cells #[.bool fm, .slice A9 lm.length c9] 24)) ((w12.alloc (.cells #[.bool fm, .slice A9 lm.length c9] 24)).alloc (.cells #[.bool fy, .slice Ay ly.length cy, .bool fa, .slice A1 a.length c1, .bool false, .slice A2 b.length c2, .bool ft, .slice A lx.length cap] 24)) := (Below.refl _ _).alloc (Nat.le_refl _) _
            replace t1 := t1.on hA127
            replace t2 := t2.on hA127
            replace tx := tx.on hA127
            replace ty := ty.on hA127
            replace t9 := t9.on hA127
            replace r1 := r1.on hA127
            replace r2 := r2.on hA127
            replace rx := rx.on hA127
            replace ry := ry.on hA127
            replace r9 := r9.on hA127
            have hw128 : Below wz.heap.size wz ((w12.alloc (.cells #[.bool fm, .slice A9 lm.length c9] 24)).alloc (.cells #[.bool fy, .slice Ay ly.length cy, .bool fa, .slice A1 a.length c1, .bool false, .slice A2 b.length c2, .bool ft, .slice A lx.length cap] 24)) := hw126.trans (hA127.mono hw126.size)
            clear hw126
            clear hA127
            obtain ⟨cr10_138, cr11_138⟩ := r1.two
            obtain ⟨cr20_139, cr21_139⟩ := r2.two
            obtain ⟨crx0_140, crx1_140⟩ := rx.two
            obtain ⟨cry0_141, cry1_141⟩ := ry.two
            obtain ⟨cr90_142, cr91_142⟩ := r9.two
            simp only [World.size_alloc] at q5_
            have q5 : TkRow ((w12.alloc (.cells #[.bool fm, .slice A9 lm.length c9] 24)).alloc (.cells #[.bool fy, .slice Ay ly.length cy, .bool fa, .slice A1 a.length c1, .bool false, .slice A2 b.length c2, .bool ft, .slice A lx.length cap] 24)) (.slice (some ⟨w12.heap.size + 1, 0, none⟩) 4 4) [(fy, ly), (fa, a), (false, b), (ft, lx)] := TkRow.of (xs := [(fy, .slice Ay ly.length cy), (fa, .slice A1 a.length c1), (false, .slice A2 b.length c2), (ft, .slice A lx.length cap)]) q5_ (.cons ty (.cons t1 (.cons t2 (.cons tx (.nil _)))))
            clear q5_
            go_wp2_with fail
            with_reducible refine (rMerge_eq _ _ _ nm fm lm HM.out q5 (by simp) nine4).mono ?_
            rintro e w13 ⟨A10, c10, rfl, t10, hB129⟩
            clear cr10_129 cr11_129 cr20_130 cr21_130 crx0_131 crx1_131 cry0_132 cry1_132 cr10_133 cr11_133 cr20_134 cr21_134 crx0_135 crx1_135 cry0_136 cry1_136 cr90_137 cr91_137 cr10_138 cr11_138 cr20_139 cr21_139 crx0_140 crx1_140 cry0_141 cry1_141 cr90_142 cr91_142
            replace t1 := t1.on hB129
            replace t2 := t2.on hB129
            replace tx := tx.on hB129
            replace ty := ty.on hB129
            replace t9 := t9.on hB129
            replace q5 := q5.on hB129
            replace r1 := r1.on hB129
            replace r2 := r2.on hB129
            replace rx := rx.on hB129
            replace ry := ry.on hB129
            replace r9 := r9.on hB129
            have hw130 : Below wz.heap.size wz (w13) := hw128.trans (hB129.mono hw128.size)
            clear hw128
            clear hB129
            obtain ⟨cr10_143, cr11_143⟩ := r1.two
            obtain ⟨cr20_144, cr21_144⟩ := r2.two
            obtain ⟨crx0_145, crx1_145⟩ := rx.two
            obtain ⟨cry0_146, cry1_146⟩ := ry.two
            obtain ⟨cr90_147, cr91_147⟩ := r9.two
            have hA131 : Below (w13).heap.size (w13) (w13.alloc (.cells #[.bool fm, .slice A10 lm.length c10] 24)) := (Below.refl _ _).alloc (Nat.le_refl _) _
            have r10_ := RowAt.new (w13) 24 #[.bool fm, .slice A10 lm.length c10]
            replace t1 := t1.on hA131
            replace t2 := t2.on hA131
            replace tx := tx.on hA131
            replace ty := ty.on hA131
            replace t9 := t9.on hA131
            replace t10 := t10.on hA131
            replace r1 := r1.on hA131
            replace r2 := r2.on hA131
            replace rx := rx.on hA131
            replace ry := ry.on hA131
            replace r9 := r9.on hA131
            have hw132 : Below wz.heap.size wz (w13.alloc (.cells #[.bool fm, .slice A10 lm.length c10] 24)) := hw130.trans (hA131.mono hw130.size)
            clear hw130
            clear hA131
            obtain ⟨cr10_148, cr11_148⟩ := r1.two
            obtain ⟨cr20_149, cr21_149⟩ := r2.two
            obtain ⟨crx0_150, crx1_150⟩ := rx.two
            obtain ⟨cry0_151, cry1_151⟩ := ry.two
            obtain ⟨cr90_152, cr91_152⟩ := r9.two
            have r10 : RowAt (w13.alloc (.cells #[.bool fm, .slice A10 lm.length c10] 24)) (w13.heap.size) 24 [.bool fm, .slice A10 lm.length c10] := r10_
            clear r10_
            obtain ⟨cr100_153, cr101_153⟩ := r10.two
            go_wp2_with fail
            with_reducible refine (Same_eq _ _ fm fm lm lm _ true HSM.out t9 t10 lm9 lm9).mono ?_
            rintro e w14 ⟨rfl, hB133⟩
            clear cr10_143 cr11_143 cr20_144 cr21_144 crx0_145 crx1_145 cry0_146 cry1_146 cr90_147 cr91_147 cr10_148 cr11_148 cr20_149 cr21_149 crx0_150 crx1_150 cry0_151 cry1_151 cr90_152 cr91_152 cr100_153 cr101_153
            replace t1 := t1.on hB133
            replace t2 := t2.on hB133
            replace tx := tx.on hB133
            replace ty := ty.on hB133
            replace t9 := t9.on hB133
            replace t10 := t10.on hB133
            replace r1 := r1.on hB133
            replace r2 := r2.on hB133
            replace rx := rx.on hB133
            replace ry := ry.on hB133
            replace r9 := r9.on hB133
            replace r10 := r10.on hB133
            have hw134 : Below wz.heap.size wz (w14) := hw132.trans (hB133.mono hw132.size)
            clear hw132
            clear hB133
            obtain ⟨cr10_154, cr11_154⟩ := r1.two
            obtain ⟨cr20_155, cr21_155⟩ := r2.two
            obtain ⟨crx0_156, crx1_156⟩ := rx.two
            obtain ⟨cry0_157, cry1_157⟩ := ry.two
            obtain ⟨cr90_158, cr91_158⟩ := r9.two
            obtain ⟨cr100_159, cr101_159⟩ := r10.two
            go_wp2_with fail
            go_roundw
            case rel => exact ⟨i + 1, by omega, by go_num, hw134⟩
            case measure => simp [intOf]; omega
      · have hlt1 : (i < 3) = False := eq_false hlt
        obtain ⟨cr10_151, cr11_151⟩ := r1.two
        go_wp2_with fail
        with_reducible refine (rEncode_eq _ fa a _ O 0 HO.out t1 la).mono ?_
        rintro e w20 ⟨rfl, hB151⟩
        clear cr10_151 cr11_151
        replace t1 := t1.on hB151
        replace r1 := r1.on hB151
        have hw152 : Below w.heap.size w (w20) := hbw.trans (hB151.mono hbw.size)
        clear hbw
        clear hB151
        obtain ⟨cr10_152, cr11_152⟩ := r1.two
        go_wp2_with fail
        with_reducible refine (pP _).mono ?_
        rintro e w_ ⟨rfl, rfl⟩
        have hme := HME.out
        have hse := HSE.out
        have hob := one_byte (w20.alloc (.cells #[.int .u8 (cb.toNat : Int)] 5)).drew w20.heap.size cb (by simp [go_sem])
        have hi0 : (0 : Int) ≤ (k : Int) := by omega
        have hi1 : (k : Int) ≤ (O.size : Int) := by omega
        have hi2 : k ≤ O.size := by omega
        have hi3 : k + 1 ≤ O.size := by omega
        have hi4 : (k : Int) + 1 ≤ (O.size : Int) := by omega
        have hs1 : (O.extract 0 k).size ≤ 1000 := Nat.le_trans (ext_le2 _ _ _) hO2
        have hs2 : (O.extract (k + 1) O.size).size ≤ 1000 := Nat.le_trans (ext_le2 _ _ _) hO2
        have hsl : (sx.size : Int) ≤ (s.size : Int) := by omega
        go_upto_region 28 with (fail)
        go_cut [186, 187, 188] from 165 to 188 (fun sv nv iv wx => ∃ G : Nat, (sv = .slice (some ⟨G, 0, none⟩) 4 4 ∧ nv = .int .i64 4 ∧ iv = .int .i64 0) ∧ (∃ ts : List ByteArray, Hid (ts.length = 4) ∧ Hid (∀ t ∈ ts, t.size ≤ 3000) ∧ RowAt wx G 9 (ts.map Value.string)) ∧ Below w20.heap.size w20 wx)
        case first =>
          go_region
          all_goals
            go_simp
            go_wp2_with fail
            go_meet
            refine ⟨_, ⟨rfl, rfl, rfl⟩, ⟨[sx, O, O.extract 0 k ++ ⟨#[cb]⟩ ++ O.extract (k + 1) O.size, O.extract 0 k], Lib.hid rfl, Lib.hid ?_, ?_⟩, (((Below.refl _ w20).alloc (Nat.le_refl _) _).alloc (by simp) _).drew⟩
            · intro t ht
              simp at ht
              rcases ht with rfl | rfl | rfl | rfl
              · omega
              · omega
              · rw [ByteArray.size_append, ByteArray.size_append]
                have : (ByteArray.mk #[cb]).size = 1 := rfl
                omega
              · omega
            · have hro := RowAt.new (w20.alloc (.cells #[.int .u8 (cb.toNat : Int)] 5)) 9 #[.string sx, .string O, .string (O.extract 0 k ++ ⟨#[cb]⟩ ++ O.extract (k + 1) O.size), .string (O.extract 0 k)]
              rw [World.size_alloc] at hro
              exact hro
        case rest =>
          obtain ⟨w21, hw21⟩ : ∃ w21, w21 = wc := ⟨_, rfl⟩
          subst hw21
          obtain ⟨G, ⟨rfl, rfl, rfl⟩, ⟨ts, HL4, HTS, hT⟩, hb20⟩ := hcut
          have hw22 := bstep hw152 hb20 hw152.size
          clear hme hse hob cr10_152 cr11_152
          go_wp2_with fail
          go_loopw [188] (fun jv wr => ∃ j : Nat, j ≤ 4 ∧ jv = .int .i64 (j : Int) ∧ Below w21.heap.size w21 wr) (fun jv _ => 4 - (intOf jv).toNat)
          case atStart => exact ⟨0, Nat.zero_le _, rfl, Below.refl _ _⟩
          case round =>
            obtain ⟨j, hj, rfl, hb⟩ := hrel
            have hbw9 := bstep hw22 hb hw22.size
            have hT9 := hT.on hb
            by_cases hlt4 : j < 4
            · have hjl : j < ts.length := by have := HL4.out; omega
              have hc9 : wr.cell? ⟨G, j, none⟩ = some (.string ts[j]) := by rw [hT9.cell, List.getElem?_map, List.getElem?_eq_getElem hjl]; rfl
              have hy9 := HTS.out _ (List.getElem_mem hjl)
              generalize ts[j] = y at *
              obtain ⟨nd, fd, ld, hD, hdl⟩ := dec_named y
              have HD := Lib.hid hD
              have ld9 : ld.length ≤ 1000000 := by omega
              have ly9 : y.size ≤ 1000000 := by omega
              have HSD := Lib.hid (sameT_refl fd ld)
              clear hD
              go_wp2_with fail
              clear hc9
              with_reducible refine (Decode_eq y _ nd fd ld HD.out ly9).mono ?_
              rintro e w23 ⟨A11, c11, rfl, t11, hB181⟩
              have hw182 : Below w21.heap.size w21 (w23) := hb.trans (hB181.mono hb.size)
              clear hb
              clear hB181
              have hA183 : Below (w23).heap.size (w23) (w23.alloc (.cells #[.bool fd, .slice A11 ld.length c11] 24)) := (Below.refl _ _).alloc (Nat.le_refl _) _
              have r11_ := RowAt.new (w23) 24 #[.bool fd, .slice A11 ld.length c11]
              replace t11 := t11.on hA183
              have hw184 : Below w21.heap.size w21 (w23.alloc (.cells #[.bool fd, .slice A11 ld.length c11] 24)) := hw182.trans (hA183.mono hw182.size)
              clear hw182
              clear hA183
              have r11 : RowAt (w23.alloc (.cells #[.bool fd, .slice A11 ld.length c11] 24)) (w23.heap.size) 24 [.bool fd, .slice A11 ld.length c11] := r11_
              clear r11_
              obtain ⟨cr110_181, cr111_181⟩ := r11.two
              go_wp2_with fail
              with_reducible refine (rDecode_eq y _ nd fd ld HD.out ly9).mono ?_
              rintro e w24 ⟨A12, c12, rfl, t12, hB185⟩
              clear cr110_181 cr111_181
              replace t11 := t11.on hB185
              replace r11 := r11.on hB185
              have hw186 : Below w21.heap.size w21 (w24) := hw184.trans (hB185.mono hw184.size)
              clear hw184
              clear hB185
              obtain ⟨cr110_182, cr111_182⟩ := r11.two
              have hA187 : Below (w24).heap.size (w24) (w24.alloc (.cells #[.bool fd, .slice A12 ld.length c12] 24)) := (Below.refl _ _).alloc (Nat.le_refl _) _
              have r12_ := RowAt.new (w24) 24 #[.bool fd, .slice A12 ld.length c12]
              replace t11 := t11.on hA187
              replace t12 := t12.on hA187
              replace r11 := r11.on hA187
              have hw188 : Below w21.heap.size w21 (w24.alloc (.cells #[.bool fd, .slice A12 ld.length c12] 24)) := hw186.trans (hA187.mono hw186.size)
              clear hw186
              clear hA187
              obtain ⟨cr110_183, cr111_183⟩ := r11.two
              have r12 : RowAt (w24.alloc (.cells #[.bool fd, .slice A12 ld.length c12] 24)) (w24.heap.size) 24 [.bool fd, .slice A12 ld.length c12] := r12_
              clear r12_
              obtain ⟨cr120_184, cr121_184⟩ := r12.two
              go_wp2_with fail
              with_reducible refine (Same_eq _ _ fd fd ld ld _ true HSD.out t11 t12 ld9 ld9).mono ?_
              rintro e w25 ⟨rfl, hB189⟩
              clear cr110_182 cr111_182 cr110_183 cr111_183 cr120_184 cr121_184
              replace t11 := t11.on hB189
              replace t12 := t12.on hB189
              replace r11 := r11.on hB189
              replace r12 := r12.on hB189
              have hw190 : Below w21.heap.size w21 (w25) := hw188.trans (hB189.mono hw188.size)
              clear hw188
              clear hB189
              obtain ⟨cr110_185, cr111_185⟩ := r11.two
              obtain ⟨cr120_186, cr121_186⟩ := r12.two
              go_wp2_with fail
              go_roundw
              case rel => exact ⟨j + 1, by omega, by go_num, hw190⟩
              case measure => simp [intOf]; omega
            · have hlt5 : (j < 4) = False := eq_false hlt4
              go_wp2_with fail
              with_reducible refine (One_eq key root _).mono ?_
              rintro e w26 ⟨A13, c13, rfl, t13, hB211⟩
              have hw212 : Below w.heap.size w (w26) := hbw9.trans (hB211.mono hbw9.size)
              clear hbw9
              clear hB211
              go_wp2_with fail
              with_reducible refine (rOne_eq key root _).mono ?_
              rintro e w27 ⟨A14, c14, rfl, t14, hB213⟩
              replace t13 := t13.on hB213
              have hw214 : Below w.heap.size w (w27) := hw212.trans (hB213.mono hw212.size)
              clear hw212
              clear hB213
              go_wp2_with fail
              with_reducible refine (Same_eq _ _ false false [(key, root)] [(key, root)] _ true (sameT_refl _ _) t13 t14 (by simp) (by simp)).mono ?_
              rintro e w28 ⟨rfl, hB215⟩
              replace t13 := t13.on hB215
              replace t14 := t14.on hB215
              have hw216 : Below w.heap.size w (w28) := hw214.trans (hB215.mono hw214.size)
              clear hw214
              clear hB215
              go_wp2_with fail
              go_ret
              exact ⟨rfl, hw216⟩

theorem ttells_calls (ft : Bool) (l : List Pr) (A : Option Addr) (cap : Nat) {w : World} (tt : Tk w (.agg #[.bool ft, .slice A l.length cap]) ft l) (hcl : l.length ≤ cap) (hcm : cap ≤ maxLen) (xs1 : List Int) (v1 : Value) (s1 : Ints w w.heap.size v1 xs1) (b1 : ∀ x ∈ xs1, -9223372036854775808 ≤ x ∧ x ≤ 9223372036854775807) (l1 : xs1.length ≤ maxLen) (xs2 : List Int) (v2 : Value) (s2 : Ints w w.heap.size v2 xs2) (b2 : ∀ x ∈ xs2, -9223372036854775808 ≤ x ∧ x ≤ 9223372036854775807) (l2 : xs2.length ≤ maxLen) (a3 : Bool) (a4 : ByteArray) (w4 : a4.size ≤ maxLen) (a5 : Int) (w5 : (Lit.int .i64 a5).wf = true) (a6 : Int) (w6 : (Lit.int .u8 a6).wf = true) (a7 : Int) (w7 : (Lit.int .u64 a7).wf = true) (a8 : Int) (w8 : (Lit.int .u64 a8).wf = true) :
    Calls Try.prog 3 #[.agg #[.bool ft, .slice A l.length cap], v1, v2, .bool a3, .string a4, .int .i64 a5, .int .u8 a6, .int .u64 a7, .int .u64 a8] w fun e w' => e = .returned (.bool true) ∧ Below w.heap.size w w' := by
  have h6 := bounds_u8 w6
  have h7 := bounds_u64 w7
  have h8 := bounds_u64 w8
  obtain ⟨k7, rfl⟩ := Int.eq_ofNat_of_zero_le h7.1
  obtain ⟨k8, rfl⟩ := Int.eq_ofNat_of_zero_le h8.1
  obtain ⟨k6, rfl⟩ := Int.eq_ofNat_of_zero_le h6.1
  obtain ⟨cb, hcb⟩ : ∃ cb : UInt8, (cb.toNat : Int) = (k6 : Int) := ⟨UInt8.ofNat k6, by rw [UInt8.toNat_ofNat']; omega⟩
  rw [← hcb]
  obtain ⟨sx, hsx, way⟩ : ∃ t : ByteArray, t.size ≤ 100 ∧ (min (a4.size : Int) 100 = (t.size : Int) ∧ a4.extract 0 t.size = t) := by
    by_cases h : 100 < a4.size
    · have hz : (a4.extract 0 100).size = 100 := by rw [ext_size _ _ _ (by omega)]
      exact ⟨a4.extract 0 100, by omega, by omega, by rw [hz]⟩
    · exact ⟨a4, by omega, by omega, by apply ByteArray.ext; simp⟩
  exact ttells_walk ft l (l.take 40) A cap xs1 xs2 a3 a4 sx a5 cb k7 k8 v1 v2 w tt rfl hcl hcm s1 s2 b1 b2 l1 l2 (bounds_i64 w5) hsx w4 way.1 way.2 (by omega)
end Go.Proofs.Ytgkihgcclkkbeaa
