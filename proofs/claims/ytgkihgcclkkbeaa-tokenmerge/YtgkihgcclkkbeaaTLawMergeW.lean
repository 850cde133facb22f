/- The walk of TokenMerge. -/
import Derived.Test.YtgkihgcclkkbeaaTokR
import Derived.OpenShut
namespace Go.Proofs.Ytgkihgcclkkbeaa
open Go.RowKit Go.Shelf

/-- Tokens that are right, few enough: what Merge tells. -/
theorem merge_ok {ts : List Tok} (h : ∀ t ∈ ts, rightT t.2 = true) (hl : sumLen ts ≤ 2048) : mergeT ts = (0, ts.any (·.1), mrgAll (ts.map (·.2))) := by
  unfold mergeT
  rw [if_neg (by rw [show allRight ts = true from List.all_eq_true.2 h]; simp), if_neg (by omega)]
theorem srt_of_right {l : List Pr} (h : rightT l = true) : srt l = true := by unfold rightT at h; simp at h; exact h.1
theorem right_of {l : List Pr} (h : srt l = true) (hl : l.length ≤ 2048) : rightT l = true := by unfold rightT; rw [h, decide_eq_true hl]; rfl
theorem srts {ts : List Tok} (h : ∀ t ∈ ts, rightT t.2 = true) : ∀ l ∈ ts.map (·.2), srt l = true := fun l hl => by
  obtain ⟨t, ht, rfl⟩ := List.mem_map.1 hl
  exact srt_of_right (h t ht)
/-- All pairs of three. -/
def all3 (a b c : List Pr) : List Pr := mrgAll [a, b, c]
theorem all3_srt {a b c : List Pr} (ha : srt a = true) (hb : srt b = true) (hc : srt c = true) : srt (all3 a b c) = true := mrgAll_srt _ (by intro l hl; simp at hl; rcases hl with rfl | rfl | rfl <;> assumption)
theorem all3_perm (a b c : List Pr) : (all3 a b c).Perm (a ++ b ++ c) := by
  have := mrgAll_perm [a, b, c]
  simpa [all3] using this
theorem all3_rot {a b c : List Pr} (ha : srt a = true) (hb : srt b = true) (hc : srt c = true) : mrgAll [c, a, b] = all3 a b c := by
  refine mrgAll_eq (by intro l hl; simp at hl; rcases hl with rfl | rfl | rfl <;> assumption) (all3_srt ha hb hc) ((all3_perm a b c).trans ?_)
  have : (a ++ b ++ c).Perm (c ++ (a ++ b)) := List.perm_append_comm
  simpa using this
theorem all3_two {a b c : List Pr} (ha : srt a = true) (hb : srt b = true) (hc : srt c = true) : mrgAll [c, mrgAll [a, b]] = all3 a b c := by
  have hab : srt (mrgAll [a, b]) = true := mrgAll_srt _ (by intro l hl; simp at hl; rcases hl with rfl | rfl <;> assumption)
  refine mrgAll_eq (by intro l hl; simp at hl; rcases hl with rfl | rfl <;> assumption) (all3_srt ha hb hc) ((all3_perm a b c).trans ?_)
  have h1 : (mrgAll [a, b]).Perm (a ++ b) := by have := mrgAll_perm [a, b]; simpa using this
  have h2 : (a ++ b ++ c).Perm (c ++ mrgAll [a, b]) := List.perm_append_comm.trans (h1.symm.append_left c)
  simpa using h2
theorem one_of_none {a : List Pr} (ha : srt a = true) : mrgAll [[], a] = a :=
  mrgAll_eq (by intro l hl; simp at hl; rcases hl with rfl | rfl; rfl; exact ha) ha (by simp)
theorem all3_count (a b c : List Pr) (p : Pr) : (all3 a b c).count p = a.count p + b.count p + c.count p := by
  rw [(all3_perm a b c).count_eq, List.count_append, List.count_append]
theorem all3_length (a b c : List Pr) : (all3 a b c).length = a.length + b.length + c.length := by
  rw [(all3_perm a b c).length_eq, List.length_append, List.length_append]

theorem pick5_8 (c : Int) (w : World) (hc : I64 c) : Calls Try.prog 21 #[.int .i64 c, .int .i64 8] w fun e w' => e = .returned (.int .i64 (pickN c 8 : Int)) ∧ w = w' := pick5_any c 8 w hc (by decide) (by decide)
theorem pick5_12 (c : Int) (w : World) (hc : I64 c) : Calls Try.prog 21 #[.int .i64 c, .int .i64 12] w fun e w' => e = .returned (.int .i64 (pickN c 12 : Int)) ∧ w = w' := pick5_any c 12 w hc (by decide) (by decide)
theorem pick5_3 (c : Int) (w : World) (hc : I64 c) : Calls Try.prog 21 #[.int .i64 c, .int .i64 3] w fun e w' => e = .returned (.int .i64 (pickN c 3 : Int)) ∧ w = w' := pick5_any c 3 w hc (by decide) (by decide)

set_option maxHeartbeats 8000000 in
set_option maxRecDepth 100000 in
theorem tmerge_walk (one two three : List Int) (fg key root : Int) (x y z : Value) (w : World) (hx : Ints w w.heap.size x one) (hy : Ints w w.heap.size y two) (hz : Ints w w.heap.size z three) (hI1 : ∀ r ∈ one, I64 r) (hI2 : ∀ r ∈ two, I64 r) (hI3 : ∀ r ∈ three, I64 r) (l91 : one.length ≤ maxLen) (l92 : two.length ≤ maxLen) (l93 : three.length ≤ maxLen) (hfg : I64 fg) (hkey : I64 key) (hroot : I64 root) :
    Calls Try.prog 5 #[x, y, z, .int .i64 fg, .int .i64 key, .int .i64 root] w fun e w' => e = .returned (.bool true) ∧ Below w.heap.size w w' := by
  obtain ⟨Ax, cx, rfl, -⟩ := hx.form
  obtain ⟨Ay, cy, rfl, -⟩ := hy.form
  obtain ⟨Az, cz, rfl, -⟩ := hz.form
  have la0 := tokL_length one
  have lb0 := tokL_length two
  have lc0 := tokL_length three
  have ra := tokL_right one
  have rb := tokL_right two
  have rc := tokL_right three
  generalize hA : tokL one = a at *
  generalize hB : tokL two = b at *
  generalize hC : tokL three = c at *
  have sa := srt_of_right ra
  have sb := srt_of_right rb
  have sc := srt_of_right rc
  have HA := Lib.hid hA
  have HB := Lib.hid hB
  have HC := Lib.hid hC
  have pf := fun W => pick5_8 fg W hfg
  have pk := fun W => pick5_12 key W hkey
  have pr := fun W => pick5_3 root W hroot
  have hk1 := pickN_lt key 12 (by decide)
  have hr1 := pickN_lt root 3 (by decide)
  generalize pickN fg 8 = P at *
  generalize pickN key 12 = k at *
  generalize pickN root 3 = r at *
  obtain ⟨fa, hfa⟩ : ∃ fa, ((P : Int) == 1) = fa := ⟨_, rfl⟩
  obtain ⟨fb, hfb⟩ : ∃ fb, ((P : Int) == 2) = fb := ⟨_, rfl⟩
  obtain ⟨fc, hfc⟩ : ∃ fc, ((P : Int) == 3) = fc := ⟨_, rfl⟩
  have lm := all3_length a b c
  have hct := all3_count a b c (k, r)
  have sm := all3_srt sa sb sc
  have hM : mergeT [(fa, a), (fb, b), (fc, c)] = (0, fa || fb || fc, all3 a b c) := by
    rw [merge_ok (by intro t ht; simp at ht; rcases ht with rfl | rfl | rfl <;> assumption) (by simp [sumLen]; omega)]
    simp [all3, Bool.or_assoc]
  have hN : mergeT [(fc, c), (fa, a), (fb, b)] = (0, fa || fb || fc, all3 a b c) := by
    rw [merge_ok (by intro t ht; simp at ht; rcases ht with rfl | rfl | rfl <;> assumption) (by simp [sumLen]; omega), ← all3_rot sa sb sc]
    cases fa <;> cases fb <;> cases fc <;> rfl
  have lab : (mrgAll [a, b]).length = a.length + b.length := by rw [mrgAll_length]; simp
  have sab : srt (mrgAll [a, b]) = true := mrgAll_srt _ (by intro l hl; simp at hl; rcases hl with rfl | rfl <;> assumption)
  have hAB : mergeT [(fa, a), (fb, b)] = (0, fa || fb, mrgAll [a, b]) := by
    rw [merge_ok (by intro t ht; simp at ht; rcases ht with rfl | rfl <;> assumption) (by simp [sumLen]; omega)]
    simp
  have hO : mergeT [(fc, c), (fa || fb, mrgAll [a, b])] = (0, fa || fb || fc, all3 a b c) := by
    rw [merge_ok (by intro t ht; simp at ht; rcases ht with rfl | rfl; exact rc; exact right_of sab (by show (mrgAll [a, b]).length ≤ 2048; omega)) (by unfold sumLen; simp only [List.map_cons, List.map_nil, List.sum_cons, List.sum_nil]; omega), ← all3_two sa sb sc]
    cases fa <;> cases fb <;> cases fc <;> rfl
  obtain ⟨N, hN0⟩ : ∃ N : List Pr, N = [] := ⟨_, rfl⟩
  have h0 : mergeT [] = (0, false, N) := by rw [hN0]; rfl
  have hP : mergeT [(false, N), (fa, a)] = (0, fa, a) := by
    rw [hN0, merge_ok (by intro t ht; simp at ht; rcases ht with rfl | rfl; rfl; exact ra) (by simp [sumLen]; omega)]
    simp [one_of_none sa]
  have rm : rightT (all3 a b c) = true := right_of sm (by omega)
  generalize hm : all3 a b c = m at *
  generalize hab : mrgAll [a, b] = ab at *
  have lm9 : m.length ≤ 1000000 := by omega
  have la : a.length ≤ 1000000 := by omega
  have lb : b.length ≤ 1000000 := by omega
  have lc : c.length ≤ 1000000 := by omega
  have lab9 : ab.length ≤ 1000000 := by omega
  have lN : N.length ≤ 1000000 := by rw [hN0]; decide
  obtain ⟨fm, hfm⟩ : ∃ fm, (fa || fb || fc) = fm := ⟨_, rfl⟩
  obtain ⟨fab, hfab⟩ : ∃ fab, (fa || fb) = fab := ⟨_, rfl⟩
  rw [hfm] at hM hN hO
  rw [hfab] at hAB hO
  have HM := Lib.hid hM
  have HN := Lib.hid hN
  have HAB := Lib.hid hAB
  have HO := Lib.hid hO
  have H0 := Lib.hid h0
  have HP := Lib.hid hP
  have HSM := Lib.hid (sameT_refl fm m)
  have HSA := Lib.hid (sameT_refl fa a)
  have HRM := Lib.hid rm
  have HCT := Lib.hid hct
  have HLM := Lib.hid lm
  have HFM := Lib.hid hfm
  have nine3 : ∀ {t1 t2 t3 : Tok}, t1.2.length ≤ 1000000 → t2.2.length ≤ 1000000 → t3.2.length ≤ 1000000 → ∀ t ∈ [t1, t2, t3], t.2.length ≤ maxLen := fun h1 h2 h3 t ht => by
    simp at ht; rcases ht with rfl | rfl | rfl <;> exact small (by assumption)
  have nine2 : ∀ {t1 t2 : Tok}, t1.2.length ≤ 1000000 → t2.2.length ≤ 1000000 → ∀ t ∈ [t1, t2], t.2.length ≤ maxLen := fun h1 h2 t ht => by
    simp at ht; rcases ht with rfl | rfl <;> exact small (by assumption)
  clear hA hB hC hM hN hAB hO h0 hP rm hct lm hfm hfab hm hab hN0 sa sb sc sm sab lab ra rb rc

  have hca := @List.count_le_length _ _ (k, r) a
  have hcb := @List.count_le_length _ _ (k, r) b
  have hcc := @List.count_le_length _ _ (k, r) c
  go_enter Try.func5, Try.ntmps5
  go_wp2_with fail
  with_reducible refine (awake_any _).mono ?_
  rintro e w1 ⟨rfl, hB1⟩
  replace hx := hx.on hB1
  replace hy := hy.on hB1
  replace hz := hz.on hB1
  have hw2 : Below w.heap.size w (w1) := hB1
  clear hB1
  go_wp2_with fail
  with_reducible refine (pf _).mono ?_
  rintro e w_ ⟨rfl, rfl⟩
  go_wp2_with fail
  with_reducible refine (Token_eq _ one fa a _ HA.out hx hI1 l91).mono ?_
  rintro e w2 ⟨A1, c1, rfl, t1, hB3⟩
  replace hx := hx.on hB3
  replace hy := hy.on hB3
  replace hz := hz.on hB3
  have hw4 : Below w.heap.size w (w2) := hw2.trans (hB3.mono hw2.size)
  clear hw2
  clear hB3
  have hA5 : Below (w2).heap.size (w2) (w2.alloc (.cells #[.bool fa, .slice A1 a.length c1] 24)) := (Below.refl _ _).alloc (Nat.le_refl _) _
  have r1_ := RowAt.new (w2) 24 #[.bool fa, .slice A1 a.length c1]
  replace hy := hy.on hA5
  replace hz := hz.on hA5
  replace t1 := t1.on hA5
  have hw6 : Below w.heap.size w (w2.alloc (.cells #[.bool fa, .slice A1 a.length c1] 24)) := hw4.trans (hA5.mono hw4.size)
  clear hw4
  clear hA5
  have r1 : RowAt (w2.alloc (.cells #[.bool fa, .slice A1 a.length c1] 24)) (w2.heap.size) 24 [.bool fa, .slice A1 a.length c1] := r1_
  clear r1_
  obtain ⟨cr10_1, cr11_1⟩ := r1.two
  go_wp2_with fail
  with_reducible refine (pf _).mono ?_
  rintro e w_ ⟨rfl, rfl⟩
  go_wp2_with fail
  with_reducible refine (Token_eq _ two fb b _ HB.out hy hI2 l92).mono ?_
  rintro e w3 ⟨A2, c2, rfl, t2, hB7⟩
  clear cr10_1 cr11_1
  replace hy := hy.on hB7
  replace hz := hz.on hB7
  replace t1 := t1.on hB7
  replace r1 := r1.on hB7
  have hw8 : Below w.heap.size w (w3) := hw6.trans (hB7.mono hw6.size)
  clear hw6
  clear hB7
  obtain ⟨cr10_2, cr11_2⟩ := r1.two
  have hA9 : Below (w3).heap.size (w3) (w3.alloc (.cells #[.bool fb, .slice A2 b.length c2] 24)) := (Below.refl _ _).alloc (Nat.le_refl _) _
  have r2_ := RowAt.new (w3) 24 #[.bool fb, .slice A2 b.length c2]
  replace hz := hz.on hA9
  replace t1 := t1.on hA9
  replace t2 := t2.on hA9
  replace r1 := r1.on hA9
  have hw10 : Below w.heap.size w (w3.alloc (.cells #[.bool fb, .slice A2 b.length c2] 24)) := hw8.trans (hA9.mono hw8.size)
  clear hw8
  clear hA9
  obtain ⟨cr10_3, cr11_3⟩ := r1.two
  have r2 : RowAt (w3.alloc (.cells #[.bool fb, .slice A2 b.length c2] 24)) (w3.heap.size) 24 [.bool fb, .slice A2 b.length c2] := r2_
  clear r2_
  obtain ⟨cr20_4, cr21_4⟩ := r2.two
  go_wp2_with fail
  with_reducible refine (pf _).mono ?_
  rintro e w_ ⟨rfl, rfl⟩
  go_wp2_with fail
  with_reducible refine (Token_eq _ three fc c _ HC.out hz hI3 l93).mono ?_
  rintro e w4 ⟨A3, c3, rfl, t3, hB11⟩
  clear cr10_2 cr11_2 cr10_3 cr11_3 cr20_4 cr21_4
  replace hz := hz.on hB11
  replace t1 := t1.on hB11
  replace t2 := t2.on hB11
  replace r1 := r1.on hB11
  replace r2 := r2.on hB11
  have hw12 : Below w.heap.size w (w4) := hw10.trans (hB11.mono hw10.size)
  clear hw10
  clear hB11
  obtain ⟨cr10_5, cr11_5⟩ := r1.two
  obtain ⟨cr20_6, cr21_6⟩ := r2.two
  have hA13 : Below (w4).heap.size (w4) (w4.alloc (.cells #[.bool fc, .slice A3 c.length c3] 24)) := (Below.refl _ _).alloc (Nat.le_refl _) _
  have r3_ := RowAt.new (w4) 24 #[.bool fc, .slice A3 c.length c3]
  replace t1 := t1.on hA13
  replace t2 := t2.on hA13
  replace t3 := t3.on hA13
  replace r1 := r1.on hA13
  replace r2 := r2.on hA13
  have hw14 : Below w.heap.size w (w4.alloc (.cells #[.bool fc, .slice A3 c.length c3] 24)) := hw12.trans (hA13.mono hw12.size)
  clear hw12
  clear hA13
  obtain ⟨cr10_7, cr11_7⟩ := r1.two
  obtain ⟨cr20_8, cr21_8⟩ := r2.two
  have r3 : RowAt (w4.alloc (.cells #[.bool fc, .slice A3 c.length c3] 24)) (w4.heap.size) 24 [.bool fc, .slice A3 c.length c3] := r3_
  clear r3_
  obtain ⟨cr30_9, cr31_9⟩ := r3.two
  have q1_ := RowAt.new (w4.alloc (.cells #[.bool fc, .slice A3 c.length c3] 24)) 24 #[.bool fa, .slice A1 a.length c1, .bool fb, .slice A2 b.length c2, .bool fc, .slice A3 c.length c3]
  have hA15 : Below (w4.alloc (.cells #[.bool fc, .slice A3 c.length c3] 24)).heap.size (w4.alloc (.cells #[.bool fc, .slice A3 c.length c3] 24)) ((w4.alloc (.cells #[.bool fc, .slice A3 c.length c3] 24)).alloc (.cells #[.bool fa, .slice A1 a.length c1, .bool fb, .slice A2 b.length c2, .bool fc, .slice A3 c.length c3] 24)) := (Below.refl _ _).alloc (Nat.le_refl _) _
  replace t1 := t1.on hA15
  replace t2 := t2.on hA15
  replace t3 := t3.on hA15
  replace r1 := r1.on hA15
  replace r2 := r2.on hA15
  replace r3 := r3.on hA15
  have hw16 : Below w.heap.size w ((w4.alloc (.cells #[.bool fc, .slice A3 c.length c3] 24)).alloc (.cells #[.bool fa, .slice A1 a.length c1, .bool fb, .slice A2 b.length c2, .bool fc, .slice A3 c.length c3] 24)) := hw14.trans (hA15.mono hw14.size)
  clear hw14
  clear hA15
  obtain ⟨cr10_10, cr11_10⟩ := r1.two
  obtain ⟨cr20_11, cr21_11⟩ := r2.two
  obtain ⟨cr30_12, cr31_12⟩ := r3.two
  simp only [World.size_alloc] at q1_
  have q1 : TkRow ((w4.alloc (.cells #[.bool fc, .slice A3 c.length c3] 24)).alloc (.cells #[.bool fa, .slice A1 a.length c1, .bool fb, .slice A2 b.length c2, .bool fc, .slice A3 c.length c3] 24)) (.slice (some ⟨w4.heap.size + 1, 0, none⟩) 3 3) [(fa, a), (fb, b), (fc, c)] := TkRow.of (xs := [(fa, .slice A1 a.length c1), (fb, .slice A2 b.length c2), (fc, .slice A3 c.length c3)]) q1_ (.cons t1 (.cons t2 (.cons t3 (.nil _))))
  clear q1_
  go_wp2_with fail
  with_reducible refine (Merge_eq _ _ _ 0 fm m HM.out q1 (by simp) (nine3 la lb lc)).mono ?_
  rintro e w5 ⟨A4, c4, rfl, t4, hB17⟩
  clear cr10_5 cr11_5 cr20_6 cr21_6 cr10_7 cr11_7 cr20_8 cr21_8 cr30_9 cr31_9 cr10_10 cr11_10 cr20_11 cr21_11 cr30_12 cr31_12
  replace t1 := t1.on hB17
  replace t2 := t2.on hB17
  replace t3 := t3.on hB17
  replace q1 := q1.on hB17
  replace r1 := r1.on hB17
  replace r2 := r2.on hB17
  replace r3 := r3.on hB17
  have hw18 : Below w.heap.size w (w5) := hw16.trans (hB17.mono hw16.size)
  clear hw16
  clear hB17
  obtain ⟨cr10_13, cr11_13⟩ := r1.two
  obtain ⟨cr20_14, cr21_14⟩ := r2.two
  obtain ⟨cr30_15, cr31_15⟩ := r3.two
  have hA19 : Below (w5).heap.size (w5) (w5.alloc (.cells #[.bool fm, .slice A4 m.length c4] 24)) := (Below.refl _ _).alloc (Nat.le_refl _) _
  have r4_ := RowAt.new (w5) 24 #[.bool fm, .slice A4 m.length c4]
  replace t1 := t1.on hA19
  replace t2 := t2.on hA19
  replace t3 := t3.on hA19
  replace t4 := t4.on hA19
  replace r1 := r1.on hA19
  replace r2 := r2.on hA19
  replace r3 := r3.on hA19
  have hw20 : Below w.heap.size w (w5.alloc (.cells #[.bool fm, .slice A4 m.length c4] 24)) := hw18.trans (hA19.mono hw18.size)
  clear hw18
  clear hA19
  obtain ⟨cr10_16, cr11_16⟩ := r1.two
  obtain ⟨cr20_17, cr21_17⟩ := r2.two
  obtain ⟨cr30_18, cr31_18⟩ := r3.two
  have r4 : RowAt (w5.alloc (.cells #[.bool fm, .slice A4 m.length c4] 24)) (w5.heap.size) 24 [.bool fm, .slice A4 m.length c4] := r4_
  clear r4_
  obtain ⟨cr40_19, cr41_19⟩ := r4.two
  have q2_ := RowAt.new (w5.alloc (.cells #[.bool fm, .slice A4 m.length c4] 24)) 24 #[.bool fc, .slice A3 c.length c3, .bool fa, .slice A1 a.length c1, .bool fb, .slice A2 b.length c2]
  have hA21 : Below (w5.alloc (.cells #[.bool fm, .slice A4 m.length c4] 24)).heap.size (w5.alloc (.cells #[.bool fm, .slice A4 m.length c4] 24)) ((w5.alloc (.cells #[.bool fm, .slice A4 m.length c4] 24)).alloc (.cells #[.bool fc, .slice A3 c.length c3, .bool fa, .slice A1 a.length c1, .bool fb, .slice A2 b.length c2] 24)) := (Below.refl _ _).alloc (Nat.le_refl _) _
  replace t1 := t1.on hA21
  replace t2 := t2.on hA21
  replace t3 := t3.on hA21
  replace t4 := t4.on hA21
  replace r1 := r1.on hA21
  replace r2 := r2.on hA21
  replace r3 := r3.on hA21
  replace r4 := r4.on hA21
  have hw22 : Below w.heap.size w ((w5.alloc (.cells #[.bool fm, .slice A4 m.length c4] 24)).alloc (.cells #[.bool fc, .slice A3 c.length c3, .bool fa, .slice A1 a.length c1, .bool fb, .slice A2 b.length c2] 24)) := hw20.trans (hA21.mono hw20.size)
  clear hw20
  clear hA21
  obtain ⟨cr10_20, cr11_20⟩ := r1.two
  obtain ⟨cr20_21, cr21_21⟩ := r2.two
  obtain ⟨cr30_22, cr31_22⟩ := r3.two
  obtain ⟨cr40_23, cr41_23⟩ := r4.two
  simp only [World.size_alloc] at q2_
  have q2 : TkRow ((w5.alloc (.cells #[.bool fm, .slice A4 m.length c4] 24)).alloc (.cells #[.bool fc, .slice A3 c.length c3, .bool fa, .slice A1 a.length c1, .bool fb, .slice A2 b.length c2] 24)) (.slice (some ⟨w5.heap.size + 1, 0, none⟩) 3 3) [(fc, c), (fa, a), (fb, b)] := TkRow.of (xs := [(fc, .slice A3 c.length c3), (fa, .slice A1 a.length c1), (fb, .slice A2 b.length c2)]) q2_ (.cons t3 (.cons t1 (.cons t2 (.nil _))))
  clear q2_
  go_wp2_with fail
  with_reducible refine (Merge_eq _ _ _ 0 fm m HN.out q2 (by simp) (nine3 lc la lb)).mono ?_
  rintro e w6 ⟨A5, c5, rfl, t5, hB23⟩
  clear cr10_13 cr11_13 cr20_14 cr21_14 cr30_15 cr31_15 cr10_16 cr11_16 cr20_17 cr21_17 cr30_18 cr31_18 cr40_19 cr41_19 cr10_20 cr11_20 cr20_21 cr21_21 cr30_22 cr31_22 cr40_23 cr41_23
  replace t1 := t1.on hB23
  replace t2 := t2.on hB23
  replace t3 := t3.on hB23
  replace t4 := t4.on hB23
  replace q2 := q2.on hB23
  replace r1 := r1.on hB23
  replace r2 := r2.on hB23
  replace r3 := r3.on hB23
  replace r4 := r4.on hB23
  have hw24 : Below w.heap.size w (w6) := hw22.trans (hB23.mono hw22.size)
  clear hw22
  clear hB23
  obtain ⟨cr10_24, cr11_24⟩ := r1.two
  obtain ⟨cr20_25, cr21_25⟩ := r2.two
  obtain ⟨cr30_26, cr31_26⟩ := r3.two
  obtain ⟨cr40_27, cr41_27⟩ := r4.two
  have hA25 : Below (w6).heap.size (w6) (w6.alloc (.cells #[.bool fm, .slice A5 m.length c5] 24)) := (Below.refl _ _).alloc (Nat.le_refl _) _
  have r5_ := RowAt.new (w6) 24 #[.bool fm, .slice A5 m.length c5]
  replace t1 := t1.on hA25
  replace t2 := t2.on hA25
  replace t3 := t3.on hA25
  replace t4 := t4.on hA25
  replace t5 := t5.on hA25
  replace r1 := r1.on hA25
  replace r2 := r2.on hA25
  replace r3 := r3.on hA25
  replace r4 := r4.on hA25
  have hw26 : Below w.heap.size w (w6.alloc (.cells #[.bool fm, .slice A5 m.length c5] 24)) := hw24.trans (hA25.mono hw24.size)
  clear hw24
  clear hA25
  obtain ⟨cr10_28, cr11_28⟩ := r1.two
  obtain ⟨cr20_29, cr21_29⟩ := r2.two
  obtain ⟨cr30_30, cr31_30⟩ := r3.two
  obtain ⟨cr40_31, cr41_31⟩ := r4.two
  have r5 : RowAt (w6.alloc (.cells #[.bool fm, .slice A5 m.length c5] 24)) (w6.heap.size) 24 [.bool fm, .slice A5 m.length c5] := r5_
  clear r5_
  obtain ⟨cr50_32, cr51_32⟩ := r5.two
  have q3_ := RowAt.new (w6.alloc (.cells #[.bool fm, .slice A5 m.length c5] 24)) 24 #[.bool fa, .slice A1 a.length c1, .bool fb, .slice A2 b.length c2]
  have hA27 : Below (w6.alloc (.cells #[.bool fm, .slice A5 m.length c5] 24)).heap.size (w6.alloc (.cells #[.bool fm, .slice A5 m.length c5] 24)) ((w6.alloc (.cells #[.bool fm, .slice A5 m.length c5] 24)).alloc (.cells #[.bool fa, .slice A1 a.length c1, .bool fb, .slice A2 b.length c2] 24)) := (Below.refl _ _).alloc (Nat.le_refl _) _
  replace t1 := t1.on hA27
  replace t2 := t2.on hA27
  replace t3 := t3.on hA27
  replace t4 := t4.on hA27
  replace t5 := t5.on hA27
  replace r1 := r1.on hA27
  replace r2 := r2.on hA27
  replace r3 := r3.on hA27
  replace r4 := r4.on hA27
  replace r5 := r5.on hA27
  have hw28 : Below w.heap.size w ((w6.alloc (.cells #[.bool fm, .slice A5 m.length c5] 24)).alloc (.cells #[.bool fa, .slice A1 a.length c1, .bool fb, .slice A2 b.length c2] 24)) := hw26.trans (hA27.mono hw26.size)
  clear hw26
  clear hA27
  obtain ⟨cr10_33, cr11_33⟩ := r1.two
  obtain ⟨cr20_34, cr21_34⟩ := r2.two
  obtain ⟨cr30_35, cr31_35⟩ := r3.two
  obtain ⟨cr40_36, cr41_36⟩ := r4.two
  obtain ⟨cr50_37, cr51_37⟩ := r5.two
  simp only [World.size_alloc] at q3_
  have q3 : TkRow ((w6.alloc (.cells #[.bool fm, .slice A5 m.length c5] 24)).alloc (.cells #[.bool fa, .slice A1 a.length c1, .bool fb, .slice A2 b.length c2] 24)) (.slice (some ⟨w6.heap.size + 1, 0, none⟩) 2 2) [(fa, a), (fb, b)] := TkRow.of (xs := [(fa, .slice A1 a.length c1), (fb, .slice A2 b.length c2)]) q3_ (.cons t1 (.cons t2 (.nil _)))
  clear q3_
  go_wp2_with fail
  with_reducible refine (Merge_eq _ _ _ 0 fab ab HAB.out q3 (by simp) (nine2 la lb)).mono ?_
  rintro e w7 ⟨A6, c6, rfl, t6, hB29⟩
  clear cr10_24 cr11_24 cr20_25 cr21_25 cr30_26 cr31_26 cr40_27 cr41_27 cr10_28 cr11_28 cr20_29 cr21_29 cr30_30 cr31_30 cr40_31 cr41_31 cr50_32 cr51_32 cr10_33 cr11_33 cr20_34 cr21_34 cr30_35 cr31_35 cr40_36 cr41_36 cr50_37 cr51_37
  replace t1 := t1.on hB29
  replace t2 := t2.on hB29
  replace t3 := t3.on hB29
  replace t4 := t4.on hB29
  replace t5 := t5.on hB29
  replace q3 := q3.on hB29
  replace r1 := r1.on hB29
  replace r2 := r2.on hB29
  replace r3 := r3.on hB29
  replace r4 := r4.on hB29
  replace r5 := r5.on hB29
  have hw30 : Below w.heap.size w (w7) := hw28.trans (hB29.mono hw28.size)
  clear hw28
  clear hB29
  obtain ⟨cr10_38, cr11_38⟩ := r1.two
  obtain ⟨cr20_39, cr21_39⟩ := r2.two
  obtain ⟨cr30_40, cr31_40⟩ := r3.two
  obtain ⟨cr40_41, cr41_41⟩ := r4.two
  obtain ⟨cr50_42, cr51_42⟩ := r5.two
  have hA31 : Below (w7).heap.size (w7) (w7.alloc (.cells #[.bool fab, .slice A6 ab.length c6] 24)) := (Below.refl _ _).alloc (Nat.le_refl _) _
  have r6_ := RowAt.new (w7) 24 #[.bool fab, .slice A6 ab.length c6]
  replace t1 := t1.on hA31
  replace t2 := t2.on hA31
  replace t3 := t3.on hA31
  replace t4 := t4.on hA31
  replace t5 := t5.on hA31
  replace t6 := t6.on hA31
  replace r1 := r1.on hA31
  replace r2 := r2.on hA31
  replace r3 := r3.on hA31
  replace r4 := r4.on hA31
  replace r5 := r5.on hA31
  have hw32 : Below w.heap.size w (w7.alloc (.cells #[.bool fab, .slice A6 ab.length c6] 24)) := hw30.trans (hA31.mono hw30.size)
  clear hw30
  clear hA31
  obtain ⟨cr10_43, cr11_43⟩ := r1.two
  obtain ⟨cr20_44, cr21_44⟩ := r2.two
  obtain ⟨cr30_45, cr31_45⟩ := r3.two
  obtain ⟨cr40_46, cr41_46⟩ := r4.two
  obtain ⟨cr50_47, cr51_47⟩ := r5.two
  have r6 : RowAt (w7.alloc (.cells #[.bool fab, .slice A6 ab.length c6] 24)) (w7.heap.size) 24 [.bool fab, .slice A6 ab.length c6] := r6_
  clear r6_
  obtain ⟨cr60_48, cr61_48⟩ := r6.two
  have q4_ := RowAt.new (w7.alloc (.cells #[.bool fab, .slice A6 ab.length c6] 24)) 24 #[.bool fc, .slice A3 c.length c3, .bool fab, .slice A6 ab.length c6]
  have hA33 : Below (w7.alloc (.cells #[.bool fab, .slice A6 ab.length c6] 24)).heap.size (w7.alloc (.cells #[.bool fab, .slice A6 ab.length c6] 24)) ((w7.alloc (.cells #[.bool fab, .slice A6 ab.length c6] 24)).alloc (.cells #[.bool fc, .slice A3 c.length c3, .bool fab, .slice A6 ab.length c6] 24)) := (Below.refl _ _).alloc (Nat.le_refl _) _
  replace t1 := t1.on hA33
  replace t2 := t2.on hA33
  replace t3 := t3.on hA33
  replace t4 := t4.on hA33
  replace t5 := t5.on hA33
  replace t6 := t6.on hA33
  replace r1 := r1.on hA33
  replace r2 := r2.on hA33
  replace r3 := r3.on hA33
  replace r4 := r4.on hA33
  replace r5 := r5.on hA33
  replace r6 := r6.on hA33
  have hw34 : Below w.heap.size w ((w7.alloc (.cells #[.bool fab, .slice A6 ab.length c6] 24)).alloc (.cells #[.bool fc, .slice A3 c.length c3, .bool fab, .slice A6 ab.length c6] 24)) := hw32.trans (hA33.mono hw32.size)
  clear hw32
  clear hA33
  obtain ⟨cr10_49, cr11_49⟩ := r1.two
  obtain ⟨cr20_50, cr21_50⟩ := r2.two
  obtain ⟨cr30_51, cr31_51⟩ := r3.two
  obtain ⟨cr40_52, cr41_52⟩ := r4.two
  obtain ⟨cr50_53, cr51_53⟩ := r5.two
  obtain ⟨cr60_54, cr61_54⟩ := r6.two
  simp only [World.size_alloc] at q4_
  have q4 : TkRow ((w7.alloc (.cells #[.bool fab, .slice A6 ab.length c6] 24)).alloc (.cells #[.bool fc, .slice A3 c.length c3, .bool fab, .slice A6 ab.length c6] 24)) (.slice (some ⟨w7.heap.size + 1, 0, none⟩) 2 2) [(fc, c), (fab, ab)] := TkRow.of (xs := [(fc, .slice A3 c.length c3), (fab, .slice A6 ab.length c6)]) q4_ (.cons t3 (.cons t6 (.nil _)))
  clear q4_
  go_wp2_with fail
  with_reducible refine (Merge_eq _ _ _ 0 fm m HO.out q4 (by simp) (nine2 lc lab9)).mono ?_
  rintro e w8 ⟨A7, c7, rfl, t7, hB35⟩
  clear cr10_38 cr11_38 cr20_39 cr21_39 cr30_40 cr31_40 cr40_41 cr41_41 cr50_42 cr51_42 cr10_43 cr11_43 cr20_44 cr21_44 cr30_45 cr31_45 cr40_46 cr41_46 cr50_47 cr51_47 cr60_48 cr61_48 cr10_49 cr11_49 cr20_50 cr21_50 cr30_51 cr31_51 cr40_52 cr41_52 cr50_53 cr51_53 cr60_54 cr61_54
  replace t1 := t1.on hB35
  replace t2 := t2.on hB35
  replace t3 := t3.on hB35
  replace t4 := t4.on hB35
  replace t5 := t5.on hB35
  replace t6 := t6.on hB35
  replace q4 := q4.on hB35
  replace r1 := r1.on hB35
  replace r2 := r2.on hB35
  replace r3 := r3.on hB35
  replace r4 := r4.on hB35
  replace r5 := r5.on hB35
  replace r6 := r6.on hB35
  have hw36 : Below w.heap.size w (w8) := hw34.trans (hB35.mono hw34.size)
  clear hw34
  clear hB35
  obtain ⟨cr10_55, cr11_55⟩ := r1.two
  obtain ⟨cr20_56, cr21_56⟩ := r2.two
  obtain ⟨cr30_57, cr31_57⟩ := r3.two
  obtain ⟨cr40_58, cr41_58⟩ := r4.two
  obtain ⟨cr50_59, cr51_59⟩ := r5.two
  obtain ⟨cr60_60, cr61_60⟩ := r6.two
  have hA37 : Below (w8).heap.size (w8) (w8.alloc (.cells #[.bool fm, .slice A7 m.length c7] 24)) := (Below.refl _ _).alloc (Nat.le_refl _) _
  have r7_ := RowAt.new (w8) 24 #[.bool fm, .slice A7 m.length c7]
  replace t1 := t1.on hA37
  replace t2 := t2.on hA37
  replace t3 := t3.on hA37
  replace t4 := t4.on hA37
  replace t5 := t5.on hA37
  replace t6 := t6.on hA37
  replace t7 := t7.on hA37
  replace r1 := r1.on hA37
  replace r2 := r2.on hA37
  replace r3 := r3.on hA37
  replace r4 := r4.on hA37
  replace r5 := r5.on hA37
  replace r6 := r6.on hA37
  have hw38 : Below w.heap.size w (w8.alloc (.cells #[.bool fm, .slice A7 m.length c7] 24)) := hw36.trans (hA37.mono hw36.size)
  clear hw36
  clear hA37
  obtain ⟨cr10_61, cr11_61⟩ := r1.two
  obtain ⟨cr20_62, cr21_62⟩ := r2.two
  obtain ⟨cr30_63, cr31_63⟩ := r3.two
  obtain ⟨cr40_64, cr41_64⟩ := r4.two
  obtain ⟨cr50_65, cr51_65⟩ := r5.two
  obtain ⟨cr60_66, cr61_66⟩ := r6.two
  have r7 : RowAt (w8.alloc (.cells #[.bool fm, .slice A7 m.length c7] 24)) (w8.heap.size) 24 [.bool fm, .slice A7 m.length c7] := r7_
  clear r7_
  obtain ⟨cr70_67, cr71_67⟩ := r7.two
  go_wp2_with fail
  with_reducible refine (Merge_eq _ [] _ 0 false N H0.out (TkRow.nil _) (by decide) (by decide)).mono ?_
  rintro e w9 ⟨A8, c8, rfl, t8, hB39⟩
  clear cr10_55 cr11_55 cr20_56 cr21_56 cr30_57 cr31_57 cr40_58 cr41_58 cr50_59 cr51_59 cr60_60 cr61_60 cr10_61 cr11_61 cr20_62 cr21_62 cr30_63 cr31_63 cr40_64 cr41_64 cr50_65 cr51_65 cr60_66 cr61_66 cr70_67 cr71_67
  replace t1 := t1.on hB39
  replace t2 := t2.on hB39
  replace t3 := t3.on hB39
  replace t4 := t4.on hB39
  replace t5 := t5.on hB39
  replace t7 := t7.on hB39
  replace r1 := r1.on hB39
  replace r2 := r2.on hB39
  replace r3 := r3.on hB39
  replace r4 := r4.on hB39
  replace r5 := r5.on hB39
  replace r7 := r7.on hB39
  have hw40 : Below w.heap.size w (w9) := hw38.trans (hB39.mono hw38.size)
  clear hw38
  clear hB39
  obtain ⟨cr10_68, cr11_68⟩ := r1.two
  obtain ⟨cr20_69, cr21_69⟩ := r2.two
  obtain ⟨cr30_70, cr31_70⟩ := r3.two
  obtain ⟨cr40_71, cr41_71⟩ := r4.two
  obtain ⟨cr50_72, cr51_72⟩ := r5.two
  obtain ⟨cr70_73, cr71_73⟩ := r7.two
  have hA41 : Below (w9).heap.size (w9) (w9.alloc (.cells #[.bool false, .slice A8 N.length c8] 24)) := (Below.refl _ _).alloc (Nat.le_refl _) _
  have r8_ := RowAt.new (w9) 24 #[.bool false, .slice A8 N.length c8]
  replace t1 := t1.on hA41
  replace t2 := t2.on hA41
  replace t3 := t3.on hA41
  replace t4 := t4.on hA41
  replace t5 := t5.on hA41
  replace t7 := t7.on hA41
  replace t8 := t8.on hA41
  replace r1 := r1.on hA41
  replace r2 := r2.on hA41
  replace r3 := r3.on hA41
  replace r4 := r4.on hA41
  replace r5 := r5.on hA41
  replace r7 := r7.on hA41
  have hw42 : Below w.heap.size w (w9.alloc (.cells #[.bool false, .slice A8 N.length c8] 24)) := hw40.trans (hA41.mono hw40.size)
  clear hw40
  clear hA41
  obtain ⟨cr10_74, cr11_74⟩ := r1.two
  obtain ⟨cr20_75, cr21_75⟩ := r2.two
  obtain ⟨cr30_76, cr31_76⟩ := r3.two
  obtain ⟨cr40_77, cr41_77⟩ := r4.two
  obtain ⟨cr50_78, cr51_78⟩ := r5.two
  obtain ⟨cr70_79, cr71_79⟩ := r7.two
  have r8 : RowAt (w9.alloc (.cells #[.bool false, .slice A8 N.length c8] 24)) (w9.heap.size) 24 [.bool false, .slice A8 N.length c8] := r8_
  clear r8_
  obtain ⟨cr80_80, cr81_80⟩ := r8.two
  have q5_ := RowAt.new (w9.alloc (.cells #[.bool false, .slice A8 N.length c8] 24)) 24 #[.bool false, .slice A8 N.length c8, .bool fa, .slice A1 a.length c1]
  have hA43 : Below (w9.alloc (.cells #[.bool false, .slice A8 N.length c8] 24)).heap.size (w9.alloc (.cells #[.bool false, .slice A8 N.length c8] 24)) ((w9.alloc (.cells #[.bool false, .slice A8 N.length c8] 24)).alloc (.cells #[.bool false, .slice A8 N.length c8, .bool fa, .slice A1 a.length c1] 24)) := (Below.refl _ _).alloc (Nat.le_refl _) _
  replace t1 := t1.on hA43
  replace t2 := t2.on hA43
  replace t3 := t3.on hA43
  replace t4 := t4.on hA43
  replace t5 := t5.on hA43
  replace t7 := t7.on hA43
  replace t8 := t8.on hA43
  replace r1 := r1.on hA43
  replace r2 := r2.on hA43
  replace r3 := r3.on hA43
  replace r4 := r4.on hA43
  replace r5 := r5.on hA43
  replace r7 := r7.on hA43
  replace r8 := r8.on hA43
  have hw44 : Below w.heap.size w ((w9.alloc (.cells #[.bool false, .slice A8 N.length c8] 24)).alloc (.cells #[.bool false, .slice A8 N.length c8, .bool fa, .slice A1 a.length c1] 24)) := hw42.trans (hA43.mono hw42.size)
  clear hw42
  clear hA43
  obtain ⟨cr10_81, cr11_81⟩ := r1.two
  obtain ⟨cr20_82, cr21_82⟩ := r2.two
  obtain ⟨cr30_83, cr31_83⟩ := r3.two
  obtain ⟨cr40_84, cr41_84⟩ := r4.two
  obtain ⟨cr50_85, cr51_85⟩ := r5.two
  obtain ⟨cr70_86, cr71_86⟩ := r7.two
  obtain ⟨cr80_87, cr81_87⟩ := r8.two
  simp only [World.size_alloc] at q5_
  have q5 : TkRow ((w9.alloc (.cells #[.bool false, .slice A8 N.length c8] 24)).alloc (.cells #[.bool false, .slice A8 N.length c8, .bool fa, .slice A1 a.length c1] 24)) (.slice (some ⟨w9.heap.size + 1, 0, none⟩) 2 2) [(false, N), (fa, a)] := TkRow.of (xs := [(false, .slice A8 N.length c8), (fa, .slice A1 a.length c1)]) q5_ (.cons t8 (.cons t1 (.nil _)))
  clear q5_
  go_wp2_with fail
  with_reducible refine (Merge_eq _ _ _ 0 fa a HP.out q5 (by simp) (nine2 lN la)).mono ?_
  rintro e w10 ⟨A9, c9, rfl, t9, hB45⟩
  clear cr10_68 cr11_68 cr20_69 cr21_69 cr30_70 cr31_70 cr40_71 cr41_71 cr50_72 cr51_72 cr70_73 cr71_73 cr10_74 cr11_74 cr20_75 cr21_75 cr30_76 cr31_76 cr40_77 cr41_77 cr50_78 cr51_78 cr70_79 cr71_79 cr80_80 cr81_80 cr10_81 cr11_81 cr20_82 cr21_82 cr30_83 cr31_83 cr40_84 cr41_84 cr50_85 cr51_85 cr70_86 cr71_86 cr80_87 cr81_87
  replace t1 := t1.on hB45
  replace t2 := t2.on hB45
  replace t3 := t3.on hB45
  replace t4 := t4.on hB45
  replace t5 := t5.on hB45
  replace t7 := t7.on hB45
  replace t8 := t8.on hB45
  replace q5 := q5.on hB45
  replace r1 := r1.on hB45
  replace r2 := r2.on hB45
  replace r3 := r3.on hB45
  replace r4 := r4.on hB45
  replace r5 := r5.on hB45
  replace r7 := r7.on hB45
  replace r8 := r8.on hB45
  have hw46 : Below w.heap.size w (w10) := hw44.trans (hB45.mono hw44.size)
  clear hw44
  clear hB45
  obtain ⟨cr10_88, cr11_88⟩ := r1.two
  obtain ⟨cr20_89, cr21_89⟩ := r2.two
  obtain ⟨cr30_90, cr31_90⟩ := r3.two
  obtain ⟨cr40_91, cr41_91⟩ := r4.two
  obtain ⟨cr50_92, cr51_92⟩ := r5.two
  obtain ⟨cr70_93, cr71_93⟩ := r7.two
  obtain ⟨cr80_94, cr81_94⟩ := r8.two
  have hA47 : Below (w10).heap.size (w10) (w10.alloc (.cells #[.bool fa, .slice A9 a.length c9] 24)) := (Below.refl _ _).alloc (Nat.le_refl _) _
  have r9_ := RowAt.new (w10) 24 #[.bool fa, .slice A9 a.length c9]
  replace t1 := t1.on hA47
  replace t2 := t2.on hA47
  replace t3 := t3.on hA47
  replace t4 := t4.on hA47
  replace t5 := t5.on hA47
  replace t7 := t7.on hA47
  replace t8 := t8.on hA47
  replace t9 := t9.on hA47
  replace r1 := r1.on hA47
  replace r2 := r2.on hA47
  replace r3 := r3.on hA47
  replace r4 := r4.on hA47
  replace r5 := r5.on hA47
  replace r7 := r7.on hA47
  replace r8 := r8.on hA47
  have hw48 : Below w.heap.size w (w10.alloc (.cells #[.bool fa, .slice A9 a.length c9] 24)) := hw46.trans (hA47.mono hw46.size)
  clear hw46
  clear hA47
  obtain ⟨cr10_95, cr11_95⟩ := r1.two
  obtain ⟨cr20_96, cr21_96⟩ := r2.two
  obtain ⟨cr30_97, cr31_97⟩ := r3.two
  obtain ⟨cr40_98, cr41_98⟩ := r4.two
  obtain ⟨cr50_99, cr51_99⟩ := r5.two
  obtain ⟨cr70_100, cr71_100⟩ := r7.two
  obtain ⟨cr80_101, cr81_101⟩ := r8.two
  have r9 : RowAt (w10.alloc (.cells #[.bool fa, .slice A9 a.length c9] 24)) (w10.heap.size) 24 [.bool fa, .slice A9 a.length c9] := r9_
  clear r9_
  obtain ⟨cr90_102, cr91_102⟩ := r9.two
  go_wp2_with fail
  with_reducible refine (Same_eq _ _ fm fm m m _ true HSM.out t4 t5 lm9 lm9).mono ?_
  rintro e w11 ⟨rfl, hB49⟩
  clear cr10_88 cr11_88 cr20_89 cr21_89 cr30_90 cr31_90 cr40_91 cr41_91 cr50_92 cr51_92 cr70_93 cr71_93 cr80_94 cr81_94 cr10_95 cr11_95 cr20_96 cr21_96 cr30_97 cr31_97 cr40_98 cr41_98 cr50_99 cr51_99 cr70_100 cr71_100 cr80_101 cr81_101 cr90_102 cr91_102
  replace t1 := t1.on hB49
  replace t2 := t2.on hB49
  replace t3 := t3.on hB49
  replace t4 := t4.on hB49
  replace t5 := t5.on hB49
  replace t7 := t7.on hB49
  replace t9 := t9.on hB49
  replace r1 := r1.on hB49
  replace r2 := r2.on hB49
  replace r3 := r3.on hB49
  replace r4 := r4.on hB49
  replace r5 := r5.on hB49
  replace r7 := r7.on hB49
  replace r9 := r9.on hB49
  have hw50 : Below w.heap.size w (w11) := hw48.trans (hB49.mono hw48.size)
  clear hw48
  clear hB49
  obtain ⟨cr10_103, cr11_103⟩ := r1.two
  obtain ⟨cr20_104, cr21_104⟩ := r2.two
  obtain ⟨cr30_105, cr31_105⟩ := r3.two
  obtain ⟨cr40_106, cr41_106⟩ := r4.two
  obtain ⟨cr50_107, cr51_107⟩ := r5.two
  obtain ⟨cr70_108, cr71_108⟩ := r7.two
  obtain ⟨cr90_109, cr91_109⟩ := r9.two
  go_wp2_with fail
  with_reducible refine (Same_eq _ _ fm fm m m _ true HSM.out t4 t7 lm9 lm9).mono ?_
  rintro e w12 ⟨rfl, hB51⟩
  clear cr10_103 cr11_103 cr20_104 cr21_104 cr30_105 cr31_105 cr40_106 cr41_106 cr50_107 cr51_107 cr70_108 cr71_108 cr90_109 cr91_109
  replace t1 := t1.on hB51
  replace t2 := t2.on hB51
  replace t3 := t3.on hB51
  replace t4 := t4.on hB51
  replace t7 := t7.on hB51
  replace t9 := t9.on hB51
  replace r1 := r1.on hB51
  replace r2 := r2.on hB51
  replace r3 := r3.on hB51
  replace r4 := r4.on hB51
  replace r7 := r7.on hB51
  replace r9 := r9.on hB51
  have hw52 : Below w.heap.size w (w12) := hw50.trans (hB51.mono hw50.size)
  clear hw50
  clear hB51
  obtain ⟨cr10_110, cr11_110⟩ := r1.two
  obtain ⟨cr20_111, cr21_111⟩ := r2.two
  obtain ⟨cr30_112, cr31_112⟩ := r3.two
  obtain ⟨cr40_113, cr41_113⟩ := r4.two
  obtain ⟨cr70_114, cr71_114⟩ := r7.two
  obtain ⟨cr90_115, cr91_115⟩ := r9.two
  go_wp2_with fail
  with_reducible refine (Same_eq _ _ fa fa a a _ true HSA.out t9 t1 la la).mono ?_
  rintro e w13 ⟨rfl, hB53⟩
  clear cr10_110 cr11_110 cr20_111 cr21_111 cr30_112 cr31_112 cr40_113 cr41_113 cr70_114 cr71_114 cr90_115 cr91_115
  replace t1 := t1.on hB53
  replace t2 := t2.on hB53
  replace t3 := t3.on hB53
  replace t4 := t4.on hB53
  replace t9 := t9.on hB53
  replace r1 := r1.on hB53
  replace r2 := r2.on hB53
  replace r3 := r3.on hB53
  replace r4 := r4.on hB53
  replace r9 := r9.on hB53
  have hw54 : Below w.heap.size w (w13) := hw52.trans (hB53.mono hw52.size)
  clear hw52
  clear hB53
  obtain ⟨cr10_116, cr11_116⟩ := r1.two
  obtain ⟨cr20_117, cr21_117⟩ := r2.two
  obtain ⟨cr30_118, cr31_118⟩ := r3.two
  obtain ⟨cr40_119, cr41_119⟩ := r4.two
  obtain ⟨cr90_120, cr91_120⟩ := r9.two
  go_wp2_with fail
  with_reducible refine (Right_eq _ fm m _ true HRM.out t4 lm9).mono ?_
  rintro e w14 ⟨rfl, hB55⟩
  clear cr10_116 cr11_116 cr20_117 cr21_117 cr30_118 cr31_118 cr40_119 cr41_119 cr90_120 cr91_120
  replace t1 := t1.on hB55
  replace t2 := t2.on hB55
  replace t3 := t3.on hB55
  replace t4 := t4.on hB55
  replace r1 := r1.on hB55
  replace r2 := r2.on hB55
  replace r3 := r3.on hB55
  replace r4 := r4.on hB55
  have hw56 : Below w.heap.size w (w14) := hw54.trans (hB55.mono hw54.size)
  clear hw54
  clear hB55
  obtain ⟨cr10_121, cr11_121⟩ := r1.two
  obtain ⟨cr20_122, cr21_122⟩ := r2.two
  obtain ⟨cr30_123, cr31_123⟩ := r3.two
  obtain ⟨cr40_124, cr41_124⟩ := r4.two
  go_wp2_with fail
  with_reducible refine (pk _).mono ?_
  rintro e w_ ⟨rfl, rfl⟩
  go_wp2_with fail
  with_reducible refine (pr _).mono ?_
  rintro e w_ ⟨rfl, rfl⟩
  have hA57 : Below (w14).heap.size (w14) (w14.alloc (.cells #[.int .u64 (k : Int), .int .u64 (r : Int)] 50)) := (Below.refl _ _).alloc (Nat.le_refl _) _
  have rq_ := RowAt.new (w14) 50 #[.int .u64 (k : Int), .int .u64 (r : Int)]
  replace t1 := t1.on hA57
  replace t2 := t2.on hA57
  replace t3 := t3.on hA57
  replace t4 := t4.on hA57
  replace r1 := r1.on hA57
  replace r2 := r2.on hA57
  replace r3 := r3.on hA57
  replace r4 := r4.on hA57
  have hw58 : Below w.heap.size w (w14.alloc (.cells #[.int .u64 (k : Int), .int .u64 (r : Int)] 50)) := hw56.trans (hA57.mono hw56.size)
  clear hw56
  clear hA57
  obtain ⟨cr10_125, cr11_125⟩ := r1.two
  obtain ⟨cr20_126, cr21_126⟩ := r2.two
  obtain ⟨cr30_127, cr31_127⟩ := r3.two
  obtain ⟨cr40_128, cr41_128⟩ := r4.two
  have rq : RowAt (w14.alloc (.cells #[.int .u64 (k : Int), .int .u64 (r : Int)] 50)) (w14.heap.size) 50 [.int .u64 (k : Int), .int .u64 (r : Int)] := rq_
  clear rq_
  obtain ⟨crq0_129, crq1_129⟩ := rq.two
  go_wp2_with fail
  clear cr10_121 cr11_121 cr20_122 cr21_122 cr30_123 cr31_123 cr40_124 cr41_124 cr10_125 cr11_125 cr20_126 cr21_126 cr30_127 cr31_127 cr40_128 cr41_128 crq0_129 crq1_129
  generalize w14.alloc (.cells #[.int .u64 (k : Int), .int .u64 (r : Int)] 50) = wz at *
  obtain ⟨r1x, r1y⟩ := r1.laters
  obtain ⟨r2x, r2y⟩ := r2.laters
  obtain ⟨r3x, r3y⟩ := r3.laters
  obtain ⟨r4x, r4y⟩ := r4.laters
  obtain ⟨rqx, rqy⟩ := rq.laters
  have cM := fun p : Later wz => count_any _ fm m k r p.W (t4.on p.h) lm9
  have cA := fun p : Later wz => count_any _ fa a k r p.W (t1.on p.h) la
  have cB := fun p : Later wz => count_any _ fb b k r p.W (t2.on p.h) lb
  have cC := fun p : Later wz => count_any _ fc c k r p.W (t3.on p.h) lc
  generalize m.count (k, r) = nm at *
  generalize a.count (k, r) = na at *
  generalize b.count (k, r) = nb at *
  generalize c.count (k, r) = nc at *
  have e1 : IntKind.i64.wrap ((na : Int) + (nb : Int)) = (na : Int) + (nb : Int) := IntWalk.i64_in _ (by omega)
  have e2 : IntKind.i64.wrap ((na : Int) + (nb : Int) + (nc : Int)) = (na : Int) + (nb : Int) + (nc : Int) := IntWalk.i64_in _ (by omega)
  have e3 : ((nm : Int) == (na : Int) + (nb : Int) + (nc : Int)) = true := by rw [HCT.out]; simp
  have e4 : IntKind.i64.wrap ((a.length : Int) + (b.length : Int)) = (a.length : Int) + (b.length : Int) := IntWalk.i64_in _ (by omega)
  have e5 : IntKind.i64.wrap ((a.length : Int) + (b.length : Int) + (c.length : Int)) = (a.length : Int) + (b.length : Int) + (c.length : Int) := IntWalk.i64_in _ (by omega)
  have e6 : ((m.length : Int) == (a.length : Int) + (b.length : Int) + (c.length : Int)) = true := by rw [HLM.out]; simp
  have hfm := HFM.out
  clear HFM hfa hfb hfc r1 r2 r3 r4 rq t1 t2 t3 t4
  subst hfm
  cases fa <;> cases fb <;> cases fc
  all_goals
    simp only [Bool.or_false, Bool.or_true, Bool.or_self, Bool.true_or, Bool.false_or] at cM
    refine wp_region_later (by kernel_rfl) (by kernel_rfl) ?_
    repeat (go_big_quiet_step (first | (go_at_call 26; first | with_reducible exact later_of (cM _) | with_reducible exact later_of (cA _) | with_reducible exact later_of (cB _) | with_reducible exact later_of (cC _))))
    refine wpQuiet_nil ?_
    intro _ hw'
    obtain ⟨pq, rfl⟩ := hw'
    have hbn : Below w.heap.size w pq.W := hw58.trans (pq.h.mono hw58.size)
    clear r1x r1y r2x r2y r3x r3y r4x r4y rqx rqy cM cA cB cC
    generalize pq.W = w99 at *
    go_wp2_with fail
    go_ret
    exact ⟨rfl, hbn⟩

theorem tmerge_calls (xs0 : List Int) (v0 : Value) {w : World} (s0 : Ints w w.heap.size v0 xs0) (b0 : ∀ x ∈ xs0, -9223372036854775808 ≤ x ∧ x ≤ 9223372036854775807) (l0 : xs0.length ≤ maxLen) (xs1 : List Int) (v1 : Value) (s1 : Ints w w.heap.size v1 xs1) (b1 : ∀ x ∈ xs1, -9223372036854775808 ≤ x ∧ x ≤ 9223372036854775807) (l1 : xs1.length ≤ maxLen) (xs2 : List Int) (v2 : Value) (s2 : Ints w w.heap.size v2 xs2) (b2 : ∀ x ∈ xs2, -9223372036854775808 ≤ x ∧ x ≤ 9223372036854775807) (l2 : xs2.length ≤ maxLen) (a3 : Int) (w3 : (Lit.int .i64 a3).wf = true) (a4 : Int) (w4 : (Lit.int .i64 a4).wf = true) (a5 : Int) (w5 : (Lit.int .i64 a5).wf = true) :
    Calls Try.prog 5 #[v0, v1, v2, .int .i64 a3, .int .i64 a4, .int .i64 a5] w fun e w' => e = .returned (.bool true) ∧ Below w.heap.size w w' :=
  tmerge_walk xs0 xs1 xs2 a3 a4 a5 v0 v1 v2 w s0 s1 s2 b0 b1 b2 l0 l1 l2 (bounds_i64 w3) (bounds_i64 w4) (bounds_i64 w5)
end Go.Proofs.Ytgkihgcclkkbeaa
