/- The walk of TokenTwice. -/
import Derived.Test.YtgkihgcclkkbeaaTokR
namespace Go.Proofs.Ytgkihgcclkkbeaa
open Go.RowKit

/-- Each pair twice. -/
def dup : List Pr → List Pr
  | [] => []
  | p :: l => p :: p :: dup l
theorem dup_get : ∀ (l : List Pr) (i : Nat) (p : Pr), l[i]? = some p → (dup l)[2 * i]? = some p ∧ (dup l)[2 * i + 1]? = some p
  | [], i, p, h => by simp at h
  | q :: l, 0, p, h => by simp at h; subst h; simp [dup]
  | q :: l, i + 1, p, h => by
    have := dup_get l i p (by simpa using h)
    rw [show 2 * (i + 1) = 2 * i + 2 by omega]
    simpa [dup] using this
theorem dup_length : ∀ l : List Pr, (dup l).length = 2 * l.length
  | [] => rfl
  | p :: l => by simp only [dup, List.length_cons]; rw [dup_length l]; omega
theorem dup_perm : ∀ l : List Pr, (dup l).Perm (l ++ l)
  | [] => .refl _
  | p :: l => by
    show (p :: p :: dup l).Perm ((p :: l) ++ p :: l)
    exact (((dup_perm l).cons p).cons p).trans ((List.perm_middle (l₁ := p :: l) (a := p) (l₂ := l)).symm)
theorem mem_dup (l : List Pr) (x : Pr) (h : x ∈ dup l) : x ∈ l := by
  have := (dup_perm l).mem_iff.1 h
  simpa using this
theorem dup_pair : ∀ l : List Pr, l.Pairwise Le → (dup l).Pairwise Le
  | [], _ => .nil
  | p :: l, h => by
    obtain ⟨h1, h2⟩ := List.pairwise_cons.1 h
    refine List.pairwise_cons.2 ⟨fun x hx => ?_, List.pairwise_cons.2 ⟨fun x hx => h1 x (mem_dup l x hx), dup_pair l h2⟩⟩
    rcases List.mem_cons.1 hx with rfl | hx
    · exact Le.rfl
    · exact h1 x (mem_dup l x hx)
theorem merge_dup {l : List Pr} (h : srt l = true) : mrgAll [l, l] = dup l := by
  refine mrgAll_eq (by intro x hx; simp at hx; subst hx; exact h) ((srt_iff _).2 (dup_pair l ((srt_iff l).1 h))) ?_
  simpa using dup_perm l
theorem merge_one (l : List Pr) : mrgAll [l] = l := by show mrg [] l = l; exact nil_mrg l
theorem dup_keys {l : List Pr} {i : Nat} (hi : i < l.length) (root : Nat) : keysT root (dup l) = ([], false) := by
  obtain ⟨h1, h2⟩ := dup_get l i _ (List.getElem?_eq_getElem hi)
  have hk : keysB root (dup l) = false := keysB_not (i := 2 * i + 1) fun h => by
    have hlt : 2 * i + 1 < (dup l).length := by rw [dup_length]; omega
    have h3 := (h hlt).2 (by omega)
    have e1 : (dup l)[2 * i + 1] = l[i] := by rw [List.getElem?_eq_getElem hlt] at h2; exact Option.some.inj h2
    have e2 : (dup l)[2 * i + 1 - 1] = l[i] := by
      have : (dup l)[2 * i]? = some ((dup l)[2 * i + 1 - 1]) := List.getElem?_eq_getElem (by omega)
      rw [h1] at this; exact (Option.some.inj this).symm
    rw [e1, e2] at h3
    exact h3 rfl
  unfold keysT
  rw [hk, Bool.and_false]; rfl
theorem merge_okT {ts : List Tok} (h : ∀ t ∈ ts, rightT t.2 = true) (hl : sumLen ts ≤ 2048) : mergeT ts = (0, ts.any (·.1), mrgAll (ts.map (·.2))) := by
  unfold mergeT
  rw [if_neg (by rw [show allRight ts = true from List.all_eq_true.2 h]; simp), if_neg (by omega)]

set_option maxHeartbeats 8000000 in
set_option maxRecDepth 100000 in
theorem ttwice_walk (one : List Int) (fa : Bool) (x : Value) (w : World) (hx : Ints w w.heap.size x one) (hI1 : ∀ r ∈ one, I64 r) (l91 : one.length ≤ maxLen) :
    Calls Try.prog 8 #[x, .bool fa] w fun e w' => e = .returned (.bool true) ∧ Below w.heap.size w w' := by
  obtain ⟨Ax, cx, rfl, -⟩ := hx.form
  have la0 := tokL_length one
  have ra := tokL_right one
  have sa := tokL_srt one
  generalize hA : tokL one = a at *
  have HA := Lib.hid hA
  have hM : mergeT [(fa, a), (fa, a)] = (0, fa, dup a) := by
    rw [merge_okT (by intro t ht; simp at ht; subst ht; exact ra) (by simp [sumLen]; omega)]
    simp [merge_dup sa]
  have hN : mergeT [(fa, a)] = (0, fa, a) := by
    rw [merge_okT (by intro t ht; simp at ht; subst ht; exact ra) (by simp [sumLen]; omega)]
    simp [merge_one]
  have hdl := dup_length a
  have hdg := dup_get a
  have hdk := fun i (hi : i < a.length) root => dup_keys hi root
  generalize dup a = m at *
  have HM := Lib.hid hM
  have HN := Lib.hid hN
  have HDL := Lib.hid hdl
  have HDG := Lib.hid hdg
  have HDK := Lib.hid hdk
  have HSA := Lib.hid (sameT_refl fa a)
  have la : a.length ≤ 1000000 := by omega
  have lm : m.length ≤ 1000000 := by omega
  have hne : ((m.length : Int) != 2 * (a.length : Int)) = false := by rw [hdl, bne]; simp
  have HNE := Lib.hid hne
  have nine2 : ∀ t ∈ [(fa, a), (fa, a)], t.2.length ≤ maxLen := fun t ht => by simp at ht; subst ht; exact small la
  have nine1 : ∀ t ∈ [(fa, a)], t.2.length ≤ maxLen := fun t ht => by simp at ht; subst ht; exact small la
  clear hA hM hN hdl hdg hdk ra sa hne
  go_enter Try.func8, Try.ntmps8
  go_wp2_with fail
  with_reducible refine (awake_any _).mono ?_
  rintro e w1 ⟨rfl, hB1⟩
  replace hx := hx.on hB1
  have hw2 : Below w.heap.size w (w1) := hB1
  clear hB1
  go_wp2_with fail
  with_reducible refine (Token_eq _ one fa a _ HA.out hx hI1 l91).mono ?_
  rintro e w2 ⟨A1, cA, rfl, t1, hB3⟩
  replace hx := hx.on hB3
  have hw4 : Below w.heap.size w (w2) := hw2.trans (hB3.mono hw2.size)
  clear hw2
  clear hB3
  have hA5 : Below (w2).heap.size (w2) (w2.alloc (.cells #[.bool fa, .slice A1 a.length cA] 24)) := (Below.refl _ _).alloc (Nat.le_refl _) _
  have r1_ := RowAt.new (w2) 24 #[.bool fa, .slice A1 a.length cA]
  replace t1 := t1.on hA5
  have hw6 : Below w.heap.size w (w2.alloc (.cells #[.bool fa, .slice A1 a.length cA] 24)) := hw4.trans (hA5.mono hw4.size)
  clear hw4
  clear hA5
  have r1 : RowAt (w2.alloc (.cells #[.bool fa, .slice A1 a.length cA] 24)) (w2.heap.size) 24 [.bool fa, .slice A1 a.length cA] := r1_
  clear r1_
  obtain ⟨cr10_1, cr11_1⟩ := r1.two
  have q1_ := RowAt.new (w2.alloc (.cells #[.bool fa, .slice A1 a.length cA] 24)) 24 #[.bool fa, .slice A1 a.length cA, .bool fa, .slice A1 a.length cA]
  have hA7 : Below (w2.alloc (.cells #[.bool fa, .slice A1 a.length cA] 24)).heap.size (w2.alloc (.cells #[.bool fa, .slice A1 a.length cA] 24)) ((w2.alloc (.cells #[.bool fa, .slice A1 a.length cA] 24)).alloc (.cells #[.bool fa, .slice A1 a.length cA, .bool fa, .slice A1 a.length cA] 24)) := (Below.refl _ _).alloc (Nat.le_refl _) _
  replace t1 := t1.on hA7
  replace r1 := r1.on hA7
  have hw8 : Below w.heap.size w ((w2.alloc (.cells #[.bool fa, .slice A1 a.length cA] 24)).alloc (.cells #[.bool fa, .slice A1 a.length cA, .bool fa, .slice A1 a.length cA] 24)) := hw6.trans (hA7.mono hw6.size)
  clear hw6
  clear hA7
  obtain ⟨cr10_2, cr11_2⟩ := r1.two
  simp only [World.size_alloc] at q1_
  have q1 : TkRow ((w2.alloc (.cells #[.bool fa, .slice A1 a.length cA] 24)).alloc (.cells #[.bool fa, .slice A1 a.length cA, .bool fa, .slice A1 a.length cA] 24)) (.slice (some ⟨w2.heap.size + 1, 0, none⟩) 2 2) [(fa, a), (fa, a)] := TkRow.of (xs := [(fa, .slice A1 a.length cA), (fa, .slice A1 a.length cA)]) q1_ (.cons t1 (.cons t1 (.nil _)))
  clear q1_
  go_wp2_with fail
  with_reducible refine (Merge_eq _ _ _ 0 fa m HM.out q1 (by simp) nine2).mono ?_
  rintro e w3 ⟨A2, cM, rfl, t2, hB9⟩
  clear cr10_1 cr11_1 cr10_2 cr11_2
  replace t1 := t1.on hB9
  replace q1 := q1.on hB9
  replace r1 := r1.on hB9
  have hw10 : Below w.heap.size w (w3) := hw8.trans (hB9.mono hw8.size)
  clear hw8
  clear hB9
  obtain ⟨cr10_3, cr11_3⟩ := r1.two
  have hA11 : Below (w3).heap.size (w3) (w3.alloc (.cells #[.bool fa, .slice A2 m.length cM] 24)) := (Below.refl _ _).alloc (Nat.le_refl _) _
  have r2_ := RowAt.new (w3) 24 #[.bool fa, .slice A2 m.length cM]
  replace t1 := t1.on hA11
  replace t2 := t2.on hA11
  replace r1 := r1.on hA11
  have hw12 : Below w.heap.size w (w3.alloc (.cells #[.bool fa, .slice A2 m.length cM] 24)) := hw10.trans (hA11.mono hw10.size)
  clear hw10
  clear hA11
  obtain ⟨cr10_4, cr11_4⟩ := r1.two
  have r2 : RowAt (w3.alloc (.cells #[.bool fa, .slice A2 m.length cM] 24)) (w3.heap.size) 24 [.bool fa, .slice A2 m.length cM] := r2_
  clear r2_
  obtain ⟨cr20_5, cr21_5⟩ := r2.two
  have q2_ := RowAt.new (w3.alloc (.cells #[.bool fa, .slice A2 m.length cM] 24)) 24 #[.bool fa, .slice A1 a.length cA]
  have hA13 : Below (w3.alloc (.cells #[.bool fa, .slice A2 m.length cM] 24)).heap.size (w3.alloc (.cells #[.bool fa, .slice A2 m.length cM] 24)) ((w3.alloc (.cells #[.bool fa, .slice A2 m.length cM] 24)).alloc (.cells #[.bool fa, .slice A1 a.length cA] 24)) := (Below.refl _ _).alloc (Nat.le_refl _) _
  replace t1 := t1.on hA13
  replace t2 := t2.on hA13
  replace r1 := r1.on hA13
  replace r2 := r2.on hA13
  have hw14 : Below w.heap.size w ((w3.alloc (.cells #[.bool fa, .slice A2 m.length cM] 24)).alloc (.cells #[.bool fa, .slice A1 a.length cA] 24)) := hw12.trans (hA13.mono hw12.size)
  clear hw12
  clear hA13
  obtain ⟨cr10_6, cr11_6⟩ := r1.two
  obtain ⟨cr20_7, cr21_7⟩ := r2.two
  simp only [World.size_alloc] at q2_
  have q2 : TkRow ((w3.alloc (.cells #[.bool fa, .slice A2 m.length cM] 24)).alloc (.cells #[.bool fa, .slice A1 a.length cA] 24)) (.slice (some ⟨w3.heap.size + 1, 0, none⟩) 1 1) [(fa, a)] := TkRow.of (xs := [(fa, .slice A1 a.length cA)]) q2_ (.cons t1 (.nil _))
  clear q2_
  go_wp2_with fail
  with_reducible refine (Merge_eq _ _ _ 0 fa a HN.out q2 (by simp) nine1).mono ?_
  rintro e w4 ⟨A3, c3, rfl, t3, hB15⟩
  clear cr10_3 cr11_3 cr10_4 cr11_4 cr20_5 cr21_5 cr10_6 cr11_6 cr20_7 cr21_7
  replace t1 := t1.on hB15
  replace t2 := t2.on hB15
  replace q2 := q2.on hB15
  replace r1 := r1.on hB15
  replace r2 := r2.on hB15
  have hw16 : Below w.heap.size w (w4) := hw14.trans (hB15.mono hw14.size)
  clear hw14
  clear hB15
  obtain ⟨cr10_8, cr11_8⟩ := r1.two
  obtain ⟨cr20_9, cr21_9⟩ := r2.two
  have hA17 : Below (w4).heap.size (w4) (w4.alloc (.cells #[.bool fa, .slice A3 a.length c3] 24)) := (Below.refl _ _).alloc (Nat.le_refl _) _
  have r3_ := RowAt.new (w4) 24 #[.bool fa, .slice A3 a.length c3]
  replace t1 := t1.on hA17
  replace t2 := t2.on hA17
  replace t3 := t3.on hA17
  replace r1 := r1.on hA17
  replace r2 := r2.on hA17
  have hw18 : Below w.heap.size w (w4.alloc (.cells #[.bool fa, .slice A3 a.length c3] 24)) := hw16.trans (hA17.mono hw16.size)
  clear hw16
  clear hA17
  obtain ⟨cr10_10, cr11_10⟩ := r1.two
  obtain ⟨cr20_11, cr21_11⟩ := r2.two
  have r3 : RowAt (w4.alloc (.cells #[.bool fa, .slice A3 a.length c3] 24)) (w4.heap.size) 24 [.bool fa, .slice A3 a.length c3] := r3_
  clear r3_
  obtain ⟨cr30_12, cr31_12⟩ := r3.two
  go_wp2_with fail
  with_reducible refine (Same_eq _ _ fa fa a a _ true HSA.out t3 t1 la la).mono ?_
  rintro e w5 ⟨rfl, hB19⟩
  clear cr10_8 cr11_8 cr20_9 cr21_9 cr10_10 cr11_10 cr20_11 cr21_11 cr30_12 cr31_12
  replace t1 := t1.on hB19
  replace t2 := t2.on hB19
  replace t3 := t3.on hB19
  replace r1 := r1.on hB19
  replace r2 := r2.on hB19
  replace r3 := r3.on hB19
  have hw20 : Below w.heap.size w (w5) := hw18.trans (hB19.mono hw18.size)
  clear hw18
  clear hB19
  obtain ⟨cr10_13, cr11_13⟩ := r1.two
  obtain ⟨cr20_14, cr21_14⟩ := r2.two
  obtain ⟨cr30_15, cr31_15⟩ := r3.two
  have hne := HNE.out
  have hff : (fa != fa) = false := by simp
  go_wp2_with fail
  clear hne hff cr10_13 cr11_13 cr20_14 cr21_14 cr30_15 cr31_15
  go_loopw [11] (fun iv wr => ∃ i : Nat, i ≤ a.length ∧ iv = .int .i64 (i : Int) ∧ Below w5.heap.size w5 wr) (fun iv _ => a.length - (intOf iv).toNat)
  case atStart => exact ⟨0, Nat.zero_le _, rfl, Below.refl _ _⟩
  case round =>
    obtain ⟨i, hi, rfl, hb⟩ := hrel
    have hbw := bstep hw20 hb hw20.size
    have ra := r1.on hb
    have rm := r2.on hb
    have ta := t1.on hb
    have tm := t2.on hb
    obtain ⟨x0, x1⟩ := ra.two
    obtain ⟨y0, y1⟩ := rm.two
    by_cases hlt : i < a.length
    · obtain ⟨g1, g2⟩ := HDG.out i _ (List.getElem?_eq_getElem hlt)
      have hl1 : 2 * i < m.length := by have := HDL.out; omega
      have hl2 : 2 * i + 1 < m.length := by have := HDL.out; omega
      have em1 : m[2 * i] = a[i] := by rw [List.getElem?_eq_getElem hl1] at g1; exact Option.some.inj g1
      have em2 : m[2 * i + 1] = a[i] := by rw [List.getElem?_eq_getElem hl2] at g2; exact Option.some.inj g2
      obtain ⟨ad, rfl, had, c1, c2⟩ := ta.prs.at_ hlt
      have HK := Lib.hid (HDK.out i hlt (a[i]).2)
      have hlk : m.length ≤ 1000000 := lm
      clear g1 g2
      have hc2 : (ad.add (i * 2)).block < wr.heap.size := by rw [add_block]; exact had
      go_wp2_with fail
      go_region_held3 (fun w' => w'.cell? ⟨w3.heap.size, 0, none⟩ = some (.bool fa) ∧ w'.cell? ⟨w3.heap.size, 1, none⟩ = some (.slice A2 m.length cM) ∧ w'.cell? ⟨w2.heap.size, 1, none⟩ = some (.slice (some ad) a.length cA) ∧ w'.cell? ⟨(ad.add (i * 2)).block, (ad.add (i * 2)).off + 1, none⟩ = some (.int .u64 ((a[i]).2 : Int)))
        (first | go_keep | exact ⟨(rm.on hb5).two.1, (rm.on hb5).two.2, (ra.on hb5).two.2, (hb5.cell (p := ⟨(ad.add (i * 2)).block, (ad.add (i * 2)).off + 1, none⟩) hc2).trans c2⟩)
        (first | ((with_reducible refine (Keys_eq _ fa m (a[i]).2 _ [] false HK.out (tm.on (Below.drew (Below.refl _ _))) hlk).mono ?_); rintro e w6 ⟨Ak, ck, rfl, -, hb5'⟩; have hb5 : Below wr.heap.size wr w6 := ((Below.refl _ wr).drew).trans hb5'))
      go_simp
      have ra6 := ra.on hb5
      have rm6 := rm.on hb5
      have tm6 := tm.on hb5
      have ta6 := ta.on hb5
      have hbw6 := bstep hb hb5 hb.size
      obtain ⟨d0, d1⟩ := ra6.laters
      obtain ⟨e0, e1⟩ := rm6.laters
      obtain ⟨_, ee, s1, s2⟩ := ta6.prs.cells (Below.refl _ _) hlt
      cases ee
      obtain ⟨md, rfl, u1, u2⟩ := tm6.prs.cells (Below.refl _ _) hl1
      obtain ⟨_, ee, v1, v2⟩ := tm6.prs.cells (Below.refl _ _) hl2
      cases ee
      rw [em1] at u1 u2
      rw [em2] at v1 v2
      have k1 : IntKind.i64.wrap (2 * (i : Int)) = ((2 * i : Nat) : Int) := by rw [IntWalk.i64_in _ (by omega)]; omega
      have k2 : IntKind.i64.wrap (((2 * i : Nat) : Int) + 1) = ((2 * i + 1 : Nat) : Int) := by rw [IntWalk.i64_in _ (by omega)]; omega
      clear x0 x1 y0 y1 c1 c2 em1 em2 hb5' HK
      generalize (a[i]).1 = q1 at *
      generalize (a[i]).2 = q2 at *
      generalize hj1 : 2 * i = j1 at *
      have HJ1 := Lib.hid hj1
      clear hj1
      go_wp2_with fail
      refine wp_region_later (by kernel_rfl) (by kernel_rfl) ?_
      repeat (go_big_quiet_step (fail))
      refine wpQuiet_nil ?_
      intro _ hw'
      obtain ⟨pq, rfl⟩ := hw'
      have hbn := bstep hbw6 pq.h hbw6.size
      clear d0 d1 e0 e1 s1 s2 u1 u2 v1 v2
      generalize pq.W = w7 at *
      go_wp2_with fail
      go_roundw
      case rel => exact ⟨i + 1, by omega, by go_num, hbn⟩
      case measure => simp [intOf]; omega
    · have hlt1 : (i < a.length) = False := eq_false hlt
      go_wp2_with fail
      go_ret
      exact ⟨rfl, hbw⟩

theorem ttwice_calls (xs0 : List Int) (v0 : Value) {w : World} (s0 : Ints w w.heap.size v0 xs0) (b0 : ∀ x ∈ xs0, -9223372036854775808 ≤ x ∧ x ≤ 9223372036854775807) (l0 : xs0.length ≤ maxLen) (a1 : Bool) :
    Calls Try.prog 8 #[v0, .bool a1] w fun e w' => e = .returned (.bool true) ∧ Below w.heap.size w w' :=
  ttwice_walk xs0 a1 v0 w s0 b0 l0
end Go.Proofs.Ytgkihgcclkkbeaa
