/- oracle's Valid, hasEach; slices.Equal of pairs. -/
import Derived.Test.YtjjccoliknngcaaOrcI
namespace Go.Proofs.Ytjjccoliknngcaa
open Go.RowKit

set_option maxHeartbeats 1000000 in
theorem oValid_any (v : Value) (l : List Pr) (p : Pr) (w : World) (hv : Prs w w.heap.size v l) (h9 : l.length ≤ 1000000) :
    Calls Try.prog 16 #[v, .agg #[.int .u64 (p.1 : Int), .int .u64 (p.2 : Int)]] w fun e w' => e = .returned (.bool (rightO l && decide (p ∈ l))) ∧ Below w.heap.size w w' := by
  obtain ⟨A, c, rfl, hc⟩ := hv.form
  have r0 := RowAt.new w 27 #[.int .u64 (p.1 : Int), .int .u64 (p.2 : Int)]
  have b0 := (Below.refl w.heap.size w).alloc (Nat.le_refl _) (.cells #[.int .u64 (p.1 : Int), .int .u64 (p.2 : Int)] 27)
  have hv0 := hv.alloc (.cells #[.int .u64 (p.1 : Int), .int .u64 (p.2 : Int)] 27)
  have cR := oRight_any _ l _ hv0 h9
  cases hx : rightO l
  · rw [hx] at cR
    rw [Bool.false_and]
    go_enter Try.func16, Try.ntmps16
    go_wp2_with fail
    with_reducible refine cR.mono ?_
    rintro e w1 ⟨rfl, b1⟩
    have B1 := b0.trans (b1.mono b0.size)
    go_wp2_with fail
    go_ret
    exact ⟨rfl, B1⟩
  · have hr := ((rightO_iff l).1 hx).2
    rw [hx] at cR
    rw [Bool.true_and]
    have cH := fun W hW => ohas_any (.slice A l.length c) l p W hW hr h9
    generalize decide (p ∈ l) = y at *
    go_enter Try.func16, Try.ntmps16
    go_wp2_with fail
    with_reducible refine cR.mono ?_
    rintro e w1 ⟨rfl, b1⟩
    have B1 := b0.trans (b1.mono b0.size)
    obtain ⟨x0, x1⟩ := (r0.on b1).two
    have hv1 := hv0.on b1
    go_wp2_with fail
    with_reducible refine (cH _ hv1).mono ?_
    rintro e w2 ⟨rfl, b2⟩
    go_wp2_with fail
    go_ret
    exact ⟨rfl, B1.trans (b2.mono B1.size)⟩

set_option maxHeartbeats 2000000 in
theorem ohasEach_any (v u : Value) (t l : List Pr) (w : World) (hv : Prs w w.heap.size v t) (hu : Prs w w.heap.size u l) (hr : Rise t) (h9 : t.length ≤ 1000000) (h9l : l.length ≤ 1000000) :
    Calls Try.prog 41 #[v, u] w fun e w' => e = .returned (.bool (l.all fun p => decide (p ∈ t))) ∧ Below w.heap.size w w' := by
  obtain ⟨A, c, rfl, hc⟩ := hv.form
  obtain ⟨B, d, rfl, hd⟩ := hu.form
  obtain ⟨X, hX⟩ : ∃ X, (l.all fun p => decide (p ∈ t)) = X := ⟨_, rfl⟩
  rw [hX]
  have HX := Lib.hid hX
  clear hX
  go_enter Try.func41, Try.ntmps41
  go_wp2_with fail
  go_loopw [9] (fun i wr => ∃ k : Nat, k ≤ l.length ∧ i = .int .i64 k ∧ (∀ x (hx : x < k) (hk : x < l.length), decide (l[x] ∈ t) = true) ∧ Below w.heap.size w wr) (fun i _ => l.length - (intOf i).toNat)
  case atStart => exact ⟨0, Nat.zero_le _, rfl, fun x hx => by omega, Below.refl _ _⟩
  case round =>
    obtain ⟨k, hk, rfl, hd, hb⟩ := hrel
    by_cases hlk : k < l.length
    · obtain ⟨ad, rfl, c0, c1⟩ := (hu.on hb).read hlk
      have b1 := hb.alloc hb.size (.cells #[.int .u64 (l[k].1 : Int), .int .u64 (l[k].2 : Int)] 27)
      have cV := ohas_any _ t l[k] _ ((hv.below b1 (Nat.le_refl _)).more b1.size) hr h9
      have r1 := RowAt.new wr 27 #[.int .u64 (l[k].1 : Int), .int .u64 (l[k].2 : Int)]
      obtain ⟨y0, y1⟩ := r1.two
      have HD := Lib.hid (show decide (l[k] ∈ t) = true → ∀ x (hx : x < k + 1) (hk : x < l.length), decide (l[x] ∈ t) = true from fun h x hx hxl => by
        by_cases e : x = k
        · subst e; exact h
        · exact hd x (by omega) hxl)
      have HF := Lib.hid (show decide (l[k] ∈ t) = false → X = false from fun h => by
        rw [← HX.out, List.all_eq_false]
        exact ⟨_, List.getElem_mem hlk, by rw [h]; simp⟩)
      clear r1
      generalize decide (l[k] ∈ t) = vb at *
      generalize l[k] = p at *
      clear hd
      go_wp2_with fail
      with_reducible refine cV.mono ?_
      rintro e w7 ⟨rfl, b7⟩
      have hb7 := b1.trans (b7.mono b1.size)
      clear cV c0 c1 y0 y1 b7 b1
      cases vb
      · have hXf := HF.out rfl
        subst hXf
        go_wp2_with fail
        go_ret
        exact ⟨rfl, hb7⟩
      · have HD2 := Lib.hid (HD.out rfl)
        clear HD HF
        go_wp2_with fail
        go_roundw
        case rel => exact ⟨k + 1, by omega, by go_num, HD2.out, hb7⟩
        case measure => simp [intOf]; omega
    · obtain rfl : k = l.length := by omega
      have hXt : X = true := by
        rw [← HX.out, List.all_eq_true]
        intro i hi
        obtain ⟨j, hj, rfl⟩ := List.mem_iff_getElem.1 hi
        exact hd j hj hj
      subst hXt
      clear hd
      go_wp2_with fail
      go_ret
      exact ⟨rfl, hb⟩

set_option maxHeartbeats 2000000 in
theorem oEqual_any (va vb : Value) (a b : List Pr) (w : World) (ha : Prs w w.heap.size va a) (hb : Prs w w.heap.size vb b) (h9 : a.length ≤ 1000000) (h9b : b.length ≤ 1000000) :
    Calls Try.prog 49 #[va, vb] w fun e w' => e = .returned (.bool (decide (a = b))) ∧ Below w.heap.size w w' := by
  obtain ⟨A, c, rfl, hc⟩ := ha.form
  obtain ⟨B, d, rfl, hd⟩ := hb.form
  by_cases hl : a.length = b.length
  · have hl1 : ((a.length : Int) != (b.length : Int)) = false := by rw [bne, beq_iff_eq.2 (by omega)]; rfl
    have HL := Lib.hid hl
    clear hl
    go_enter Try.func49, Try.ntmps49
    go_wp2_with fail
    go_loopw [13] (fun i wr => ∃ k : Nat, k ≤ a.length ∧ i = .int .i64 k ∧ a.take k = b.take k ∧ Below w.heap.size w wr) (fun i _ => a.length - (intOf i).toNat)
    case atStart => exact ⟨0, Nat.zero_le _, rfl, by simp, Below.refl _ _⟩
    case round =>
      obtain ⟨k, hk, rfl, htk, hw⟩ := hrel
      have HK := Lib.hid htk
      clear htk
      by_cases hlt : k < a.length
      · have hlt2 : k < b.length := by have := HL.out; omega
        obtain ⟨ad, rfl, e1, e2⟩ := (ha.on hw).read hlt
        obtain ⟨bd, rfl, e3, e4⟩ := (hb.on hw).read hlt2
        have HN := Lib.hid (show a[k] ≠ b[k] → decide (a = b) = false from fun h0 => decide_eq_false fun e => h0 (by subst e; rfl))
        have HT := Lib.hid (show a[k] = b[k] → a.take (k + 1) = b.take (k + 1) from fun h0 => by
          rw [List.take_succ_eq_append_getElem hlt, List.take_succ_eq_append_getElem hlt2, HK.out, h0])
        generalize a[k] = p at *
        generalize b[k] = q at *
        obtain ⟨p1, p2⟩ := p
        obtain ⟨q1, q2⟩ := q
        by_cases h1 : p1 = q1
        · subst h1
          by_cases h2 : p2 = q2
          · subst h2
            have ht1 := HT.out rfl
            go_wp2_with fail
            go_region
            go_wp2_with fail
            go_roundw
            case rel => exact ⟨k + 1, by omega, by go_num, ht1, hw.drew⟩
            case measure => simp [intOf]; omega
          · have h2a : ((p2 : Int) = (q2 : Int)) = False := eq_false (by omega)
            have h2b : ((p2 : Int) == (q2 : Int)) = false := by rw [beq_eq_false_iff_ne]; omega
            have HN2 := Lib.hid (HN.out (by simp [h2]))
            clear HN HT h2
            go_wp2_with fail
            go_region
            go_wp2_with fail
            go_ret
            refine ⟨?_, hw.drew⟩
            rw [HN2.out]; rfl
        · have h1a : ((p1 : Int) = (q1 : Int)) = False := eq_false (by omega)
          have h1b : ((p1 : Int) == (q1 : Int)) = false := by rw [beq_eq_false_iff_ne]; omega
          have HN2 := Lib.hid (HN.out (by simp [h1]))
          clear HN HT h1
          go_wp2_with fail
          go_region
          go_wp2_with fail
          go_ret
          refine ⟨?_, hw.drew⟩
          rw [HN2.out]; rfl
      · obtain rfl : k = a.length := by omega
        have hab : a = b := by
          have h1 := HK.out
          have h2 := HL.out
          rw [List.take_of_length_le (by omega), List.take_of_length_le (by omega)] at h1
          exact h1
        have HE := Lib.hid (decide_eq_true hab)
        clear hab
        go_wp2_with fail
        go_ret
        refine ⟨?_, hw⟩
        rw [HE.out]; rfl
  · have hl1 : ((a.length : Int) != (b.length : Int)) = true := by rw [bne, beq_eq_false_iff_ne.2 (by omega)]; rfl
    have hE : decide (a = b) = false := decide_eq_false fun e => hl (by rw [e])
    rw [hE]
    clear hl hE
    go_enter Try.func49, Try.ntmps49
    go_wp2_with fail
    go_ret
    exact ⟨rfl, Below.refl _ _⟩
end Go.Proofs.Ytjjccoliknngcaa
