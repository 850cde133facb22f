/- Layer 7's signed, Check and All. -/
import Derived.Test.YtjjccoliknngcaaOrcK
namespace Go.Proofs.Ytjjccoliknngcaa
open Go.RowKit

/-- Whether an item's token is the one of its keys and root. -/
def signedO (ks : List Nat) (r : Nat) (f : Bool) (l : List Pr) : Bool := !ks.isEmpty && !f && decide (ks.length ≤ 2048) && decide ks.Nodup && decide (l = signL r ks)
theorem check_parts (t : List Pr) (ks : List Nat) (r : Nat) (f : Bool) (l : List Pr) : checkO t ks r f l = (rightO t && signedO ks r f l && l.all fun p => decide (p ∈ t)) := by
  unfold checkO signedO
  cases rightO t <;> cases ks.isEmpty <;> cases f <;> cases (decide (ks.length ≤ 2048)) <;> cases (decide ks.Nodup) <;> simp

set_option maxHeartbeats 4000000 in
set_option maxRecDepth 100000 in
theorem oSigned_any (K P : Option Addr) (kc pc : Nat) (ks : List Nat) (root : Nat) (f : Bool) (l : List Pr) (w : World) (hK : Wds w w.heap.size (.slice K ks.length kc) ks) (hP : Prs w w.heap.size (.slice P l.length pc) l)
    (hfit : ∀ x ∈ ks, x < 18446744073709551616) (h9k : ks.length ≤ 100000) (h9l : l.length ≤ 100000) :
    Calls Try.prog 40 #[.agg #[.slice K ks.length kc, .int .u64 root, .bool f, .slice P l.length pc]] w fun e w' => e = .returned (.bool (signedO ks root f l)) ∧ Below w.heap.size w w' := by
  obtain ⟨X, hX⟩ : ∃ X, signedO ks root f l = X := ⟨_, rfl⟩
  rw [hX]
  have HX := Lib.hid hX
  clear hX
  have r0 := RowAt.new w 44 #[.slice K ks.length kc, .int .u64 root, .bool f, .slice P l.length pc]
  have b0 := (Below.refl w.heap.size w).alloc (Nat.le_refl _) (.cells #[.slice K ks.length kc, .int .u64 root, .bool f, .slice P l.length pc] 44)
  by_cases h0 : ks.length = 0
  · have hXf : X = false := by rw [← HX.out]; obtain rfl := List.eq_nil_of_length_eq_zero h0; simp [signedO]
    subst hXf
    have h0' : ((ks.length : Int) == 0) = true := by simp [h0]
    clear h0 HX
    go_enter Try.func40, Try.ntmps40
    go_wp2_with fail
    generalize w.alloc (.cells #[.slice K ks.length kc, .int .u64 root, .bool f, .slice P l.length pc] 44) = w0 at *
    obtain ⟨x0, x1, x2, x3⟩ := r0.four
    go_wp2_with fail
    go_ret
    exact ⟨rfl, b0⟩
  · have h0' : ((ks.length : Int) == 0) = false := by rw [beq_eq_false_iff_ne]; omega
    have hne : ks.isEmpty = false := by cases ks; exact absurd rfl h0; rfl
    cases f
    · have cS := fun W hW => oSign_any root (.slice K ks.length kc) ks W hW (Nat.le_trans h9k (by decide))
      by_cases hl : 2048 < ks.length
      · have hXf : X = false := by rw [← HX.out]; simp [signedO, show ¬ ks.length ≤ 2048 by omega]
        subst hXf
        have e1 : signO root ks = ([], 4) := if_pos hl
        rw [e1] at cS
        clear HX e1 h0 hl hne
        go_enter Try.func40, Try.ntmps40
        go_wp2_with fail
        have hK0 := (hK.below b0 (Nat.le_refl _)).more b0.size
        generalize w.alloc (.cells #[.slice K ks.length kc, .int .u64 root, .bool false, .slice P l.length pc] 44) = w0 at *
        obtain ⟨x0, x1, x2, x3⟩ := r0.four
        go_wp2_with fail
        with_reducible refine (cS _ hK0).mono ?_
        rintro e w3 ⟨S, sc, rfl, hS, b3⟩
        have B3 := b0.trans (b3.mono b0.size)
        have B4 := B3.alloc B3.size (.cells #[.bool false, .slice S ([] : List Pr).length sc] 40)
        simp only [List.length_nil] at *
        clear x0 x1 x2 x3 cS
        go_wp2_with fail
        go_ret
        exact ⟨rfl, B4⟩
      · have e1 : signO root ks = (signL root ks, 0) := if_neg hl
        rw [e1] at cS
        have hXX : X = (decide ks.Nodup && decide (l = signL root ks)) := by rw [← HX.out]; simp [signedO, hne, show ks.length ≤ 2048 by omega]
        have HLR := Lib.hid (signL_length root ks)
        subst hXX
        clear HX e1 h0 hne
        simp only at cS
        generalize signL root ks = R at *
        go_enter Try.func40, Try.ntmps40
        go_wp2_with fail
        have hK0 := (hK.below b0 (Nat.le_refl _)).more b0.size
        have hP0 := (hP.below b0 (Nat.le_refl _)).more b0.size
        generalize w.alloc (.cells #[.slice K ks.length kc, .int .u64 root, .bool false, .slice P l.length pc] 44) = w0 at *
        obtain ⟨x0, x1, x2, x3⟩ := r0.four
        go_wp2_with fail
        with_reducible refine (cS _ hK0).mono ?_
        rintro e w3 ⟨S, sc, rfl, hS, b3⟩
        have B3 := b0.trans (b3.mono b0.size)
        clear x0 x1 x2 x3 cS
        go_upto_region 4 with (fail)
        have q0 := (r0.on b3).alloc (.cells #[.bool false, .slice S R.length sc] 40)
        have q1 := RowAt.new w3 40 #[.bool false, .slice S R.length sc]
        have b4 := (Below.refl w3.heap.size w3).alloc (Nat.le_refl _) (.cells #[.bool false, .slice S R.length sc] 40)
        have hS4 := hS.on b4
        have B4 := B3.trans (b4.mono B3.size)
        have hP4 := (hP.below B4 (Nat.le_refl _)).more B4.size
        have hK4 := (hK.below B4 (Nat.le_refl _)).more B4.size
        clear B3 b4 hS hK0 hP0
        generalize w3.heap.size = g at *
        generalize w3.alloc (.cells #[.bool false, .slice S R.length sc] 40) = w4 at *
        obtain ⟨x0, x1, x2, x3⟩ := q0.four
        obtain ⟨y0, y1⟩ := q1.two
        have cU := ounlike_any (.slice K ks.length kc) ks w4 hK4 hfit h9k
        obtain ⟨nd, hnd⟩ : ∃ nd, decide ks.Nodup = nd := ⟨_, rfl⟩
        rw [hnd] at cU
        have HND := Lib.hid hnd
        clear hnd
        go_wp2_with fail
        with_reducible refine cU.mono ?_
        rintro e w5 ⟨rfl, b5⟩
        have B5 := B4.trans (b5.mono B4.size)
        have q0' := q0.on b5
        have q1' := q1.on b5
        have cE := oEqual_any (.slice P l.length pc) (.slice S R.length sc) l R w5 (hP4.on b5) (hS4.on b5) (by omega) (by have := HLR.out; omega)
        clear x0 x1 x2 x3 y0 y1 cU b5 hP4 hS4 hK4 q0 q1
        obtain ⟨x0, x1, x2, x3⟩ := q0'.four
        obtain ⟨y0, y1⟩ := q1'.two
        obtain ⟨eq, heq⟩ : ∃ eq, decide (l = R) = eq := ⟨_, rfl⟩
        rw [heq] at cE
        have HEQ := Lib.hid heq
        clear heq
        cases nd
        · go_wp2_with fail
          go_ret
          exact ⟨by rw [HND.out]; rfl, B5⟩
        · go_wp2_with fail
          with_reducible refine cE.mono ?_
          rintro e w6 ⟨rfl, b6⟩
          have B6 := B5.trans (b6.mono B5.size)
          go_wp2_with fail
          go_ret
          exact ⟨by rw [HND.out, HEQ.out]; rfl, B6⟩
    · have hXf : X = false := by rw [← HX.out]; simp [signedO]
      subst hXf
      clear h0 HX hne
      go_enter Try.func40, Try.ntmps40
      go_wp2_with fail
      generalize w.alloc (.cells #[.slice K ks.length kc, .int .u64 root, .bool true, .slice P l.length pc] 44) = w0 at *
      obtain ⟨x0, x1, x2, x3⟩ := r0.four
      go_wp2_with fail
      go_ret
      exact ⟨rfl, b0⟩

set_option maxHeartbeats 4000000 in
set_option maxRecDepth 100000 in
theorem oCheck_any (v : Value) (t : List Pr) (K P : Option Addr) (kc pc : Nat) (ks : List Nat) (root : Nat) (f : Bool) (l : List Pr) (w : World) (hv : Prs w w.heap.size v t) (hK : Wds w w.heap.size (.slice K ks.length kc) ks) (hP : Prs w w.heap.size (.slice P l.length pc) l)
    (hfit : ∀ x ∈ ks, x < 18446744073709551616) (h9 : t.length ≤ 100000) (h9k : ks.length ≤ 100000) (h9l : l.length ≤ 100000) :
    Calls Try.prog 21 #[v, .agg #[.slice K ks.length kc, .int .u64 root, .bool f, .slice P l.length pc]] w fun e w' => e = .returned (.bool (checkO t ks root f l)) ∧ Below w.heap.size w w' := by
  obtain ⟨A, c, rfl, hc⟩ := hv.form
  rw [check_parts]
  have r0 := RowAt.new w 44 #[.slice K ks.length kc, .int .u64 root, .bool f, .slice P l.length pc]
  have b0 := (Below.refl w.heap.size w).alloc (Nat.le_refl _) (.cells #[.slice K ks.length kc, .int .u64 root, .bool f, .slice P l.length pc] 44)
  have hv0 := (hv.below b0 (Nat.le_refl _)).more b0.size
  have cR := fun W hW => oRight_any (.slice A t.length c) t W hW (by omega)
  have cS := fun W h1 h2 => oSigned_any K P kc pc ks root f l W h1 h2 hfit h9k h9l
  have cH := fun hr W h1 h2 => ohasEach_any (.slice A t.length c) (.slice P l.length pc) t l W h1 h2 hr (by omega) (by omega)
  have HR := Lib.hid (fun h => ((rightO_iff t).1 h).2)
  generalize signedO ks root f l = sb at *
  generalize (l.all fun p => decide (p ∈ t)) = ab at *
  generalize rightO t = rb at *
  go_enter Try.func21, Try.ntmps21
  go_wp2_with fail
  generalize w.alloc (.cells #[.slice K ks.length kc, .int .u64 root, .bool f, .slice P l.length pc] 44) = w0 at *
  with_reducible refine (cR _ hv0).mono ?_
  rintro e w1 ⟨rfl, b1⟩
  have B1 := b0.trans (b1.mono b0.size)
  have q1 := r0.on b1
  clear cR r0
  cases rb
  · go_wp2_with fail
    go_ret
    exact ⟨rfl, B1⟩
  · have hr := HR.out rfl
    have hK1 := (hK.below B1 (Nat.le_refl _)).more B1.size
    have hP1 := (hP.below B1 (Nat.le_refl _)).more B1.size
    obtain ⟨x0, x1, x2, x3⟩ := q1.four
    have cH := cH hr
    clear hr HR
    go_wp2_with fail
    with_reducible refine (cS _ hK1 hP1).mono ?_
    rintro e w2 ⟨rfl, b2⟩
    have B2 := B1.trans (b2.mono B1.size)
    have q2 := q1.on b2
    clear x0 x1 x2 x3 cS
    obtain ⟨x0, x1, x2, x3⟩ := q2.four
    cases sb
    · go_wp2_with fail
      go_ret
      exact ⟨rfl, B2⟩
    · have hv2 := (hv.below B2 (Nat.le_refl _)).more B2.size
      have hP2 := (hP.below B2 (Nat.le_refl _)).more B2.size
      go_wp2_with fail
      with_reducible refine (cH _ hv2 hP2).mono ?_
      rintro e w3 ⟨rfl, b3⟩
      have B3 := B2.trans (b3.mono B2.size)
      go_wp2_with fail
      go_ret
      exact ⟨rfl, B3⟩
end Go.Proofs.Ytjjccoliknngcaa
