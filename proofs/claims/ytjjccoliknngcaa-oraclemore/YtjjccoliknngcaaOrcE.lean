/- The document's own answers of layer 7: Check. -/
import Derived.Test.YtjjccoliknngcaaOrcD
namespace Go.Proofs.Ytjjccoliknngcaa
open Go.RowKit

theorem checkO_dup {t : List Pr} {ks : List Nat} {r : Nat} {f : Bool} {l : List Pr} (h : ¬ ks.Nodup) : checkO t ks r f l = false := by simp [checkO, h]
theorem checkO_long {t : List Pr} {ks : List Nat} {r : Nat} {f : Bool} {l : List Pr} (h : 2048 < ks.length) : checkO t ks r f l = false := by
  have : ¬ ks.length ≤ 2048 := by omega
  simp [checkO, this]
theorem checkO_none {t : List Pr} {r : Nat} {f : Bool} {l : List Pr} : checkO t [] r f l = false := by simp [checkO]
theorem checkO_unlike {t : List Pr} {ks : List Nat} {r : Nat} {f : Bool} {l : List Pr} (h : sameT false f (signL r ks) l = false) : checkO t ks r f l = false := by
  cases f
  · have : l ≠ signL r ks := by rintro rfl; simp [sameT] at h
    simp [checkO, this]
  · simp [checkO]
theorem sameT_true {f g : Bool} {a b : List Pr} (h : sameT f g a b = true) : g = f ∧ b = a := by
  simp [sameT] at h
  exact ⟨h.1.symm, h.2.symm⟩
theorem checkO_not {t : List Pr} {ks : List Nat} {r : Nat} {f : Bool} (p : Pr) (hp : p ∈ signL r ks) (h : (rightO t && decide (p ∈ t)) = false) : checkO t ks r f (signL r ks) = false := by
  cases hr : rightO t
  · simp [checkO, hr]
  · rw [hr, Bool.true_and, decide_eq_false_iff_not] at h
    have : ((signL r ks).all fun p => decide (p ∈ t)) = false := by
      rw [List.all_eq_false]
      exact ⟨p, hp, by simpa using h⟩
    simp [checkO, this]
theorem checkO_yes {t : List Pr} {ks : List Nat} {r : Nat} (hn : ks.Nodup) (h9 : ks.length ≤ 2048) (h0 : 0 < ks.length) (h : ∀ p ∈ signL r ks, (rightO t && decide (p ∈ t)) = true) : checkO t ks r false (signL r ks) = true := by
  have hl : 0 < (signL r ks).length := by rw [signL_length]; exact h0
  have h1 := h _ (List.getElem_mem hl)
  rw [Bool.and_eq_true] at h1
  have he : ks.isEmpty = false := by cases ks; cases h0; rfl
  have ha : ((signL r ks).all fun p => decide (p ∈ t)) = true := by
    rw [List.all_eq_true]
    intro p hp
    have := h p hp
    rw [Bool.and_eq_true] at this
    exact this.2
  simp [checkO, h1.1, he, hn, h9, ha]
/-- The cells of an item's box. -/
theorem RowAt.four {w : World} {g : Nat} {t : TypeId} {x y z u : Value} (h : RowAt w g t [x, y, z, u]) : w.cell? ⟨g, 0, none⟩ = some x ∧ w.cell? ⟨g, 1, none⟩ = some y ∧ w.cell? ⟨g, 2, none⟩ = some z ∧ w.cell? ⟨g, 3, none⟩ = some u := ⟨h.cell 0, h.cell 1, h.cell 2, h.cell 3⟩
theorem nodup_take {l : List Nat} {i : Nat} (hi : i < l.length) (h : (l.take i).Nodup) (hj : ∀ j (hj : j < i), l[j]'(by omega) ≠ l[i]) : (l.take (i + 1)).Nodup := by
  rw [List.take_succ_eq_append_getElem hi, List.nodup_append]
  refine ⟨h, by simp, fun a ha b hb => ?_⟩
  rw [List.mem_singleton] at hb
  subst hb
  obtain ⟨j, hj', rfl⟩ := List.mem_iff_getElem.1 ha
  rw [List.length_take] at hj'
  rw [List.getElem_take]
  exact hj j (by omega)

set_option maxHeartbeats 4000000 in
set_option maxRecDepth 100000 in
theorem orCheck_any (v : Value) (t : List Pr) (K P : Option Addr) (kc pc : Nat) (ks : List Nat) (root : Nat) (f : Bool) (l : List Pr) (w : World) (hv : Prs w w.heap.size v t) (hK : Wds w w.heap.size (.slice K ks.length kc) ks) (hP : Prs w w.heap.size (.slice P l.length pc) l)
    (h9 : t.length ≤ 100000) (h9k : ks.length ≤ 100000) (h9l : l.length ≤ 100000) :
    Calls Try.prog 22 #[v, .agg #[.slice K ks.length kc, .int .u64 root, .bool f, .slice P l.length pc]] w fun e w' => e = .returned (.bool (checkO t ks root f l)) ∧ Below w.heap.size w w' := by
  obtain ⟨A, c, rfl, hc⟩ := hv.form
  obtain ⟨X, hX⟩ : ∃ X, checkO t ks root f l = X := ⟨_, rfl⟩
  rw [hX]
  have HX := Lib.hid hX
  clear hX
  have r0 := RowAt.new w 44 #[.slice K ks.length kc, .int .u64 root, .bool f, .slice P l.length pc]
  have b0 := (Below.refl w.heap.size w).alloc (Nat.le_refl _) (.cells #[.slice K ks.length kc, .int .u64 root, .bool f, .slice P l.length pc] 44)
  go_enter Try.func22, Try.ntmps22
  go_wp2_with fail
  generalize w.alloc (.cells #[.slice K ks.length kc, .int .u64 root, .bool f, .slice P l.length pc] 44) = w0 at *
  have z0 := b0.size
  go_loopw [5] (fun i wr => ∃ k : Nat, k ≤ ks.length ∧ i = .int .i64 k ∧ (ks.take k).Nodup ∧ Below w0.heap.size w0 wr) (fun i _ => ks.length - (intOf i).toNat)
  case atStart => exact ⟨0, Nat.zero_le _, rfl, by simp, Below.refl _ _⟩
  case round =>
    obtain ⟨k, hk, rfl, hn, hb⟩ := hrel
    obtain ⟨x0, x1, x2, x3⟩ := (r0.on hb).four
    have hB := b0.trans (hb.mono z0)
    by_cases hlt : k < ks.length
    · have HN := Lib.hid hn
      clear hn
      obtain ⟨wo, hwo⟩ : ∃ wo, wo = wr := ⟨_, rfl⟩
      subst hwo
      go_wp2_with fail
      go_loopw [6] (fun i wr => ∃ j : Nat, j ≤ k ∧ i = .int .i64 j ∧ (∀ x (hx : x < j) (hk : x < ks.length), ks[x] ≠ ks[k]) ∧ Below w0.heap.size w0 wr) (fun i _ => k - (intOf i).toNat)
      case atStart => exact ⟨0, Nat.zero_le _, rfl, fun x hx => by omega, hb⟩
      case round =>
        obtain ⟨j, hj, rfl, hd, hb2⟩ := hrel
        clear x0 x1 x2 x3 hB hb
        obtain ⟨x0, x1, x2, x3⟩ := (r0.on hb2).four
        have hB := b0.trans (hb2.mono z0)
        by_cases hlj : j < k
        · have hjl : j < ks.length := by omega
          obtain ⟨ad, rfl, _, hc1⟩ := (hK.below hB (Nat.le_refl _)).at_ hlt
          obtain ⟨_, e, _, hc2⟩ := (hK.below hB (Nat.le_refl _)).at_ hjl
          cases e
          have HD := Lib.hid (show ks[j] ≠ ks[k] → ∀ x (hx : x < j + 1) (hk : x < ks.length), ks[x] ≠ ks[k] from fun h x hx hxl => by
            by_cases e : x = j
            · subst e; exact h
            · exact hd x (by omega) hxl)
          have HF := Lib.hid (show ks[k] = ks[j] → X = false from fun e => by
            rw [← HX.out]
            refine checkO_dup fun hn => ?_
            exact List.pairwise_iff_getElem.1 hn j k hjl hlt hlj e.symm)
          clear hd
          generalize ks[k] = a at *
          generalize ks[j] = b at *
          by_cases hab : a = b
          · subst hab
            have hXf := HF.out rfl
            subst hXf
            clear HF HD HX
            go_wp2_with fail
            go_region
            all_goals go_wp2_with fail
            go_ret
            exact ⟨rfl, hB.drew⟩
          · have hne : ((a : Int) == (b : Int)) = false := by simp; omega
            have HD2 := Lib.hid (HD.out (Ne.symm hab))
            clear HD HF hab
            go_wp2_with fail
            go_region
            all_goals go_wp2_with fail
            go_roundw
            case rel => exact ⟨j + 1, by omega, by go_num, HD2.out, hb2.drew⟩
            case measure => simp [intOf]; omega
        · obtain rfl : j = k := by omega
          have HN2 := Lib.hid (nodup_take hlt HN.out fun x hx => hd x hx (by omega))
          clear HN hd
          go_wp2_with fail
          go_roundw
          case rel => exact ⟨j + 1, by omega, by go_num, HN2.out, hb2⟩
          case measure => simp [intOf]; omega
    · obtain rfl : k = ks.length := by omega
      rw [List.take_length] at hn
      have HN := Lib.hid hn
      have cS := orSign_any root _ ks wr (hK.below hB (Nat.le_refl _) |>.more hB.size) h9k
      have h9s : (signO root ks).1.length ≤ 100000 := by
        unfold signO
        split
        · simp
        · rw [signL_length]; exact h9k
      obtain ⟨RE, hRE⟩ : ∃ RE, signO root ks = RE := ⟨_, rfl⟩
      rw [hRE] at cS h9s
      obtain ⟨R, E⟩ := RE
      have HRE := Lib.hid hRE
      clear hn hRE
      go_wp2_with fail
      with_reducible refine cS.mono ?_
      rintro e w3 ⟨S, sc, rfl, hS, hF, b3⟩
      have hb3 := hb.trans (b3.mono hb.size)
      have hB3 := b0.trans (hb3.mono z0)
      clear cS x0 x1 x2 x3 hB hb
      go_upto_region 10 with (fail)
      have q0 := (r0.on hb3).alloc (.cells #[.bool false, .slice S R.length sc] 40)
      have q1 := RowAt.new w3 40 #[.bool false, .slice S R.length sc]
      have b4 := (Below.refl w3.heap.size w3).alloc (Nat.le_refl _) (.cells #[.bool false, .slice S R.length sc] 40)
      have hS4 := hS.on b4
      have hB4 := hB3.trans (b4.mono hB3.size)
      have hP4 := (hP.below hB4 (Nat.le_refl _)).more hB4.size
      clear hb3 hB3 b4 hS
      generalize w3.heap.size = g at *
      generalize w3.alloc (.cells #[.bool false, .slice S R.length sc] 40) = w4 at *
      obtain ⟨x0, x1, x2, x3⟩ := q0.four
      obtain ⟨y0, y1⟩ := q1.two
      have cE := Same_eq (.agg #[.bool false, .slice S R.length sc]) (.agg #[.bool f, .slice P l.length pc]) false f R l w4 _ rfl (tk_of hS4) (tk_of hP4) (by omega) (by omega)
      by_cases hl : 2048 < ks.length
      · have hXf : X = false := by rw [← HX.out]; exact checkO_long hl
        have e1 : signO root ks = ([], 4) := if_pos hl
        have hRE := HRE.out
        rw [e1] at hRE
        cases hRE
        subst hXf
        clear HX HRE
        generalize sameT false f ([] : List Pr) l = sm at *
        simp only [List.length_nil] at cE
        go_wp2_with fail
        with_reducible refine cE.mono ?_
        rintro e w5 ⟨rfl, b5⟩
        have hB5 := hB4.trans (b5.mono hB4.size)
        go_wp2_with fail
        go_ret
        exact ⟨rfl, hB5⟩
      · have e1 : signO root ks = (signL root ks, 0) := if_neg hl
        have hRE := HRE.out
        rw [e1] at hRE
        cases hRE
        have hl2 : ks.length ≤ 2048 := by omega
        have HM := Lib.hid (show ∀ p ∈ signL root ks, (rightO t && decide (p ∈ t)) = false → f = false → l = signL root ks → X = false from fun p hp h e2 e3 => by
          rw [← HX.out, e3]; exact checkO_not p hp h)
        have HY := Lib.hid (show 0 < ks.length → (∀ p ∈ signL root ks, (rightO t && decide (p ∈ t)) = true) → f = false → l = signL root ks → X = true from fun h0 h e2 e3 => by
          rw [← HX.out, e3, e2]; exact checkO_yes HN.out hl2 h0 h)
        have HU := Lib.hid (show sameT false f (signL root ks) l = false → X = false from fun h => by
          rw [← HX.out]; exact checkO_unlike h)
        have H0 := Lib.hid (show ks.length = 0 → X = false from fun h => by
          have : ks = [] := List.eq_nil_of_length_eq_zero h
          rw [← HX.out, this]; exact checkO_none)
        have HS := Lib.hid (fun h => sameT_true (f := false) (g := f) (a := signL root ks) (b := l) h)
        have HL := Lib.hid (signL_length root ks)
        clear HX HRE e1 hl
        generalize signL root ks = R at *
        obtain ⟨sm, hsm⟩ : ∃ sm, sameT false f R l = sm := ⟨_, rfl⟩
        rw [hsm] at cE HU HS
        clear hsm
        go_wp2_with fail
        with_reducible refine cE.mono ?_
        rintro e w5 ⟨rfl, b5⟩
        have hB5 := hB4.trans (b5.mono hB4.size)
        have q1' := q1.on b5
        have hS5 := hS4.on b5
        obtain ⟨x0', -, -, -⟩ := (q0.on b5).four
        clear x0 x1 x2 x3 y0 y1 cE hB4 q1 hS4 hP4
        cases sm
        · have hXf := HU.out rfl
          subst hXf
          go_wp2_with fail
          go_ret
          exact ⟨rfl, hB5⟩
        · by_cases h0 : ks.length = 0
          · have hXf := H0.out h0
            subst hXf
            have h0' : ((ks.length : Int) == 0) = true := by simp [h0]
            clear h0
            go_wp2_with fail
            go_ret
            exact ⟨rfl, hB5⟩
          · have h0' : ((ks.length : Int) == 0) = false := by rw [beq_eq_false_iff_ne]; omega
            obtain ⟨hf, hlR⟩ := HS.out rfl
            have hpos : 0 < ks.length := by omega
            go_wp2_with fail
            clear x0'
            go_loopw [10] (fun i wr => ∃ k : Nat, k ≤ R.length ∧ i = .int .i64 k ∧ (∀ x (hx : x < k) (hk : x < R.length), (rightO t && decide (R[x] ∈ t)) = true) ∧ Below w5.heap.size w5 wr) (fun i _ => R.length - (intOf i).toNat)
            case atStart => exact ⟨0, Nat.zero_le _, rfl, fun x hx => by omega, Below.refl _ _⟩
            case round =>
              obtain ⟨k, hk, rfl, hd, hb6⟩ := hrel
              obtain ⟨y0, y1⟩ := (q1'.on hb6).two
              have hB6 := hB5.trans (hb6.mono hB5.size)
              by_cases hlk : k < R.length
              · obtain ⟨ad, rfl, c0, c1⟩ := (hS5.on hb6).read hlk
                have cV := orValid_any _ _ R[k] wr ((hv.below hB6 (Nat.le_refl _)).more hB6.size) (by omega)
                have HD := Lib.hid (show (rightO t && decide (R[k] ∈ t)) = true → ∀ x (hx : x < k + 1) (hk : x < R.length), (rightO t && decide (R[x] ∈ t)) = true from fun h x hx hxl => by
                  by_cases e : x = k
                  · subst e; exact h
                  · exact hd x (by omega) hxl)
                have HF := Lib.hid (show (rightO t && decide (R[k] ∈ t)) = false → X = false from fun h => HM.out _ (List.getElem_mem hlk) h hf hlR)
                generalize (rightO t && decide (R[k] ∈ t)) = vb at *
                generalize R[k] = p at *
                clear hd
                go_wp2_with fail
                with_reducible refine cV.mono ?_
                rintro e w7 ⟨rfl, b7⟩
                have hB7 := hB6.trans (b7.mono hB6.size)
                have hb7 := hb6.trans (b7.mono hb6.size)
                clear cV c0 c1 y0 y1 b7
                cases vb
                · have hXf := HF.out rfl
                  subst hXf
                  go_wp2_with fail
                  go_ret
                  exact ⟨rfl, hB7⟩
                · have HD2 := Lib.hid (HD.out rfl)
                  clear HD HF
                  go_wp2_with fail
                  go_roundw
                  case rel => exact ⟨k + 1, by omega, by go_num, HD2.out, hb7⟩
                  case measure => simp [intOf]; omega
              · obtain rfl : k = R.length := by omega
                have hXt := HY.out hpos (fun p hp => by obtain ⟨i, hi, rfl⟩ := List.mem_iff_getElem.1 hp; exact hd i hi hi) hf hlR
                subst hXt
                clear hd
                go_wp2_with fail
                go_ret
                exact ⟨rfl, hB6⟩
end Go.Proofs.Ytjjccoliknngcaa
