/- Layer 12, the document's own: which slots may come. -/
import Derived.Test.YtjcpeimlebpglaaDoorWinB
namespace Go.Proofs.YtjcpeimlebpglaaDoor
open Go.RowKit

/-- The slots from lo to hi are ripe at y, those below them late, those above early. -/
structure SpanOf (t d r y lo hi : Int) : Prop where
  lo0 : 0 ≤ lo
  own : lo ≤ y / t ∧ y / t ≤ hi ∧ hi ≤ 1099511627776
  late : ∀ s, 0 ≤ s → s < lo → standZ t d r y s = 2
  ripe : ∀ s, lo ≤ s → s ≤ hi → standZ t d r y s = 1
  early : ∀ s, hi < s → standZ t d r y s = 0
theorem standZ_nat (T D R K X : Nat) (hT : 1 ≤ T) : standZ T D R K X = (standW T D R K X : Int) := by
  have h1 : (X : Int) * (T : Int) = ((X * T : Nat) : Int) := (Int.natCast_mul X T).symm
  have h2 : ((R : Int) + 1) * (T : Int) = (((R + 1) * T : Nat) : Int) := by rw [Int.natCast_mul]; rfl
  have h3 : 1 ≤ (R + 1) * T := Nat.mul_pos (by omega) hT
  unfold standZ standW opnW clsW
  rw [h1, h2]
  generalize (R + 1) * T = Q at *
  generalize X * T = P at *
  split
  · rw [if_pos (by omega)]; rfl
  · split
    · rw [if_pos (by omega)]; rfl
    · split
      · rw [if_neg (by omega), if_pos (by omega)]; rfl
      · rw [if_neg (by omega), if_neg (by omega)]; rfl
/-- Each tick of a fitting chain has its span. -/
theorem span_nat (T D R K : Nat) (hT : 1 ≤ T) (hK : K ≤ 1099511627776) : SpanOf T D R K (lowW T D R K : Nat) (highW T D K : Nat) := by
  have hh : highW T D K ≤ 1099511627776 := by
    unfold highW
    exact Nat.le_trans (Nat.div_le_self _ _) (by omega)
  have e : (K : Int) / (T : Int) = ((K / T : Nat) : Int) := rfl
  have h1 := own_low (T := T) (D := D) (R := R) (t := K)
  have h2 := own_high (T := T) (D := D) hK
  refine ⟨by omega, by rw [e]; omega, ?_, ?_, ?_⟩
  · intro s h0 h
    obtain ⟨S, rfl⟩ := Int.eq_ofNat_of_zero_le h0
    rw [standZ_nat T D R K S hT, (stand_cases hT hK).2.1.2 (by omega)]; rfl
  · intro s h0 h
    obtain ⟨S, rfl⟩ := Int.eq_ofNat_of_zero_le (show 0 ≤ s by omega)
    rw [standZ_nat T D R K S hT, (stand_cases hT hK).1.2 (by omega)]; rfl
  · intro s h
    obtain ⟨S, rfl⟩ := Int.eq_ofNat_of_zero_le (show 0 ≤ s by omega)
    rw [standZ_nat T D R K S hT, (stand_cases hT hK).2.2.2 (by omega)]; rfl
set_option maxHeartbeats 1000000 in
set_option maxRecDepth 100000 in
theorem rSpan_no {v s c n t d r k g : Int} {fit : Bool} (hf : fitsC v s c n t d r k g = fit) (z : Int) (w : World) (y : Int) (hy : -9223372036854775808 ≤ y ∧ y ≤ 9223372036854775807) (hno : (fit && isTickB y) = false) :
    Calls Tryd.prog 18 #[.agg #[.int .i64 v, .int .i64 s, .int .i64 c, .int .i64 n, .int .i64 t, .int .i64 d, .int .i64 r, .int .i64 k, .int .i64 g, .int .u64 z], .int .i64 y] w fun e w' => e = .returned (.tuple #[.int .i64 0, .int .i64 0, .int .i64 1]) ∧ Below w.heap.size w w' := by
  cases fit
  · clear hno
    have hA0 : Below w.heap.size w (w.alloc (.cells #[.int .i64 v, .int .i64 s, .int .i64 c, .int .i64 n, .int .i64 t, .int .i64 d, .int .i64 r, .int .i64 k, .int .i64 g, .int .u64 z] 24)) := (Below.refl _ _).alloc (Nat.le_refl _) _
    go_enter Tryd.func18, Tryd.ntmps18
    go_wp2_with fail
    with_reducible refine (rFits_eq hf z _).mono ?_
    rintro e w1 ⟨rfl, hb⟩
    have hbw := box_bel (by simpa using hb)
    go_wp2_with fail
    refine bodyPost_ret (v := .tuple #[.int .i64 0, .int .i64 0, .int .i64 1]) (by simp [results, Tryd.results18, go_sem]) rfl ?_
    exact ⟨rfl, hbw⟩
  · rw [Bool.true_and] at hno
    obtain h1 | h1 := (isTickB_no y).1 hno
    · clear hno
      have hA0 : Below w.heap.size w (w.alloc (.cells #[.int .i64 v, .int .i64 s, .int .i64 c, .int .i64 n, .int .i64 t, .int .i64 d, .int .i64 r, .int .i64 k, .int .i64 g, .int .u64 z] 24)) := (Below.refl _ _).alloc (Nat.le_refl _) _
      go_enter Tryd.func18, Tryd.ntmps18
      go_wp2_with fail
      with_reducible refine (rFits_eq hf z _).mono ?_
      rintro e w1 ⟨rfl, hb⟩
      have hbw := box_bel (by simpa using hb)
      go_wp2_with fail
      refine bodyPost_ret (v := .tuple #[.int .i64 0, .int .i64 0, .int .i64 1]) (by simp [results, Tryd.results18, go_sem]) rfl ?_
      exact ⟨rfl, hbw⟩
    · clear hno
      have hA0 : Below w.heap.size w (w.alloc (.cells #[.int .i64 v, .int .i64 s, .int .i64 c, .int .i64 n, .int .i64 t, .int .i64 d, .int .i64 r, .int .i64 k, .int .i64 g, .int .u64 z] 24)) := (Below.refl _ _).alloc (Nat.le_refl _) _
      go_enter Tryd.func18, Tryd.ntmps18
      go_wp2_with fail
      with_reducible refine (rFits_eq hf z _).mono ?_
      rintro e w1 ⟨rfl, hb⟩
      have hbw := box_bel (by simpa using hb)
      go_wp2_with fail
      refine bodyPost_ret (v := .tuple #[.int .i64 0, .int .i64 0, .int .i64 1]) (by simp [results, Tryd.results18, go_sem]) rfl ?_
      exact ⟨rfl, hbw⟩
set_option maxHeartbeats 1000000 in
set_option maxRecDepth 100000 in
theorem rSpan_yes {v s c n t d r k g : Int} (hf : fitsC v s c n t d r k g = true) (z : Int) (w : World) (y : Int) (hy : 0 ≤ y ∧ y ≤ 1099511627776) (lo hi : Int) (hS : SpanOf t d r y lo hi) :
    Calls Tryd.prog 18 #[.agg #[.int .i64 v, .int .i64 s, .int .i64 c, .int .i64 n, .int .i64 t, .int .i64 d, .int .i64 r, .int .i64 k, .int .i64 g, .int .u64 z], .int .i64 y] w fun e w' => e = .returned (.tuple #[.int .i64 lo, .int .i64 hi, .int .i64 0]) ∧ Below w.heap.size w w' := by
  obtain ⟨ht1, ht2, hs1, hs2⟩ := fits_t hf
  obtain ⟨hy0, hy1⟩ := hy
  obtain ⟨hl0, ⟨ho1, ho2, ho3⟩, hlate, hripe, hearly⟩ := hS
  have hdv := div_bd hy0 (by omega) ht1
  have HL := Lib.hid hlate
  have HR := Lib.hid hripe
  have HE := Lib.hid hearly
  clear hlate hripe hearly
  have hA0 : Below w.heap.size w (w.alloc (.cells #[.int .i64 v, .int .i64 s, .int .i64 c, .int .i64 n, .int .i64 t, .int .i64 d, .int .i64 r, .int .i64 k, .int .i64 g, .int .u64 z] 24)) := (Below.refl _ _).alloc (Nat.le_refl _) _
  go_enter Tryd.func18, Tryd.ntmps18
  go_wp2_with fail
  with_reducible refine (rFits_eq hf z _).mono ?_
  rintro e w1 ⟨rfl, hb⟩
  have hbw := box_bel (by simpa using hb)
  have R1 : RowAt w1 w.heap.size 24 [.int .i64 v, .int .i64 s, .int .i64 c, .int .i64 n, .int .i64 t, .int .i64 d, .int .i64 r, .int .i64 k, .int .i64 g, .int .u64 z] := (RowAt.new w 24 #[.int .i64 v, .int .i64 s, .int .i64 c, .int .i64 n, .int .i64 t, .int .i64 d, .int .i64 r, .int .i64 k, .int .i64 g, .int .u64 z]).below hb (by simp)
  have r4 : w1.cell? ⟨w.heap.size, 4, none⟩ = some (.int .i64 t) := by rw [R1.cell]; rfl
  clear hb hA0
  go_wp2_with fail
  clear r4
  go_loopw [8, 10, 11] (fun lv _ _ wr => ∃ l : Int, lo ≤ l ∧ l ≤ y / t ∧ lv = .int .i64 l ∧ RowAt wr w.heap.size 24 [.int .i64 v, .int .i64 s, .int .i64 c, .int .i64 n, .int .i64 t, .int .i64 d, .int .i64 r, .int .i64 k, .int .i64 g, .int .u64 z] ∧ Below w.heap.size w wr) (fun lv _ _ _ => (RowKit.intOf lv - lo).toNat)
  case atStart => exact ⟨y / t, ho1, by omega, rfl, R1, hbw⟩
  case round =>
    obtain ⟨l, hl1, hl2, rfl, R1, hB⟩ := hrel
    have r0 : wr.cell? ⟨w.heap.size, 0, none⟩ = some (.int .i64 v) := by rw [R1.cell]; rfl
    have r1 : wr.cell? ⟨w.heap.size, 1, none⟩ = some (.int .i64 s) := by rw [R1.cell]; rfl
    have r2 : wr.cell? ⟨w.heap.size, 2, none⟩ = some (.int .i64 c) := by rw [R1.cell]; rfl
    have r3 : wr.cell? ⟨w.heap.size, 3, none⟩ = some (.int .i64 n) := by rw [R1.cell]; rfl
    have r4 : wr.cell? ⟨w.heap.size, 4, none⟩ = some (.int .i64 t) := by rw [R1.cell]; rfl
    have r5 : wr.cell? ⟨w.heap.size, 5, none⟩ = some (.int .i64 d) := by rw [R1.cell]; rfl
    have r6 : wr.cell? ⟨w.heap.size, 6, none⟩ = some (.int .i64 r) := by rw [R1.cell]; rfl
    have r7 : wr.cell? ⟨w.heap.size, 7, none⟩ = some (.int .i64 k) := by rw [R1.cell]; rfl
    have r8 : wr.cell? ⟨w.heap.size, 8, none⟩ = some (.int .i64 g) := by rw [R1.cell]; rfl
    have r9 : wr.cell? ⟨w.heap.size, 9, none⟩ = some (.int .u64 z) := by rw [R1.cell]; rfl
    by_cases hl : lo < l
    · go_wp2_with fail
      with_reducible refine (rStand_any hf z _ y (by omega) (l - 1) (by omega) 1 0 (by rw [standA_yes (by omega) (by omega) (by omega), HR.out _ (by omega) (by omega)])).mono ?_
      rintro e w3 ⟨rfl, hb3⟩
      clear r0 r1 r2 r3 r4 r5 r6 r7 r8 r9
      replace R1 := R1.below hb3 R1.lt
      replace hB := hB.trans (hb3.mono hB.size)
      go_wp2_with fail
      go_roundw
      case rel => exact ⟨l - 1, by omega, by omega, by go_num, R1, hB⟩
      case measure => simp [RowKit.intOf]; omega
    · obtain rfl : l = lo := by omega
      by_cases hz : 0 < l
      · go_wp2_with fail
        with_reducible refine (rStand_any hf z _ y (by omega) (l - 1) (by omega) 2 0 (by rw [standA_yes (by omega) (by omega) (by omega), HL.out _ (by omega) (by omega)])).mono ?_
        rintro e w3 ⟨rfl, hb3⟩
        clear r0 r1 r2 r3 r4 r5 r6 r7 r8 r9
        replace R1 := R1.below hb3 R1.lt
        replace hB := hB.trans (hb3.mono hB.size)
        clear hb3
        go_wp2_with fail
        go_loopw [9, 12, 13] (fun hv _ _ wt => ∃ h : Int, y / t ≤ h ∧ h ≤ hi ∧ hv = .int .i64 h ∧ RowAt wt w.heap.size 24 [.int .i64 v, .int .i64 s, .int .i64 c, .int .i64 n, .int .i64 t, .int .i64 d, .int .i64 r, .int .i64 k, .int .i64 g, .int .u64 z] ∧ Below w.heap.size w wt) (fun hv _ _ _ => (hi - RowKit.intOf hv).toNat)
        case atStart => exact ⟨y / t, by omega, ho2, rfl, R1, hB⟩
        case round =>
          obtain ⟨h, hh1, hh2, rfl, R1, hB⟩ := hrel
          have r0 : wr.cell? ⟨w.heap.size, 0, none⟩ = some (.int .i64 v) := by rw [R1.cell]; rfl
          have r1 : wr.cell? ⟨w.heap.size, 1, none⟩ = some (.int .i64 s) := by rw [R1.cell]; rfl
          have r2 : wr.cell? ⟨w.heap.size, 2, none⟩ = some (.int .i64 c) := by rw [R1.cell]; rfl
          have r3 : wr.cell? ⟨w.heap.size, 3, none⟩ = some (.int .i64 n) := by rw [R1.cell]; rfl
          have r4 : wr.cell? ⟨w.heap.size, 4, none⟩ = some (.int .i64 t) := by rw [R1.cell]; rfl
          have r5 : wr.cell? ⟨w.heap.size, 5, none⟩ = some (.int .i64 d) := by rw [R1.cell]; rfl
          have r6 : wr.cell? ⟨w.heap.size, 6, none⟩ = some (.int .i64 r) := by rw [R1.cell]; rfl
          have r7 : wr.cell? ⟨w.heap.size, 7, none⟩ = some (.int .i64 k) := by rw [R1.cell]; rfl
          have r8 : wr.cell? ⟨w.heap.size, 8, none⟩ = some (.int .i64 g) := by rw [R1.cell]; rfl
          have r9 : wr.cell? ⟨w.heap.size, 9, none⟩ = some (.int .u64 z) := by rw [R1.cell]; rfl
          by_cases hh : h < hi
          · go_wp2_with fail
            with_reducible refine (rStand_any hf z _ y (by omega) (h + 1) (by omega) 1 0 (by rw [standA_yes (by omega) (by omega) (by omega), HR.out _ (by omega) (by omega)])).mono ?_
            rintro e w5 ⟨rfl, hb5⟩
            clear r0 r1 r2 r3 r4 r5 r6 r7 r8 r9
            replace R1 := R1.below hb5 R1.lt
            replace hB := hB.trans (hb5.mono hB.size)
            go_wp2_with fail
            go_roundw
            case rel => exact ⟨h + 1, by omega, by omega, by go_num, R1, hB⟩
            case measure => simp [RowKit.intOf]; omega
          · obtain rfl : h = hi := by omega
            go_wp2_with fail
            with_reducible refine (rStand_any hf z _ y (by omega) (h + 1) (by omega) 0 0 (by rw [standA_yes (by omega) (by omega) (by omega), HE.out _ (by omega)])).mono ?_
            rintro e w5 ⟨rfl, hb5⟩
            clear r0 r1 r2 r3 r4 r5 r6 r7 r8 r9
            replace hB := hB.trans (hb5.mono hB.size)
            go_wp2_with fail
            refine bodyPost_ret (v := .tuple #[.int .i64 l, .int .i64 h, .int .i64 0]) (by simp [results, Tryd.results18, go_sem]) rfl ?_
            exact ⟨rfl, hB⟩
      · clear r0 r1 r2 r3 r4 r5 r6 r7 r8 r9
        go_wp2_with fail
        go_loopw [9, 12, 13] (fun hv _ _ wt => ∃ h : Int, y / t ≤ h ∧ h ≤ hi ∧ hv = .int .i64 h ∧ RowAt wt w.heap.size 24 [.int .i64 v, .int .i64 s, .int .i64 c, .int .i64 n, .int .i64 t, .int .i64 d, .int .i64 r, .int .i64 k, .int .i64 g, .int .u64 z] ∧ Below w.heap.size w wt) (fun hv _ _ _ => (hi - RowKit.intOf hv).toNat)
        case atStart => exact ⟨y / t, by omega, ho2, rfl, R1, hB⟩
        case round =>
          obtain ⟨h, hh1, hh2, rfl, R1, hB⟩ := hrel
          have r0 : wr.cell? ⟨w.heap.size, 0, none⟩ = some (.int .i64 v) := by rw [R1.cell]; rfl
          have r1 : wr.cell? ⟨w.heap.size, 1, none⟩ = some (.int .i64 s) := by rw [R1.cell]; rfl
          have r2 : wr.cell? ⟨w.heap.size, 2, none⟩ = some (.int .i64 c) := by rw [R1.cell]; rfl
          have r3 : wr.cell? ⟨w.heap.size, 3, none⟩ = some (.int .i64 n) := by rw [R1.cell]; rfl
          have r4 : wr.cell? ⟨w.heap.size, 4, none⟩ = some (.int .i64 t) := by rw [R1.cell]; rfl
          have r5 : wr.cell? ⟨w.heap.size, 5, none⟩ = some (.int .i64 d) := by rw [R1.cell]; rfl
          have r6 : wr.cell? ⟨w.heap.size, 6, none⟩ = some (.int .i64 r) := by rw [R1.cell]; rfl
          have r7 : wr.cell? ⟨w.heap.size, 7, none⟩ = some (.int .i64 k) := by rw [R1.cell]; rfl
          have r8 : wr.cell? ⟨w.heap.size, 8, none⟩ = some (.int .i64 g) := by rw [R1.cell]; rfl
          have r9 : wr.cell? ⟨w.heap.size, 9, none⟩ = some (.int .u64 z) := by rw [R1.cell]; rfl
          by_cases hh : h < hi
          · go_wp2_with fail
            with_reducible refine (rStand_any hf z _ y (by omega) (h + 1) (by omega) 1 0 (by rw [standA_yes (by omega) (by omega) (by omega), HR.out _ (by omega) (by omega)])).mono ?_
            rintro e w5 ⟨rfl, hb5⟩
            clear r0 r1 r2 r3 r4 r5 r6 r7 r8 r9
            replace R1 := R1.below hb5 R1.lt
            replace hB := hB.trans (hb5.mono hB.size)
            go_wp2_with fail
            go_roundw
            case rel => exact ⟨h + 1, by omega, by omega, by go_num, R1, hB⟩
            case measure => simp [RowKit.intOf]; omega
          · obtain rfl : h = hi := by omega
            go_wp2_with fail
            with_reducible refine (rStand_any hf z _ y (by omega) (h + 1) (by omega) 0 0 (by rw [standA_yes (by omega) (by omega) (by omega), HE.out _ (by omega)])).mono ?_
            rintro e w5 ⟨rfl, hb5⟩
            clear r0 r1 r2 r3 r4 r5 r6 r7 r8 r9
            replace hB := hB.trans (hb5.mono hB.size)
            go_wp2_with fail
            refine bodyPost_ret (v := .tuple #[.int .i64 l, .int .i64 h, .int .i64 0]) (by simp [results, Tryd.results18, go_sem]) rfl ?_
            exact ⟨rfl, hB⟩
end Go.Proofs.YtjcpeimlebpglaaDoor
