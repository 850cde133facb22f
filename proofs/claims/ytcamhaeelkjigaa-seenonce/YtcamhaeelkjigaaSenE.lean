/- The document's own answers of layer 13: Add. -/
import Derived.Test.YtcamhaeelkjigaaSenD
import Derived.Test.YtcamhaeelkjigaaAppA
import Derived.Deep.RegionHeld3
namespace Go.Proofs.Ytcamhaeelkjigaa
open Go.RowKit

/-- The answer of Add: marks, and an error. -/
def addR (l : List Mk) (room : Int) (m : Mk) : List Mk × Int := if rightMB l && mayMB m then (if m ∈ l then ([], 7) else if room ≤ l.length then ([], 5) else (insM m l, 0)) else ([], 1)
theorem addR_arg {l : List Mk} {room : Int} {m : Mk} (h : (rightMB l && mayMB m) = false) : addR l room m = ([], 1) := by unfold addR; rw [h]; rfl
theorem addR_twice {l : List Mk} {room : Int} {m : Mk} (h1 : rightMB l = true) (h2 : mayMB m = true) (h : m ∈ l) : addR l room m = ([], 7) := by unfold addR; rw [h1, h2, if_pos (by rfl), if_pos h]
theorem addR_full {l : List Mk} {room : Int} {m : Mk} (h1 : rightMB l = true) (h2 : mayMB m = true) (h : m ∉ l) (h3 : room ≤ l.length) : addR l room m = ([], 5) := by unfold addR; rw [h1, h2, if_pos (by rfl), if_neg h, if_pos h3]
theorem addR_ok {l : List Mk} {room : Int} {m : Mk} (h1 : rightMB l = true) (h2 : mayMB m = true) (h : m ∉ l) (h3 : ¬ room ≤ l.length) : addR l room m = (insM m l, 0) := by unfold addR; rw [h1, h2, if_pos (by rfl), if_neg h, if_neg h3]
theorem hasM_yes {l : List Mk} {m : Mk} (h1 : rightMB l = true) (h : m ∈ l) : hasMB l m = true := decide_eq_true ⟨of_decide_eq_true h1, h⟩
theorem hasM_no {l : List Mk} {m : Mk} (h : m ∉ l) : hasMB l m = false := decide_eq_false fun h' => h h'.2
/-- The cells of marks lie as the slice says. -/
theorem Mks.lies {w : World} {B : Nat} {A : Option Addr} {n c : Nat} {l : List Mk} (h : Mks w B (.slice A n c) l) : 0 < l.length → ∃ ad, A = some ad ∧ ad.block < B ∧ ∀ j u, (l.flatMap markCells)[j]? = some u → w.cell? (ad.add j) = some u := by
  intro hp
  obtain ⟨A', c', hv, hc, ha⟩ := h
  injection hv with h1 h2 h3
  subst h1
  obtain ⟨ad, e, hb, hcell⟩ := ha hp
  refine ⟨ad, e, hb, fun j u hj => ?_⟩
  have hjl : j < l.length * 3 := by
    rcases Nat.lt_or_ge j (l.flatMap markCells).length with k | k
    · rwa [flat_marks_length] at k
    · rw [List.getElem?_eq_none k] at hj; cases hj
  obtain ⟨i, r, hi, hr⟩ : ∃ i r, j = i * 3 + r ∧ r < 3 := ⟨j / 3, j % 3, by omega, by omega⟩
  have hil : i < l.length := by omega
  obtain ⟨c1, c2, c3⟩ := hcell i l[i] (List.getElem?_eq_getElem hil)
  obtain ⟨f1, f2, f3⟩ := flat_marks_get l i l[i] (List.getElem?_eq_getElem hil)
  have h3 : r = 0 ∨ r = 1 ∨ r = 2 := by omega
  rcases h3 with rfl | rfl | rfl <;> subst hi
  · rw [Nat.add_zero] at hj ⊢
    rw [f1] at hj; cases hj; exact c1
  · rw [f2] at hj; cases hj; exact c2
  · rw [f3] at hj; cases hj; exact c3
theorem Mks.news {w W : World} {A : Option Addr} {n c : Nat} {l : List Mk} (h : Mks w w.heap.size (.slice A n c) l) (hb : Below w.heap.size w W) (k : Nat) (hk : k ≤ l.length) : 0 < k → ∃ ad, A = some ad ∧ ∀ j u, ((l.take k).flatMap markCells)[j]? = some u → W.cell? (ad.add j) = some u := by
  intro h0
  obtain ⟨ad, e, _, h1⟩ := ((h.on hb).first k hk).lies (by rw [List.length_take]; omega)
  exact ⟨ad, e, h1⟩
theorem marks_one (l : List Mk) : ∀ u ∈ l.flatMap markCells, u.oneCell' = true := by
  intro u hu
  rw [List.mem_flatMap] at hu
  obtain ⟨p, _, hp⟩ := hu
  simp [markCells] at hp
  rcases hp with rfl | rfl | rfl <;> rfl
theorem Mks.restM {w : World} {B : Nat} {ad : Addr} {n c : Nat} {l : List Mk} (h : Mks w B (.slice (some ad) n c) l) (k : Nat) (hk : k ≤ l.length) : Mks w B (.slice (some (ad.add (k * 3))) (n - k) (c - k)) (l.drop k) := by
  obtain ⟨A', c', hv, hc, ha⟩ := h
  injection hv with h1 h2 h3
  subst h1; subst h3; subst h2
  refine ⟨_, c - k, by rw [List.length_drop], ⟨by rw [List.length_drop]; omega, fun h => by cases h⟩, fun h0 => ?_⟩
  rw [List.length_drop] at h0
  obtain ⟨ad', e, hb, hcell⟩ := ha (by omega)
  injection e with e
  subst e
  refine ⟨_, rfl, by rw [add_block]; exact hb, fun j s hs => ?_⟩
  rw [List.getElem?_drop] at hs
  have := hcell (k + j) s hs
  rw [add_add, add_add, add_add, show k * 3 + j * 3 = (k + j) * 3 by omega, show k * 3 + (j * 3 + 1) = (k + j) * 3 + 1 by omega, show k * 3 + (j * 3 + 2) = (k + j) * 3 + 2 by omega]
  exact this
theorem Mks.newsR {w W : World} {ad : Addr} {n c : Nat} {l : List Mk} (h : Mks w w.heap.size (.slice (some ad) n c) l) (hb : Below w.heap.size w W) (k : Nat) (hk : k ≤ l.length) : 0 < l.length - k → ∃ ad', some (ad.add (k * 3)) = some ad' ∧ ∀ j u, ((l.drop k).flatMap markCells)[j]? = some u → W.cell? (ad'.add j) = some u := by
  intro h0
  obtain ⟨ad', e, _, h1⟩ := ((h.on hb).restM k hk).lies (by rw [List.length_drop]; omega)
  exact ⟨ad', e, h1⟩
set_option maxHeartbeats 2000000 in
set_option maxRecDepth 100000 in
theorem rAdd_any (v : Value) (l : List Mk) (room q1 q2 q3 : Int) (w : World) (hv : Mks w w.heap.size v l) (h9 : l.length ≤ 1000000) (hr : -9223372036854775808 ≤ room ∧ room ≤ 9223372036854775807) (L : List Mk) (E : Int) (hL : addR l room (q1, q2, q3) = (L, E)) :
    Calls Try.prog 13 #[v, .int .i64 room, .agg #[.int .i64 q1, .int .i64 q2, .int .i64 q3]] w fun o w' => ∃ A c, o = .returned (.tuple #[.slice A L.length c, .int .i64 E]) ∧ Mks w' w'.heap.size (.slice A L.length c) L ∧ FromOn w.heap.size (.slice A L.length c) ∧ Below w.heap.size w w' := by
  obtain ⟨A, c, rfl, hc⟩ := hv.form
  have h9' : l.length ≤ maxLen := by unfold maxLen; omega
  have cR := fun W (h : Mks W W.heap.size (.slice A l.length c) l) => rRight_any _ l W h h9'
  have cH := fun W (h : Mks W W.heap.size (.slice A l.length c) l) => rHas_any _ l q1 q2 q3 W h h9'
  have cM := fun W => rmay_any q1 q2 q3 W
  clear h9'
  obtain ⟨i0, hi0, hz0, hz1, hz2⟩ := info_partsM info_mark
  have hA := (Below.refl w.heap.size w).alloc (Nat.le_refl _) (.cells #[.int .i64 q1, .int .i64 q2, .int .i64 q3] 25)
  have q8 := RowAt.new w 25 #[.int .i64 q1, .int .i64 q2, .int .i64 q3]
  have hv2 := hv.on hA
  cases hr1 : rightMB l
  · rw [addR_arg (by rw [hr1]; rfl)] at hL
    obtain ⟨rfl, rfl⟩ := Prod.mk.inj hL
    rw [hr1] at cR
    clear hL hr1 cH cM
    go_enter Try.func13, Try.ntmps13
    go_upto_region 1 with (fail)
    generalize w.alloc (.cells #[.int .i64 q1, .int .i64 q2, .int .i64 q3] 25) = w1 at *
    go_wp2_with fail
    with_reducible refine (cR _ hv2).mono ?_
    rintro e w2 ⟨rfl, hb2⟩
    go_wp2_with fail
    go_ret2
    exact ⟨none, 0, rfl, Mks.nil _ _, (fun ad n c' h => by cases h), hA.trans (hb2.mono hA.size)⟩
  rw [hr1] at cR
  cases hm1 : mayMB (q1, q2, q3)
  · rw [addR_arg (by rw [hm1, Bool.and_false])] at hL
    obtain ⟨rfl, rfl⟩ := Prod.mk.inj hL
    rw [hm1] at cM
    clear hL hr1 hm1 cH
    go_enter Try.func13, Try.ntmps13
    go_upto_region 1 with (fail)
    generalize w.alloc (.cells #[.int .i64 q1, .int .i64 q2, .int .i64 q3] 25) = w1 at *
    go_wp2_with fail
    with_reducible refine (cR _ hv2).mono ?_
    rintro e w2 ⟨rfl, hb2⟩
    replace q8 := q8.on hb2
    replace hv2 := hv2.on hb2
    replace hA := hA.trans (hb2.mono hA.size)
    clear hb2 cR hv
    obtain ⟨f0, f1, f2⟩ : w2.cell? ⟨w.heap.size, 0, none⟩ = some (.int .i64 q1) ∧ w2.cell? ⟨w.heap.size, 1, none⟩ = some (.int .i64 q2) ∧ w2.cell? ⟨w.heap.size, 2, none⟩ = some (.int .i64 q3) := ⟨q8.cell 0, q8.cell 1, q8.cell 2⟩
    go_wp2_with fail
    with_reducible refine (cM _).mono ?_
    rintro e w3 ⟨rfl, hb3⟩
    replace q8 := q8.on hb3
    replace hv2 := hv2.on hb3
    replace hA := hA.trans (hb3.mono hA.size)
    clear hb3 cM f0 f1 f2
    go_wp2_with fail
    go_ret2
    exact ⟨none, 0, rfl, Mks.nil _ _, (fun ad n c' h => by cases h), hA⟩
  rw [hm1] at cM
  by_cases hin : (q1, q2, q3) ∈ l
  · rw [addR_twice hr1 hm1 hin] at hL
    obtain ⟨rfl, rfl⟩ := Prod.mk.inj hL
    rw [hasM_yes hr1 hin] at cH
    clear hL hr1 hm1 hin
    go_enter Try.func13, Try.ntmps13
    go_upto_region 1 with (fail)
    generalize w.alloc (.cells #[.int .i64 q1, .int .i64 q2, .int .i64 q3] 25) = w1 at *
    go_wp2_with fail
    with_reducible refine (cR _ hv2).mono ?_
    rintro e w2 ⟨rfl, hb2⟩
    replace q8 := q8.on hb2
    replace hv2 := hv2.on hb2
    replace hA := hA.trans (hb2.mono hA.size)
    clear hb2 cR hv
    obtain ⟨f0, f1, f2⟩ : w2.cell? ⟨w.heap.size, 0, none⟩ = some (.int .i64 q1) ∧ w2.cell? ⟨w.heap.size, 1, none⟩ = some (.int .i64 q2) ∧ w2.cell? ⟨w.heap.size, 2, none⟩ = some (.int .i64 q3) := ⟨q8.cell 0, q8.cell 1, q8.cell 2⟩
    go_wp2_with fail
    with_reducible refine (cM _).mono ?_
    rintro e w3 ⟨rfl, hb3⟩
    replace q8 := q8.on hb3
    replace hv2 := hv2.on hb3
    replace hA := hA.trans (hb3.mono hA.size)
    clear hb3 cM f0 f1 f2
    obtain ⟨f0, f1, f2⟩ : w3.cell? ⟨w.heap.size, 0, none⟩ = some (.int .i64 q1) ∧ w3.cell? ⟨w.heap.size, 1, none⟩ = some (.int .i64 q2) ∧ w3.cell? ⟨w.heap.size, 2, none⟩ = some (.int .i64 q3) := ⟨q8.cell 0, q8.cell 1, q8.cell 2⟩
    go_wp2_with fail
    with_reducible refine (cH _ hv2).mono ?_
    rintro e w4 ⟨rfl, hb4⟩
    replace q8 := q8.on hb4
    replace hv2 := hv2.on hb4
    replace hA := hA.trans (hb4.mono hA.size)
    clear hb4 cH f0 f1 f2
    obtain ⟨w3, hw3⟩ : ∃ w3, w3 = w4 := ⟨_, rfl⟩
    subst hw3
    go_wp2_with fail
    go_ret2
    exact ⟨none, 0, rfl, Mks.nil _ _, (fun ad n c' h => by cases h), hA⟩
  rw [hasM_no hin] at cH
  by_cases hfull : room ≤ l.length
  · rw [addR_full hr1 hm1 hin hfull] at hL
    obtain ⟨rfl, rfl⟩ := Prod.mk.inj hL
    have g1 : (room ≤ (l.length : Int)) = True := eq_true hfull
    clear hL hr1 hm1 hin hfull
    go_enter Try.func13, Try.ntmps13
    go_upto_region 1 with (fail)
    generalize w.alloc (.cells #[.int .i64 q1, .int .i64 q2, .int .i64 q3] 25) = w1 at *
    go_wp2_with fail
    with_reducible refine (cR _ hv2).mono ?_
    rintro e w2 ⟨rfl, hb2⟩
    replace q8 := q8.on hb2
    replace hv2 := hv2.on hb2
    replace hA := hA.trans (hb2.mono hA.size)
    clear hb2 cR hv
    obtain ⟨f0, f1, f2⟩ : w2.cell? ⟨w.heap.size, 0, none⟩ = some (.int .i64 q1) ∧ w2.cell? ⟨w.heap.size, 1, none⟩ = some (.int .i64 q2) ∧ w2.cell? ⟨w.heap.size, 2, none⟩ = some (.int .i64 q3) := ⟨q8.cell 0, q8.cell 1, q8.cell 2⟩
    go_wp2_with fail
    with_reducible refine (cM _).mono ?_
    rintro e w3 ⟨rfl, hb3⟩
    replace q8 := q8.on hb3
    replace hv2 := hv2.on hb3
    replace hA := hA.trans (hb3.mono hA.size)
    clear hb3 cM f0 f1 f2
    obtain ⟨f0, f1, f2⟩ : w3.cell? ⟨w.heap.size, 0, none⟩ = some (.int .i64 q1) ∧ w3.cell? ⟨w.heap.size, 1, none⟩ = some (.int .i64 q2) ∧ w3.cell? ⟨w.heap.size, 2, none⟩ = some (.int .i64 q3) := ⟨q8.cell 0, q8.cell 1, q8.cell 2⟩
    go_wp2_with fail
    with_reducible refine (cH _ hv2).mono ?_
    rintro e w4 ⟨rfl, hb4⟩
    replace q8 := q8.on hb4
    replace hv2 := hv2.on hb4
    replace hA := hA.trans (hb4.mono hA.size)
    clear hb4 cH f0 f1 f2
    obtain ⟨w3, hw3⟩ : ∃ w3, w3 = w4 := ⟨_, rfl⟩
    subst hw3
    go_wp2_with fail
    go_ret2
    exact ⟨none, 0, rfl, Mks.nil _ _, (fun ad n c' h => by cases h), hA⟩
  · rw [addR_ok hr1 hm1 hin hfull] at hL
    obtain ⟨rfl, rfl⟩ := Prod.mk.inj hL
    have g1 : (room ≤ (l.length : Int)) = False := eq_false hfull
    have hAt := fun k => ins_at (q1, q2, q3) l k
    have HAt := Lib.hid hAt
    clear hL hr1 hm1 hin hfull hAt
    go_enter Try.func13, Try.ntmps13
    go_upto_region 1 with (fail)
    generalize w.alloc (.cells #[.int .i64 q1, .int .i64 q2, .int .i64 q3] 25) = w1 at *
    go_wp2_with fail
    with_reducible refine (cR _ hv2).mono ?_
    rintro e w2 ⟨rfl, hb2⟩
    replace q8 := q8.on hb2
    replace hv2 := hv2.on hb2
    replace hA := hA.trans (hb2.mono hA.size)
    clear hb2 cR hv
    obtain ⟨f0, f1, f2⟩ : w2.cell? ⟨w.heap.size, 0, none⟩ = some (.int .i64 q1) ∧ w2.cell? ⟨w.heap.size, 1, none⟩ = some (.int .i64 q2) ∧ w2.cell? ⟨w.heap.size, 2, none⟩ = some (.int .i64 q3) := ⟨q8.cell 0, q8.cell 1, q8.cell 2⟩
    go_wp2_with fail
    with_reducible refine (cM _).mono ?_
    rintro e w3 ⟨rfl, hb3⟩
    replace q8 := q8.on hb3
    replace hv2 := hv2.on hb3
    replace hA := hA.trans (hb3.mono hA.size)
    clear hb3 cM f0 f1 f2
    obtain ⟨f0, f1, f2⟩ : w3.cell? ⟨w.heap.size, 0, none⟩ = some (.int .i64 q1) ∧ w3.cell? ⟨w.heap.size, 1, none⟩ = some (.int .i64 q2) ∧ w3.cell? ⟨w.heap.size, 2, none⟩ = some (.int .i64 q3) := ⟨q8.cell 0, q8.cell 1, q8.cell 2⟩
    go_wp2_with fail
    with_reducible refine (cH _ hv2).mono ?_
    rintro e w4 ⟨rfl, hb4⟩
    replace q8 := q8.on hb4
    replace hv2 := hv2.on hb4
    replace hA := hA.trans (hb4.mono hA.size)
    clear hb4 cH f0 f1 f2
    obtain ⟨w3, hw3⟩ : ∃ w3, w3 = w4 := ⟨_, rfl⟩
    subst hw3
    have hw := hA.size
    have cA := fun (p : Mk) W => rahead_at p (q1, q2, q3) W
    go_wp2_with fail
    go_loopw [10] (fun iv wr => ∃ k : Nat, k ≤ l.length ∧ iv = .int .i64 k ∧ (∀ i (h : i < l.length), i < k → aheadM l[i] (q1, q2, q3)) ∧ Below w3.heap.size w3 wr) (fun iv _ => l.length - (intOf iv).toNat)
    case atStart => exact ⟨0, Nat.zero_le _, rfl, (fun i h h' => absurd h' (by omega)), Below.refl _ _⟩
    case round =>
      obtain ⟨k, hk, rfl, hah, hb⟩ := hrel
      have HK := Lib.hid hah
      clear hah
      have hbA := hA.trans (hb.mono hA.size)
      have q9 := q8.on hb
      have hvr := hv2.on hb
      by_cases hlt : k < l.length
      · have g2 : ((k : Int) < (l.length : Int)) = True := eq_true (by omega)
        have g3 : (k < l.length) = True := eq_true hlt
        obtain ⟨ad, rfl, hc1, hc2, hc3⟩ := hv2.cells hb hlt
        have f0 : ∀ p : Later wr, p.W.cell? ⟨w.heap.size, 0, none⟩ = some (.int .i64 q1) := fun p => ((q9.on p.h).cell 0).trans rfl
        have f1 : ∀ p : Later wr, p.W.cell? ⟨w.heap.size, 1, none⟩ = some (.int .i64 q2) := fun p => ((q9.on p.h).cell 1).trans rfl
        have f2 : ∀ p : Later wr, p.W.cell? ⟨w.heap.size, 2, none⟩ = some (.int .i64 q3) := fun p => ((q9.on p.h).cell 2).trans rfl
        have HN := Lib.hid (fun h0 : aheadMB l[k] (q1, q2, q3) = true => show ∀ i (h : i < l.length), i < k + 1 → aheadM l[i] (q1, q2, q3) from fun i h h' => by
          by_cases e : i = k
          · subst e; exact of_decide_eq_true h0
          · exact HK.out i h (by omega))
        have HF := Lib.hid (fun h0 : aheadMB l[k] (q1, q2, q3) = false => show insM (q1, q2, q3) l = l.take k ++ (q1, q2, q3) :: l.drop k from HAt.out k hk HK.out (fun _ => of_decide_eq_false h0))
        have HC1 : ∀ p : Later wr, Calls Try.prog 28 #[.agg #[.int .i64 l[k].1, .int .i64 l[k].2.1, .int .i64 l[k].2.2], .agg #[.int .i64 q1, .int .i64 q2, .int .i64 q3]] p.W fun e w_ => e = .returned (.bool (aheadMB l[k] (q1, q2, q3))) ∧ ∃ p : Later wr, w_ = p.W := fun p => later_of (cA l[k] p.W)
        clear cA
        generalize aheadMB l[k] (q1, q2, q3) = bb at *
        go_upto_region 10 with (fail)
        refine wp_region_later (by kernel_rfl) (by kernel_rfl) ?_
        repeat (go_big_quiet_step (first | (go_at_call 28; exact HC1 _)))
        refine wpQuiet_nil ?_
        intro _ hw'
        obtain ⟨pq, rfl⟩ := hw'
        have hbn : Below w3.heap.size w3 pq.W := hb.trans (pq.h.mono hb.size)
        have hvn := hv2.on hbn
        have q7 := q9.on pq.h
        clear hc1 hc2 hc3 f0 f1 f2 HC1 hvr q9
        generalize pq.W = w5 at *
        cases bb
        · have hins := HF.out rfl
          have hbA5 := hA.trans (hbn.mono hA.size)
          clear HF HN HK hbA hb HAt
          have hv5 := (hv2.on hbn)
          obtain ⟨f0, f1, f2⟩ : w5.cell? ⟨w.heap.size, 0, none⟩ = some (.int .i64 q1) ∧ w5.cell? ⟨w.heap.size, 1, none⟩ = some (.int .i64 q2) ∧ w5.cell? ⟨w.heap.size, 2, none⟩ = some (.int .i64 q3) := ⟨q7.cell 0, q7.cell 1, q7.cell 2⟩
          have s1 : ((k : Int) ≤ (c : Int)) = True := eq_true (by omega)
          have s2 : ((k : Int) ≤ (l.length : Int)) = True := eq_true (by omega)
          have s3 : (c = k) = False := eq_false (by omega)
          have s4 : (k ≤ c) = True := eq_true (by omega)
          have s5 : (k ≤ l.length) = True := eq_true (by omega)
          go_wp2_with fail
          go_region_held3 (fun w' => w'.cell? ⟨w.heap.size, 0, none⟩ = some (.int .i64 q1) ∧ w'.cell? ⟨w.heap.size, 1, none⟩ = some (.int .i64 q2) ∧ w'.cell? ⟨w.heap.size, 2, none⟩ = some (.int .i64 q3))
            (first | with_reducible exact ⟨f0, f1, f2⟩ | exact ⟨qC.cell 0, qC.cell 1, qC.cell 2⟩ | exact ⟨qB.cell 0, qB.cell 1, qB.cell 2⟩ | exact ⟨qA.cell 0, qA.cell 1, qA.cell 2⟩ | go_keep)
            (first
              | (refine step_append_any rfl _ _ 22 rfl w5.heap.size 25 i0 (.agg #[.int .i64 0, .int .i64 0, .int .i64 0]) 3 24 Try.underlying22 hi0 hz0 hz1 hz2 rfl (by decide) (.slice none 0 0) 0 [] rfl (World.ownsRow_nil _ _ _ _) _ k c ((l.take k).flatMap markCells) rfl (by rw [flat_marks_length, List.length_take]; omega) (by first | exact hv5.news (Below.refl _ _) k hk | exact hv5.news ((Below.refl _ _).alloc (Nat.le_refl _) _) k hk) (marks_one _) (by unfold maxLen; omega) (by omega) (by first | exact Nat.le_refl _ | simp) ?_
                 intro S1 cap1 wA own1 grow1
                 simp only [Nat.zero_add, List.nil_append] at own1 ⊢
                 have hB1 : Below w5.heap.size w5 wA := by first | exact Below.grown (Below.refl _ _).drew grow1 (Nat.le_refl _) (fun k h => by cases h) | exact Below.grown ((Below.refl _ _).drew.alloc (Nat.le_refl _) _) grow1 (by simp) (fun k h => by cases h)
                 have qA : RowAt wA w.heap.size 25 [.int .i64 q1, .int .i64 q2, .int .i64 q3] := q7.on hB1
                 have ob1 : ∀ j, (Value.slice S1 k cap1).ownBlock = some j → w5.heap.size ≤ j := fun j h => (own1.lt j h).1
                 try (have bx1 : RowAt wA w5.heap.size 25 [.int .i64 q1, .int .i64 q2, .int .i64 q3] := RowAt.grown (RowAt.new w5.drew 25 #[.int .i64 q1, .int .i64 q2, .int .i64 q3]) grow1 (by simp [Value.ownBlock])))
              | (refine step_append_any rfl _ _ 22 rfl w5.heap.size 25 i0 (.agg #[.int .i64 0, .int .i64 0, .int .i64 0]) 3 24 Try.underlying22 hi0 hz0 hz1 hz2 rfl (by decide) (.slice S1 k cap1) k _ rfl (by first | exact own1 | exact own1.alloc _) _ 1 1 [.int .i64 q1, .int .i64 q2, .int .i64 q3] rfl rfl (fun _ => ⟨_, rfl, fun j u hj => by rw [addr0]; first | exact ((RowAt.new wA 25 #[.int .i64 q1, .int .i64 q2, .int .i64 q3]).cell j).trans hj | exact (bx1.cell j).trans hj⟩) (by simp [Value.oneCell']) (by unfold maxLen; omega) (by omega) (by have := hB1.size; first | exact this | (simp; omega)) ?_
                 intro S2 cap2 wB own2 grow2
                 have hB2 : Below w5.heap.size w5 wB := by first | exact Below.grown hB1 grow2 hB1.size ob1 | exact Below.grown (hB1.alloc hB1.size _) grow2 (Nat.le_trans hB1.size (by simp)) ob1
                 have qB : RowAt wB w.heap.size 25 [.int .i64 q1, .int .i64 q2, .int .i64 q3] := q7.on hB2
                 have ob2 : ∀ j, (Value.slice S2 (k + 1) cap2).ownBlock = some j → w5.heap.size ≤ j := fun j h => (own2.lt j h).1)
              | (refine step_append_any rfl _ _ 22 rfl w5.heap.size 25 i0 (.agg #[.int .i64 0, .int .i64 0, .int .i64 0]) 3 24 Try.underlying22 hi0 hz0 hz1 hz2 rfl (by decide) (.slice S2 (k + 1) cap2) (k + 1) _ rfl own2 _ (l.length - k) (c - k) ((l.drop k).flatMap markCells) rfl (by rw [flat_marks_length, List.length_drop]) (hv5.newsR hB2 k hk) (marks_one _) (by unfold maxLen; omega) (by omega) hB2.size ?_
                 intro S3 cap3 wC own3 grow3
                 have hB3 : Below w5.heap.size w5 wC := Below.grown hB2 grow3 hB2.size ob2
                 have qC : RowAt wC w.heap.size 25 [.int .i64 q1, .int .i64 q2, .int .i64 q3] := q7.on hB3))
          all_goals
            have own4 : wC.ownsRow w5.heap.size 25 3 (.slice S3 (insM (q1, q2, q3) l).length cap3) (insM (q1, q2, q3) l).length ((insM (q1, q2, q3) l).flatMap markCells) := by
              rw [show (insM (q1, q2, q3) l).length = k + 1 + (l.length - k) by have := len_ins (q1, q2, q3) l; omega, hins, List.flatMap_append, List.flatMap_cons]
              simpa [markCells] using own3
            have hf := fromOn_own own4
            have hm := Mks.own own4
            go_simp
            go_wp2_with fail
            go_ret2
            have hl : (insM (q1, q2, q3) l).length = k + 1 + (l.length - k) := by have := len_ins (q1, q2, q3) l; omega
            exact ⟨S3, cap3, by rw [hl]; rfl, hm, hf.less hbA5.size, hbA5.trans (hB3.mono hbA5.size)⟩

        · have hn := HN.out rfl
          clear HF HN HK
          go_wp2_with fail
          go_roundw
          case rel => exact ⟨k + 1, by omega, by go_num, hn, hbn⟩
          case measure => simp [intOf]; omega
      · obtain rfl : k = l.length := by omega
        have g2 : ((l.length : Int) < (l.length : Int)) = False := eq_false (by omega)
        have hins : insM (q1, q2, q3) l = l.take l.length ++ (q1, q2, q3) :: l.drop l.length := HAt.out l.length hk HK.out (fun h => absurd h (by omega))
        clear HK HAt
        go_upto_region 10 with (fail)
        refine wp_region_later (by kernel_rfl) (by kernel_rfl) ?_
        repeat (go_big_quiet_step (fail))
        refine wpQuiet_nil ?_
        intro _ hw'
        obtain ⟨pq, rfl⟩ := hw'
        have hbn : Below w3.heap.size w3 pq.W := hb.trans (pq.h.mono hb.size)
        have hvn := hv2.on hbn
        have q7 := q9.on pq.h
        have hbA5 := hA.trans (hbn.mono hA.size)
        clear hbA hb hvr q9
        generalize pq.W = w5 at *
        rcases Nat.lt_or_ge l.length c with hlc | hlc
        · rcases A with _ | ad
          · have hv5 := (hv2.on hbn)
            obtain ⟨f0, f1, f2⟩ : w5.cell? ⟨w.heap.size, 0, none⟩ = some (.int .i64 q1) ∧ w5.cell? ⟨w.heap.size, 1, none⟩ = some (.int .i64 q2) ∧ w5.cell? ⟨w.heap.size, 2, none⟩ = some (.int .i64 q3) := ⟨q7.cell 0, q7.cell 1, q7.cell 2⟩
            have s1 : ((l.length : Int) ≤ (c : Int)) = True := eq_true (by omega)
            have s2 : ((l.length : Int) ≤ (l.length : Int)) = True := eq_true (by omega)
            have s3 : (c = l.length) = False := eq_false (by omega)
            have s4 : (l.length ≤ c) = True := eq_true (by omega)
            have s5 : (l.length ≤ l.length) = True := eq_true (by omega)
            go_wp2_with fail
            go_region_held3 (fun w' => w'.cell? ⟨w.heap.size, 0, none⟩ = some (.int .i64 q1) ∧ w'.cell? ⟨w.heap.size, 1, none⟩ = some (.int .i64 q2) ∧ w'.cell? ⟨w.heap.size, 2, none⟩ = some (.int .i64 q3))
              (first | with_reducible exact ⟨f0, f1, f2⟩ | exact ⟨qC.cell 0, qC.cell 1, qC.cell 2⟩ | exact ⟨qB.cell 0, qB.cell 1, qB.cell 2⟩ | exact ⟨qA.cell 0, qA.cell 1, qA.cell 2⟩ | go_keep)
              (first
                | (refine step_append_any rfl _ _ 22 rfl w5.heap.size 25 i0 (.agg #[.int .i64 0, .int .i64 0, .int .i64 0]) 3 24 Try.underlying22 hi0 hz0 hz1 hz2 rfl (by decide) (.slice none 0 0) 0 [] rfl (World.ownsRow_nil _ _ _ _) _ l.length _ ((l.take l.length).flatMap markCells) rfl (by rw [flat_marks_length, List.length_take]; omega) (by first | exact hv5.news (Below.refl _ _) l.length hk | exact hv5.news ((Below.refl _ _).alloc (Nat.le_refl _) _) l.length hk) (marks_one _) (by unfold maxLen; omega) (by omega) (by first | exact Nat.le_refl _ | simp) ?_
                   intro S1 cap1 wA own1 grow1
                   simp only [Nat.zero_add, List.nil_append] at own1 ⊢
                   have hB1 : Below w5.heap.size w5 wA := by first | exact Below.grown (Below.refl _ _).drew grow1 (Nat.le_refl _) (fun k h => by cases h) | exact Below.grown ((Below.refl _ _).drew.alloc (Nat.le_refl _) _) grow1 (by simp) (fun k h => by cases h)
                   have qA : RowAt wA w.heap.size 25 [.int .i64 q1, .int .i64 q2, .int .i64 q3] := q7.on hB1
                   have ob1 : ∀ j, (Value.slice S1 l.length cap1).ownBlock = some j → w5.heap.size ≤ j := fun j h => (own1.lt j h).1
                   try (have bx1 : RowAt wA w5.heap.size 25 [.int .i64 q1, .int .i64 q2, .int .i64 q3] := RowAt.grown (RowAt.new w5.drew 25 #[.int .i64 q1, .int .i64 q2, .int .i64 q3]) grow1 (by simp [Value.ownBlock])))
                | (refine step_append_any rfl _ _ 22 rfl w5.heap.size 25 i0 (.agg #[.int .i64 0, .int .i64 0, .int .i64 0]) 3 24 Try.underlying22 hi0 hz0 hz1 hz2 rfl (by decide) (.slice S1 l.length cap1) l.length _ rfl (by first | exact own1 | exact own1.alloc _) _ 1 1 [.int .i64 q1, .int .i64 q2, .int .i64 q3] rfl rfl (fun _ => ⟨_, rfl, fun j u hj => by rw [addr0]; first | exact ((RowAt.new wA 25 #[.int .i64 q1, .int .i64 q2, .int .i64 q3]).cell j).trans hj | exact (bx1.cell j).trans hj⟩) (by simp [Value.oneCell']) (by unfold maxLen; omega) (by omega) (by have := hB1.size; first | exact this | (simp; omega)) ?_
                   intro S2 cap2 wB own2 grow2
                   have hB2 : Below w5.heap.size w5 wB := by first | exact Below.grown hB1 grow2 hB1.size ob1 | exact Below.grown (hB1.alloc hB1.size _) grow2 (Nat.le_trans hB1.size (by simp)) ob1
                   have qB : RowAt wB w.heap.size 25 [.int .i64 q1, .int .i64 q2, .int .i64 q3] := q7.on hB2
                   have ob2 : ∀ j, (Value.slice S2 (l.length + 1) cap2).ownBlock = some j → w5.heap.size ≤ j := fun j h => (own2.lt j h).1)
                | (refine step_append_any rfl _ _ 22 rfl w5.heap.size 25 i0 (.agg #[.int .i64 0, .int .i64 0, .int .i64 0]) 3 24 Try.underlying22 hi0 hz0 hz1 hz2 rfl (by decide) (.slice S2 (l.length + 1) cap2) (l.length + 1) _ rfl own2 _ 0 _ [] rfl rfl (fun h => absurd h (by omega)) (by simp) (by unfold maxLen; omega) (by omega) hB2.size ?_
                   intro S3 cap3 wC own3 grow3
                   have hB3 : Below w5.heap.size w5 wC := Below.grown hB2 grow3 hB2.size ob2
                   have qC : RowAt wC w.heap.size 25 [.int .i64 q1, .int .i64 q2, .int .i64 q3] := q7.on hB3))
            all_goals
              have own4 : wC.ownsRow w5.heap.size 25 3 (.slice S3 (insM (q1, q2, q3) l).length cap3) (insM (q1, q2, q3) l).length ((insM (q1, q2, q3) l).flatMap markCells) := by
                rw [show (insM (q1, q2, q3) l).length = l.length + 1 + 0 by have := len_ins (q1, q2, q3) l; omega, hins, List.flatMap_append, List.flatMap_cons]
                simpa [markCells] using own3
              have hf := fromOn_own own4
              have hm := Mks.own own4
              go_simp
              go_wp2_with fail
              go_ret2
              have hl : (insM (q1, q2, q3) l).length = l.length + 1 + 0 := by have := len_ins (q1, q2, q3) l; omega
              exact ⟨S3, cap3, by rw [hl]; rfl, hm, hf.less hbA5.size, hbA5.trans (hB3.mono hbA5.size)⟩

          · have hv5 := (hv2.on hbn)
            obtain ⟨f0, f1, f2⟩ : w5.cell? ⟨w.heap.size, 0, none⟩ = some (.int .i64 q1) ∧ w5.cell? ⟨w.heap.size, 1, none⟩ = some (.int .i64 q2) ∧ w5.cell? ⟨w.heap.size, 2, none⟩ = some (.int .i64 q3) := ⟨q7.cell 0, q7.cell 1, q7.cell 2⟩
            have s1 : ((l.length : Int) ≤ (c : Int)) = True := eq_true (by omega)
            have s2 : ((l.length : Int) ≤ (l.length : Int)) = True := eq_true (by omega)
            have s3 : (c = l.length) = False := eq_false (by omega)
            have s4 : (l.length ≤ c) = True := eq_true (by omega)
            have s5 : (l.length ≤ l.length) = True := eq_true (by omega)
            go_wp2_with fail
            go_region_held3 (fun w' => w'.cell? ⟨w.heap.size, 0, none⟩ = some (.int .i64 q1) ∧ w'.cell? ⟨w.heap.size, 1, none⟩ = some (.int .i64 q2) ∧ w'.cell? ⟨w.heap.size, 2, none⟩ = some (.int .i64 q3))
              (first | with_reducible exact ⟨f0, f1, f2⟩ | exact ⟨qC.cell 0, qC.cell 1, qC.cell 2⟩ | exact ⟨qB.cell 0, qB.cell 1, qB.cell 2⟩ | exact ⟨qA.cell 0, qA.cell 1, qA.cell 2⟩ | go_keep)
              (first
                | (refine step_append_any rfl _ _ 22 rfl w5.heap.size 25 i0 (.agg #[.int .i64 0, .int .i64 0, .int .i64 0]) 3 24 Try.underlying22 hi0 hz0 hz1 hz2 rfl (by decide) (.slice none 0 0) 0 [] rfl (World.ownsRow_nil _ _ _ _) _ l.length _ ((l.take l.length).flatMap markCells) rfl (by rw [flat_marks_length, List.length_take]; omega) (by first | exact hv5.news (Below.refl _ _) l.length hk | exact hv5.news ((Below.refl _ _).alloc (Nat.le_refl _) _) l.length hk) (marks_one _) (by unfold maxLen; omega) (by omega) (by first | exact Nat.le_refl _ | simp) ?_
                   intro S1 cap1 wA own1 grow1
                   simp only [Nat.zero_add, List.nil_append] at own1 ⊢
                   have hB1 : Below w5.heap.size w5 wA := by first | exact Below.grown (Below.refl _ _).drew grow1 (Nat.le_refl _) (fun k h => by cases h) | exact Below.grown ((Below.refl _ _).drew.alloc (Nat.le_refl _) _) grow1 (by simp) (fun k h => by cases h)
                   have qA : RowAt wA w.heap.size 25 [.int .i64 q1, .int .i64 q2, .int .i64 q3] := q7.on hB1
                   have ob1 : ∀ j, (Value.slice S1 l.length cap1).ownBlock = some j → w5.heap.size ≤ j := fun j h => (own1.lt j h).1
                   try (have bx1 : RowAt wA w5.heap.size 25 [.int .i64 q1, .int .i64 q2, .int .i64 q3] := RowAt.grown (RowAt.new w5.drew 25 #[.int .i64 q1, .int .i64 q2, .int .i64 q3]) grow1 (by simp [Value.ownBlock])))
                | (refine step_append_any rfl _ _ 22 rfl w5.heap.size 25 i0 (.agg #[.int .i64 0, .int .i64 0, .int .i64 0]) 3 24 Try.underlying22 hi0 hz0 hz1 hz2 rfl (by decide) (.slice S1 l.length cap1) l.length _ rfl (by first | exact own1 | exact own1.alloc _) _ 1 1 [.int .i64 q1, .int .i64 q2, .int .i64 q3] rfl rfl (fun _ => ⟨_, rfl, fun j u hj => by rw [addr0]; first | exact ((RowAt.new wA 25 #[.int .i64 q1, .int .i64 q2, .int .i64 q3]).cell j).trans hj | exact (bx1.cell j).trans hj⟩) (by simp [Value.oneCell']) (by unfold maxLen; omega) (by omega) (by have := hB1.size; first | exact this | (simp; omega)) ?_
                   intro S2 cap2 wB own2 grow2
                   have hB2 : Below w5.heap.size w5 wB := by first | exact Below.grown hB1 grow2 hB1.size ob1 | exact Below.grown (hB1.alloc hB1.size _) grow2 (Nat.le_trans hB1.size (by simp)) ob1
                   have qB : RowAt wB w.heap.size 25 [.int .i64 q1, .int .i64 q2, .int .i64 q3] := q7.on hB2
                   have ob2 : ∀ j, (Value.slice S2 (l.length + 1) cap2).ownBlock = some j → w5.heap.size ≤ j := fun j h => (own2.lt j h).1)
                | (refine step_append_any rfl _ _ 22 rfl w5.heap.size 25 i0 (.agg #[.int .i64 0, .int .i64 0, .int .i64 0]) 3 24 Try.underlying22 hi0 hz0 hz1 hz2 rfl (by decide) (.slice S2 (l.length + 1) cap2) (l.length + 1) _ rfl own2 _ 0 _ [] rfl rfl (fun h => absurd h (by omega)) (by simp) (by unfold maxLen; omega) (by omega) hB2.size ?_
                   intro S3 cap3 wC own3 grow3
                   have hB3 : Below w5.heap.size w5 wC := Below.grown hB2 grow3 hB2.size ob2
                   have qC : RowAt wC w.heap.size 25 [.int .i64 q1, .int .i64 q2, .int .i64 q3] := q7.on hB3))
            all_goals
              have own4 : wC.ownsRow w5.heap.size 25 3 (.slice S3 (insM (q1, q2, q3) l).length cap3) (insM (q1, q2, q3) l).length ((insM (q1, q2, q3) l).flatMap markCells) := by
                rw [show (insM (q1, q2, q3) l).length = l.length + 1 + 0 by have := len_ins (q1, q2, q3) l; omega, hins, List.flatMap_append, List.flatMap_cons]
                simpa [markCells] using own3
              have hf := fromOn_own own4
              have hm := Mks.own own4
              go_simp
              go_wp2_with fail
              go_ret2
              have hl : (insM (q1, q2, q3) l).length = l.length + 1 + 0 := by have := len_ins (q1, q2, q3) l; omega
              exact ⟨S3, cap3, by rw [hl]; rfl, hm, hf.less hbA5.size, hbA5.trans (hB3.mono hbA5.size)⟩

        · have hcl : c = l.length := by omega
          rcases A with _ | ad
          · have hv5 := (hv2.on hbn)
            obtain ⟨f0, f1, f2⟩ : w5.cell? ⟨w.heap.size, 0, none⟩ = some (.int .i64 q1) ∧ w5.cell? ⟨w.heap.size, 1, none⟩ = some (.int .i64 q2) ∧ w5.cell? ⟨w.heap.size, 2, none⟩ = some (.int .i64 q3) := ⟨q7.cell 0, q7.cell 1, q7.cell 2⟩
            have s1 : ((l.length : Int) ≤ (c : Int)) = True := eq_true (by omega)
            have s2 : ((l.length : Int) ≤ (l.length : Int)) = True := eq_true (by omega)
            have s3 : (c = l.length) = True := eq_true (by omega)
            have s4 : (l.length ≤ c) = True := eq_true (by omega)
            have s5 : (l.length ≤ l.length) = True := eq_true (by omega)
            clear hcl hlc
            go_wp2_with fail
            go_region_held3 (fun w' => w'.cell? ⟨w.heap.size, 0, none⟩ = some (.int .i64 q1) ∧ w'.cell? ⟨w.heap.size, 1, none⟩ = some (.int .i64 q2) ∧ w'.cell? ⟨w.heap.size, 2, none⟩ = some (.int .i64 q3))
              (first | with_reducible exact ⟨f0, f1, f2⟩ | exact ⟨qC.cell 0, qC.cell 1, qC.cell 2⟩ | exact ⟨qB.cell 0, qB.cell 1, qB.cell 2⟩ | exact ⟨qA.cell 0, qA.cell 1, qA.cell 2⟩ | go_keep)
              (first
                | (refine step_append_any rfl _ _ 22 rfl w5.heap.size 25 i0 (.agg #[.int .i64 0, .int .i64 0, .int .i64 0]) 3 24 Try.underlying22 hi0 hz0 hz1 hz2 rfl (by decide) (.slice none 0 0) 0 [] rfl (World.ownsRow_nil _ _ _ _) _ l.length _ ((l.take l.length).flatMap markCells) rfl (by rw [flat_marks_length, List.length_take]; omega) (by first | exact hv5.news (Below.refl _ _) l.length hk | exact hv5.news ((Below.refl _ _).alloc (Nat.le_refl _) _) l.length hk) (marks_one _) (by unfold maxLen; omega) (by omega) (by first | exact Nat.le_refl _ | simp) ?_
                   intro S1 cap1 wA own1 grow1
                   simp only [Nat.zero_add, List.nil_append] at own1 ⊢
                   have hB1 : Below w5.heap.size w5 wA := by first | exact Below.grown (Below.refl _ _).drew grow1 (Nat.le_refl _) (fun k h => by cases h) | exact Below.grown ((Below.refl _ _).drew.alloc (Nat.le_refl _) _) grow1 (by simp) (fun k h => by cases h)
                   have qA : RowAt wA w.heap.size 25 [.int .i64 q1, .int .i64 q2, .int .i64 q3] := q7.on hB1
                   have ob1 : ∀ j, (Value.slice S1 l.length cap1).ownBlock = some j → w5.heap.size ≤ j := fun j h => (own1.lt j h).1
                   try (have bx1 : RowAt wA w5.heap.size 25 [.int .i64 q1, .int .i64 q2, .int .i64 q3] := RowAt.grown (RowAt.new w5.drew 25 #[.int .i64 q1, .int .i64 q2, .int .i64 q3]) grow1 (by simp [Value.ownBlock])))
                | (refine step_append_any rfl _ _ 22 rfl w5.heap.size 25 i0 (.agg #[.int .i64 0, .int .i64 0, .int .i64 0]) 3 24 Try.underlying22 hi0 hz0 hz1 hz2 rfl (by decide) (.slice S1 l.length cap1) l.length _ rfl (by first | exact own1 | exact own1.alloc _) _ 1 1 [.int .i64 q1, .int .i64 q2, .int .i64 q3] rfl rfl (fun _ => ⟨_, rfl, fun j u hj => by rw [addr0]; first | exact ((RowAt.new wA 25 #[.int .i64 q1, .int .i64 q2, .int .i64 q3]).cell j).trans hj | exact (bx1.cell j).trans hj⟩) (by simp [Value.oneCell']) (by unfold maxLen; omega) (by omega) (by have := hB1.size; first | exact this | (simp; omega)) ?_
                   intro S2 cap2 wB own2 grow2
                   have hB2 : Below w5.heap.size w5 wB := by first | exact Below.grown hB1 grow2 hB1.size ob1 | exact Below.grown (hB1.alloc hB1.size _) grow2 (Nat.le_trans hB1.size (by simp)) ob1
                   have qB : RowAt wB w.heap.size 25 [.int .i64 q1, .int .i64 q2, .int .i64 q3] := q7.on hB2
                   have ob2 : ∀ j, (Value.slice S2 (l.length + 1) cap2).ownBlock = some j → w5.heap.size ≤ j := fun j h => (own2.lt j h).1)
                | (refine step_append_any rfl _ _ 22 rfl w5.heap.size 25 i0 (.agg #[.int .i64 0, .int .i64 0, .int .i64 0]) 3 24 Try.underlying22 hi0 hz0 hz1 hz2 rfl (by decide) (.slice S2 (l.length + 1) cap2) (l.length + 1) _ rfl own2 _ 0 _ [] rfl rfl (fun h => absurd h (by omega)) (by simp) (by unfold maxLen; omega) (by omega) hB2.size ?_
                   intro S3 cap3 wC own3 grow3
                   have hB3 : Below w5.heap.size w5 wC := Below.grown hB2 grow3 hB2.size ob2
                   have qC : RowAt wC w.heap.size 25 [.int .i64 q1, .int .i64 q2, .int .i64 q3] := q7.on hB3))
            all_goals
              have own4 : wC.ownsRow w5.heap.size 25 3 (.slice S3 (insM (q1, q2, q3) l).length cap3) (insM (q1, q2, q3) l).length ((insM (q1, q2, q3) l).flatMap markCells) := by
                rw [show (insM (q1, q2, q3) l).length = l.length + 1 + 0 by have := len_ins (q1, q2, q3) l; omega, hins, List.flatMap_append, List.flatMap_cons]
                simpa [markCells] using own3
              have hf := fromOn_own own4
              have hm := Mks.own own4
              go_simp
              go_wp2_with fail
              go_ret2
              have hl : (insM (q1, q2, q3) l).length = l.length + 1 + 0 := by have := len_ins (q1, q2, q3) l; omega
              exact ⟨S3, cap3, by rw [hl]; rfl, hm, hf.less hbA5.size, hbA5.trans (hB3.mono hbA5.size)⟩

          · have hv5 := (hv2.on hbn)
            obtain ⟨f0, f1, f2⟩ : w5.cell? ⟨w.heap.size, 0, none⟩ = some (.int .i64 q1) ∧ w5.cell? ⟨w.heap.size, 1, none⟩ = some (.int .i64 q2) ∧ w5.cell? ⟨w.heap.size, 2, none⟩ = some (.int .i64 q3) := ⟨q7.cell 0, q7.cell 1, q7.cell 2⟩
            have s1 : ((l.length : Int) ≤ (c : Int)) = True := eq_true (by omega)
            have s2 : ((l.length : Int) ≤ (l.length : Int)) = True := eq_true (by omega)
            have s3 : (c = l.length) = True := eq_true (by omega)
            have s4 : (l.length ≤ c) = True := eq_true (by omega)
            have s5 : (l.length ≤ l.length) = True := eq_true (by omega)
            clear hcl hlc
            go_wp2_with fail
            go_region_held3 (fun w' => w'.cell? ⟨w.heap.size, 0, none⟩ = some (.int .i64 q1) ∧ w'.cell? ⟨w.heap.size, 1, none⟩ = some (.int .i64 q2) ∧ w'.cell? ⟨w.heap.size, 2, none⟩ = some (.int .i64 q3))
              (first | with_reducible exact ⟨f0, f1, f2⟩ | exact ⟨qC.cell 0, qC.cell 1, qC.cell 2⟩ | exact ⟨qB.cell 0, qB.cell 1, qB.cell 2⟩ | exact ⟨qA.cell 0, qA.cell 1, qA.cell 2⟩ | go_keep)
              (first
                | (refine step_append_any rfl _ _ 22 rfl w5.heap.size 25 i0 (.agg #[.int .i64 0, .int .i64 0, .int .i64 0]) 3 24 Try.underlying22 hi0 hz0 hz1 hz2 rfl (by decide) (.slice none 0 0) 0 [] rfl (World.ownsRow_nil _ _ _ _) _ l.length _ ((l.take l.length).flatMap markCells) rfl (by rw [flat_marks_length, List.length_take]; omega) (by first | exact hv5.news (Below.refl _ _) l.length hk | exact hv5.news ((Below.refl _ _).alloc (Nat.le_refl _) _) l.length hk) (marks_one _) (by unfold maxLen; omega) (by omega) (by first | exact Nat.le_refl _ | simp) ?_
                   intro S1 cap1 wA own1 grow1
                   simp only [Nat.zero_add, List.nil_append] at own1 ⊢
                   have hB1 : Below w5.heap.size w5 wA := by first | exact Below.grown (Below.refl _ _).drew grow1 (Nat.le_refl _) (fun k h => by cases h) | exact Below.grown ((Below.refl _ _).drew.alloc (Nat.le_refl _) _) grow1 (by simp) (fun k h => by cases h)
                   have qA : RowAt wA w.heap.size 25 [.int .i64 q1, .int .i64 q2, .int .i64 q3] := q7.on hB1
                   have ob1 : ∀ j, (Value.slice S1 l.length cap1).ownBlock = some j → w5.heap.size ≤ j := fun j h => (own1.lt j h).1
                   try (have bx1 : RowAt wA w5.heap.size 25 [.int .i64 q1, .int .i64 q2, .int .i64 q3] := RowAt.grown (RowAt.new w5.drew 25 #[.int .i64 q1, .int .i64 q2, .int .i64 q3]) grow1 (by simp [Value.ownBlock])))
                | (refine step_append_any rfl _ _ 22 rfl w5.heap.size 25 i0 (.agg #[.int .i64 0, .int .i64 0, .int .i64 0]) 3 24 Try.underlying22 hi0 hz0 hz1 hz2 rfl (by decide) (.slice S1 l.length cap1) l.length _ rfl (by first | exact own1 | exact own1.alloc _) _ 1 1 [.int .i64 q1, .int .i64 q2, .int .i64 q3] rfl rfl (fun _ => ⟨_, rfl, fun j u hj => by rw [addr0]; first | exact ((RowAt.new wA 25 #[.int .i64 q1, .int .i64 q2, .int .i64 q3]).cell j).trans hj | exact (bx1.cell j).trans hj⟩) (by simp [Value.oneCell']) (by unfold maxLen; omega) (by omega) (by have := hB1.size; first | exact this | (simp; omega)) ?_
                   intro S2 cap2 wB own2 grow2
                   have hB2 : Below w5.heap.size w5 wB := by first | exact Below.grown hB1 grow2 hB1.size ob1 | exact Below.grown (hB1.alloc hB1.size _) grow2 (Nat.le_trans hB1.size (by simp)) ob1
                   have qB : RowAt wB w.heap.size 25 [.int .i64 q1, .int .i64 q2, .int .i64 q3] := q7.on hB2
                   have ob2 : ∀ j, (Value.slice S2 (l.length + 1) cap2).ownBlock = some j → w5.heap.size ≤ j := fun j h => (own2.lt j h).1)
                | (refine step_append_any rfl _ _ 22 rfl w5.heap.size 25 i0 (.agg #[.int .i64 0, .int .i64 0, .int .i64 0]) 3 24 Try.underlying22 hi0 hz0 hz1 hz2 rfl (by decide) (.slice S2 (l.length + 1) cap2) (l.length + 1) _ rfl own2 _ 0 _ [] rfl rfl (fun h => absurd h (by omega)) (by simp) (by unfold maxLen; omega) (by omega) hB2.size ?_
                   intro S3 cap3 wC own3 grow3
                   have hB3 : Below w5.heap.size w5 wC := Below.grown hB2 grow3 hB2.size ob2
                   have qC : RowAt wC w.heap.size 25 [.int .i64 q1, .int .i64 q2, .int .i64 q3] := q7.on hB3))
            all_goals
              have own4 : wC.ownsRow w5.heap.size 25 3 (.slice S3 (insM (q1, q2, q3) l).length cap3) (insM (q1, q2, q3) l).length ((insM (q1, q2, q3) l).flatMap markCells) := by
                rw [show (insM (q1, q2, q3) l).length = l.length + 1 + 0 by have := len_ins (q1, q2, q3) l; omega, hins, List.flatMap_append, List.flatMap_cons]
                simpa [markCells] using own3
              have hf := fromOn_own own4
              have hm := Mks.own own4
              go_simp
              go_wp2_with fail
              go_ret2
              have hl : (insM (q1, q2, q3) l).length = l.length + 1 + 0 := by have := len_ins (q1, q2, q3) l; omega
              exact ⟨S3, cap3, by rw [hl]; rfl, hm, hf.less hbA5.size, hbA5.trans (hB3.mono hbA5.size)⟩

end Go.Proofs.Ytcamhaeelkjigaa
