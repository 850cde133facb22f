/- The document's own answers of layer 7: Pairs, Add. -/
import Derived.Test.YtjjccoliknngcaaOrcB
namespace Go.Proofs.Ytjjccoliknngcaa
open Go.RowKit

theorem tk_of {w : World} {v : Value} {f : Bool} {l : List Pr} (h : Prs w w.heap.size v l) : Tk w (.agg #[.bool f, v]) f l := ⟨_, rfl, h⟩
theorem from_none (lo n c : Nat) : FromOn lo (.slice none n c) := fun ad _ _ e => by cases e
theorem orPairs_any (va vb : Value) (a b : List Pr) (w : World) (ha : Prs w w.heap.size va a) (hb : Prs w w.heap.size vb b) (h9 : a.length ≤ 1000000) (h9b : b.length ≤ 1000000) :
    Calls Try.prog 18 #[va, vb] w fun e w' => e = .returned (.bool (decide (a = b))) ∧ Below w.heap.size w w' := by
  obtain ⟨A, c, rfl, hc⟩ := ha.form
  obtain ⟨B, d, rfl, hd⟩ := hb.form
  have cS := fun W hx hy => Same_eq (.agg #[.bool false, .slice A a.length c]) (.agg #[.bool false, .slice B b.length d]) false false a b W _ rfl hx hy h9 h9b
  have e : sameT false false a b = decide (a = b) := by simp [sameT]
  rw [e] at cS
  go_enter Try.func18, Try.ntmps18
  go_wp2_with fail
  with_reducible refine (cS _ (tk_of ha) (tk_of hb)).mono ?_
  rintro e w1 ⟨rfl, b1⟩
  go_wp2_with fail
  go_ret
  exact ⟨rfl, b1⟩

theorem news_all {w W : World} {A : Option Addr} {c : Nat} {l : List Pr} (hP : Prs w w.heap.size (.slice A l.length c) l) (hb : Below w.heap.size w W) :
    0 < l.length → ∃ ad, A = some ad ∧ ∀ j u, (l.flatMap pairCells)[j]? = some u → W.cell? (ad.add j) = some u := by
  have := news_first hP hb (Nat.le_refl _)
  rwa [List.take_length] at this
theorem Prs.read {w : World} {B : Nat} {A : Option Addr} {n c k : Nat} {l : List Pr} (h : Prs w B (.slice A n c) l) (hk : k < l.length) :
    ∃ ad : Addr, A = some ad ∧ w.cell? (ad.add (k * 2)) = some (.int .u64 ((l[k]).1 : Int)) ∧ w.cell? ⟨(ad.add (k * 2)).block, (ad.add (k * 2)).off + 1, none⟩ = some (.int .u64 ((l[k]).2 : Int)) := by
  obtain ⟨ad, e, _, h1, h2⟩ := h.at_ hk
  exact ⟨ad, e, h1, h2⟩

set_option maxHeartbeats 2000000 in
theorem orAdd_any (v u : Value) (t m : List Pr) (w : World) (hv : Prs w w.heap.size v t) (hu : Prs w w.heap.size u m) (h9 : t.length ≤ 100000) (h9m : m.length ≤ 100000) :
    Calls Try.prog 13 #[v, u] w fun e w' => ∃ A c, e = .returned (.tuple #[.slice A (addO t m).1.length c, .int .i64 (addO t m).2]) ∧ Prs w' w'.heap.size (.slice A (addO t m).1.length c) (addO t m).1 ∧ FromOn w.heap.size (.slice A (addO t m).1.length c) ∧ Below w.heap.size w w' := by
  obtain ⟨i0, hi, hz0, hz1, hz2⟩ := info_parts info_pair
  obtain ⟨A, c, rfl, hc⟩ := hv.form
  obtain ⟨B, d, rfl, hd⟩ := hu.form
  have cR := orRight_any (.slice A t.length c) t w hv (by omega)
  obtain ⟨RE, hRE⟩ : ∃ RE, addO t m = RE := ⟨_, rfl⟩
  rw [hRE]
  obtain ⟨R, E⟩ := RE
  unfold addO at hRE
  cases hr : rightO t
  · rw [hr] at cR hRE
    rw [if_neg (by simp)] at hRE
    cases hRE
    go_enter Try.func13, Try.ntmps13
    go_wp2_with fail
    with_reducible refine cR.mono ?_
    rintro e w1 ⟨rfl, b1⟩
    go_wp2_with fail
    go_ret2
    exact ⟨none, 0, rfl, Prs.nil _ _, from_none _ _ _, b1⟩
  · rw [hr] at cR hRE
    rw [if_pos rfl] at hRE
    have HRE := Lib.hid hRE
    clear hRE
    have hrt := ((rightO_iff t).1 hr).2
    have ht9 := ((rightO_iff t).1 hr).1
    go_enter Try.func13, Try.ntmps13
    go_wp2_with fail
    with_reducible refine cR.mono ?_
    rintro e w1 ⟨rfl, b1⟩
    clear cR
    have hz := b1.size
    go_wp2_with (at_builtin; refine wpList_append_any rfl _ _ 22 rfl w.heap.size 27 i0 (.agg #[.int .u64 0, .int .u64 0]) 2 16 Try.underlying22 hi hz0 hz1 hz2 rfl (by decide) (.slice none 0 0) 0 [] rfl (World.ownsRow_nil _ _ _ _) A t.length c (t.flatMap pairCells) rfl (by rw [flat_pairs_length]) (news_all hv b1) (pairs_one _) (by unfold maxLen; omega) (by omega) hz ?_; intro S1 cap1 w2 own1 grow1)
    simp only [Nat.zero_add, List.nil_append] at own1 ⊢
    have hB1 : Below w.heap.size w w2 := Below.grown b1 grow1 hz (fun k h => by cases h)
    have P1 : Prs w2 w2.heap.size (.slice S1 t.length cap1) t := Prs.own own1
    have F1 : FromOn w.heap.size (.slice S1 t.length cap1) := from_own own1
    clear own1 grow1 b1 hz hv
    go_wp2_with fail
    go_loopw [7, 8] (fun x i wr => ∃ k : Nat, k ≤ m.length ∧ i = .int .i64 k ∧ (∃ A c, x = .slice A (addL t (m.take k)).length c ∧ Prs wr wr.heap.size (.slice A (addL t (m.take k)).length c) (addL t (m.take k)) ∧ FromOn w.heap.size (.slice A (addL t (m.take k)).length c)) ∧ Below w.heap.size w wr) (fun _ i _ => m.length - (intOf i).toNat)
    case atStart => exact ⟨0, Nat.zero_le _, rfl, ⟨_, _, rfl, P1, F1⟩, hB1⟩
    case round =>
      obtain ⟨k, hk, rfl, ⟨O, oc, rfl, hP, hF⟩, hb⟩ := hrel
      by_cases hlt : k < m.length
      · have hrO : Rise (addL t (m.take k)) := addL_rise hrt
        have hO9 := (addL_length t (m.take k)).2
        rw [List.length_take] at hO9
        have HS := Lib.hid (show addL t (m.take (k + 1)) = put1 (addL t (m.take k)) m[k] by rw [List.take_succ_eq_append_getElem hlt, addL_snoc])
        obtain ⟨ad, rfl, q0, q1⟩ := (hu.on hb).read hlt
        have cI := orin_any _ _ m[k] wr hP (by omega)
        generalize addL t (m.take k) = o at *
        go_wp2_with fail
        with_reducible refine cI.mono ?_
        rintro e w3 ⟨rfl, b3⟩
        have hb3 := hb.trans (b3.mono hb.size)
        have hP3 := hP.on b3
        obtain ⟨_, e, q2, q3⟩ := (hu.on hb3).read hlt
        cases e
        have cW := orwith_any _ _ m[k] w3 hP3 hrO.srt (by omega)
        clear q0 q1 cI hP b3
        generalize m[k] = p at *
        by_cases hin : p ∈ o
        · have hd : decide (p ∈ o) = true := decide_eq_true hin
          have HS2 := Lib.hid (HS.out.trans (if_pos hin))
          clear HS hin cW
          go_wp2_with fail
          go_roundw
          case rel => exact ⟨k + 1, by omega, by go_num, ⟨O, oc, by rw [HS2.out], by rw [HS2.out]; exact hP3, by rw [HS2.out]; exact hF⟩, hb3⟩
          case measure => simp [intOf]; omega
        · have hd : decide (p ∈ o) = false := decide_eq_false hin
          have HS2 := Lib.hid (HS.out.trans (if_neg hin))
          clear HS hin
          go_wp2_with fail
          with_reducible refine cW.mono ?_
          rintro e w4 ⟨O2, oc2, rfl, hP4, hF4, b4⟩
          have hb4 := hb3.trans (b4.mono hb3.size)
          have hF5 := hF4.less hb3.size
          clear cW hP3 hF hF4 b4 q2 q3
          generalize ins p o = o2 at *
          go_wp2_with fail
          go_roundw
          case rel => exact ⟨k + 1, by omega, by go_num, ⟨O2, oc2, by rw [HS2.out], by rw [HS2.out]; exact hP4, by rw [HS2.out]; exact hF5⟩, hb4⟩
          case measure => simp [intOf]; omega
      · obtain rfl : k = m.length := by omega
        rw [List.take_length] at hP hF ⊢
        have hRE := HRE.out
        clear HRE
        generalize addL t m = o at *
        by_cases hl : 4096 < o.length
        · have hd : ((4096 : Int) < (o.length : Int)) = True := eq_true (by omega)
          rw [if_pos hl] at hRE
          cases hRE
          go_wp2_with fail
          go_ret2
          exact ⟨none, 0, rfl, Prs.nil _ _, from_none _ _ _, hb⟩
        · have hd : ((4096 : Int) < (o.length : Int)) = False := eq_false (by omega)
          rw [if_neg hl] at hRE
          cases hRE
          go_wp2_with fail
          go_ret2
          exact ⟨O, oc, rfl, hP, hF, hb⟩
end Go.Proofs.Ytjjccoliknngcaa
