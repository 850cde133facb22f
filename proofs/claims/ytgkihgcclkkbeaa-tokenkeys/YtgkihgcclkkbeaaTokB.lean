/- The document's own answers for layer 5: two. -/
import Derived.Test.YtgkihgcclkkbeaaTokA
import Derived.OwnWalk
namespace Go.Proofs.Ytgkihgcclkkbeaa
open Go.RowKit

theorem info_pair : (Try.prog.info? 50).map (fun i => (i.zero, i.size, i.bytes)) = some (some (.agg #[.int .u64 0, .int .u64 0]), 2, 16) := by kernel_rfl
theorem mrg_step_a {a b : List Pr} {i k : Nat} (hi : i < a.length) (hk : k < b.length) (h : aheadB b[k] a[i] = false) : mrg (a.drop i) (b.drop k) = a[i] :: mrg (a.drop (i + 1)) (b.drop k) := by
  rw [List.drop_eq_getElem_cons hi, List.drop_eq_getElem_cons hk, mrg_cons, h]; rfl
theorem mrg_step_b {a b : List Pr} {i k : Nat} (hk : k < b.length) (h : ∀ hi : i < a.length, aheadB b[k] a[i] = true) : mrg (a.drop i) (b.drop k) = b[k] :: mrg (a.drop i) (b.drop (k + 1)) := by
  by_cases hi : i < a.length
  · rw [List.drop_eq_getElem_cons hi, List.drop_eq_getElem_cons hk, mrg_cons, h hi]; rfl
  · rw [List.drop_of_length_le (by omega), nil_mrg, nil_mrg, List.drop_eq_getElem_cons hk]
theorem flat_snoc (l : List Pr) (p : Pr) : (l ++ [p]).flatMap pairCells = l.flatMap pairCells ++ [.int .u64 (p.1 : Int), .int .u64 (p.2 : Int)] := by
  rw [List.flatMap_append]; simp [pairCells]

theorem owns_below {W W' : World} {base : Nat} {e : TypeId} {size k : Nat} {v : Value} {xs : List Value} (h : W.ownsRow base e size v k xs) (hb : Below W.heap.size W W') : W'.ownsRow base e size v k xs :=
  h.kept (row := none) ⟨hb.os, hb.tape, hb.output, hb.size, fun k hk _ => hb.block k hk⟩ (by
    rcases h.2 with ⟨rfl, _⟩ | ⟨g, cap, cur, rfl, _⟩
    · exact .inl rfl
    · exact .inr (by simp [Value.ownBlock]))

theorem Prs.cells2 {w : World} {B : Nat} {ad : Addr} {n c : Nat} {l : List Pr} (h : Prs w B (.slice (some ad) n c) l) : ∀ j p, l[j]? = some p → w.cell? (ad.add (j * 2)) = some (.int .u64 (p.1 : Int)) ∧ w.cell? (ad.add (j * 2 + 1)) = some (.int .u64 (p.2 : Int)) := by
  intro j p hj
  obtain ⟨A', c', hv, _, ha⟩ := h
  injection hv with h1 h2 h3
  subst h1
  have hjl : j < l.length := by
    rcases Nat.lt_or_ge j l.length with k | k
    · exact k
    · rw [List.getElem?_eq_none k] at hj; cases hj
  obtain ⟨ad', e, _, hc⟩ := ha (by omega)
  injection e with e
  subst e
  exact hc j p hj
theorem pairs_one (l : List Pr) : ∀ u ∈ l.flatMap pairCells, u.oneCell' = true := by
  intro u hu
  obtain ⟨p, _, hp⟩ := List.mem_flatMap.1 hu
  simp [pairCells] at hp
  rcases hp with rfl | rfl <;> rfl
theorem pairs_from {w : World} {B : Nat} {ad : Addr} {m c : Nat} {l : List Pr} (h : Prs w B (.slice (some ad) m c) l) (n : Nat) : ∀ j u, ((l.drop n).flatMap pairCells)[j]? = some u → w.cell? ((ad.add (n * 2)).add j) = some u := by
  intro j u hj
  have hjl : j < (l.drop n).length * 2 := by
    rw [← flat_pairs_length]
    rcases Nat.lt_or_ge j ((l.drop n).flatMap pairCells).length with k | k
    · exact k
    · rw [List.getElem?_eq_none k] at hj; cases hj
  have hq : j / 2 < (l.drop n).length := by omega
  obtain ⟨g1, g2⟩ := flat_pairs_get (l.drop n) (j / 2) _ (List.getElem?_eq_getElem hq)
  have hl : l[n + j / 2]? = some (l.drop n)[j / 2] := by rw [← List.getElem?_drop]; exact List.getElem?_eq_getElem hq
  obtain ⟨c1, c2⟩ := h.cells2 _ _ hl
  rw [add_add]
  rcases (by omega : j = j / 2 * 2 ∨ j = j / 2 * 2 + 1) with e | e
  · rw [← e] at g1
    rw [g1] at hj
    rw [show n * 2 + j = (n + j / 2) * 2 by omega, c1]
    exact hj
  · rw [← e] at g2
    rw [g2] at hj
    rw [show n * 2 + j = (n + j / 2) * 2 + 1 by omega, c2]
    exact hj
theorem from_own {w : World} {base : Nat} {e : TypeId} {size n : Nat} {v : Value} {xs : List Value} (h : w.ownsRow base e size v n xs) : FromOn base v := by
  intro ad m c hv
  rcases h.2 with ⟨e, _⟩ | ⟨g, cap, cur, e, hb, _⟩
  · rw [e] at hv; cases hv
  · rw [e] at hv; cases hv; exact hb
theorem Prs.setCell {w : World} {B lo : Nat} {v : Value} {l : List Pr} (h : Prs w B v l) (hf : FromOn lo v) {p : Addr} (hp : p.block < lo) (u : Value) : Prs (w.setCell p u) B v l := by
  obtain ⟨A, c, hv, hc, ha⟩ := h
  refine ⟨A, c, hv, hc, fun h0 => ?_⟩
  obtain ⟨ad, e, hb, hcell⟩ := ha h0
  subst e
  have hlo := hf ad _ _ hv
  have hne : ∀ j, p ≠ ad.add j := fun j e => by
    have : p.block = (ad.add j).block := by rw [e]
    rw [add_block] at this
    omega
  refine ⟨ad, rfl, hb, fun j s hs => ?_⟩
  rw [World.cell?_setCell_other _ _ _ _ (hne _), World.cell?_setCell_other _ _ _ _ (hne _)]
  exact hcell j s hs
/- append of an empty slice -/
theorem run_append_empty {P : Program} (w : World) (t ty e : TypeId) (i : TypeInfo) (ht : P.underlying t = some (.slice e)) (hi : P.info? e = some i) (S X : Option Addr) (n c cx : Nat) (hnc : n ≤ c) :
    (Builtin.append_ #[t, t] ty #[.slice S n c, .slice X 0 cx]).run P w = .ok (.slice S n c) w := by
  cases S <;> cases X <;> simp [Builtin.append_, run_underlying ht, sizeOf, typeInfo, hi, Builtin.lenOf, Builtin.firstCells, loadCells, loadCellsFrom, storeCells, hnc]
theorem wpList_append_empty {P : Program} {w : World} {ops : Array Oper} {rest : List Oper} {o : Oper} {a : Act} {Q : Exit → Act → World → Prop} (hgd : o.guard = none) (s x : Operand) (t : TypeId)
    (ho : o.op = .call { callee := .builtin .append, args := #[s, x], argTypes := #[t, t] }) (e : TypeId) (i : TypeInfo) (ht : P.underlying t = some (.slice e)) (hi : P.info? e = some i)
    (S X : Option Addr) (n c cx : Nat) (hnc : n ≤ c) (hs : a.eval s = .slice S n c) (hx : a.eval x = .slice X 0 cx) (h : wpList P ops Q rest (a.put o.dst (.slice S n c)) w) : wpList P ops Q (o :: rest) a w :=
  wpList_plain hgd fun _ hK => by
    unfold Oper.wp execOp
    simp only [ho, resolve, invoke, builtin, Sem.run_bind, Sem.run_pure, Result.andThen_ok, List.map_toArray, List.map_cons, List.map_nil, hs, hx, run_append_empty w t o.type e i ht hi S X n c cx hnc]
    exact hK _ _ h

set_option maxHeartbeats 2000000 in
set_option maxRecDepth 4000 in
theorem rtwo_any (v u : Value) (a b : List Pr) (w : World) (hv : Prs w w.heap.size v a) (hu : Prs w w.heap.size u b) (h9 : a.length + b.length ≤ 1000000) :
    Calls Try.prog 39 #[v, u] w fun e w' => ∃ x, e = .returned x ∧ Prs w' w'.heap.size x (mrg a b) ∧ FromOn w.heap.size x ∧ Below w.heap.size w w' := by
  obtain ⟨A, c, rfl, hc⟩ := hv.form
  obtain ⟨B, d, rfl, hd⟩ := hu.form
  obtain ⟨i0, hi, hz0, hz1, hz2⟩ := info_parts info_pair
  go_enter Try.func39, Try.ntmps39
  go_wp2_with fail
  go_loopw [5, 6, 7] (fun o i k wr => ∃ (n m : Nat) (out : List Pr), n ≤ a.length ∧ m ≤ b.length ∧ i = .int .i64 n ∧ k = .int .i64 m ∧ out.length = n + m ∧ out ++ mrg (a.drop n) (b.drop m) = mrg a b ∧ wr.ownsRow w.heap.size 50 2 o (n + m) (out.flatMap pairCells) ∧ Below w.heap.size w wr) (fun _ _ k _ => b.length - (intOf k).toNat)
  case atStart => exact ⟨0, 0, [], Nat.zero_le _, Nat.zero_le _, rfl, rfl, rfl, rfl, World.ownsRow_nil _ _ _ _, Below.refl _ _⟩
  case round =>
    obtain ⟨n, m, out, hn, hm, rfl, rfl, hol, hout, hown, hb⟩ := hrel
    obtain ⟨wo, ho⟩ : ∃ wo, wo = wr := ⟨_, rfl⟩
    subst ho
    by_cases hlt : m < b.length
    · go_wp2_with fail
      go_loopw [5, 6] (fun o i wr => ∃ (n : Nat) (out : List Pr), n ≤ a.length ∧ i = .int .i64 n ∧ out.length = n + m ∧ out ++ mrg (a.drop n) (b.drop m) = mrg a b ∧ wr.ownsRow w.heap.size 50 2 o (n + m) (out.flatMap pairCells) ∧ Below w.heap.size w wr) (fun _ i _ => a.length - (intOf i).toNat)
      case atStart => exact ⟨n, out, hn, rfl, hol, hout, hown, hb⟩
      case round =>
        clear hol hout hown hb hn
        obtain ⟨n, out, hn, rfl, hol, hout, hown, hb⟩ := hrel
        have hz := hb.size
        obtain ⟨bd, rfl, hq1, hq2⟩ := hu.cells hb hlt
        obtain ⟨_, eb, _, hr1, hr2⟩ := (hu.below hb (Nat.le_refl _)).at_ hlt
        cases eb
        by_cases hlt2 : n < a.length
        · obtain ⟨ad, rfl, hp1, hp2⟩ := hv.cells hb hlt2
          obtain ⟨_, ea, _, hs1, hs2⟩ := (hv.below hb (Nat.le_refl _)).at_ hlt2
          cases ea
          have cA := fun W => rAhead_at b[m] a[n] W
          have HA := Lib.hid (show aheadB b[m] a[n] = false → (out ++ [a[n]]) ++ mrg (a.drop (n + 1)) (b.drop m) = mrg a b from fun h0 => by
            rw [← hout, mrg_step_a hlt2 hlt h0, List.append_assoc]; rfl)
          have HB := Lib.hid (show aheadB b[m] a[n] = true → (out ++ [b[m]]) ++ mrg (a.drop n) (b.drop (m + 1)) = mrg a b from fun h0 => by
            rw [← hout, mrg_step_b hlt (fun _ => h0), List.append_assoc]; rfl)
          clear hout
          generalize aheadB b[m] a[n] = bb at *
          go_wp2_with fail
          refine wp_region_later (by kernel_rfl) (by kernel_rfl) ?_
          repeat (go_big_quiet_step (first | (go_at_call 27; exact later_of (cA _))))
          refine wpQuiet_nil ?_
          intro _ hw'
          obtain ⟨pq, rfl⟩ := hw'
          have hbn : Below w.heap.size w pq.W := hb.trans (pq.h.mono hz)
          have hzn := hbn.size
          have hown2 := owns_below hown pq.h
          have hown' : ∀ g, u5.ownBlock = some g → w.heap.size ≤ g := fun g hg => (hown.lt g hg).1
          have k1 := hq1 pq
          have k2 := hq2 pq
          have j1 := hp1 pq
          have j2 := hp2 pq
          clear hq1 hq2 hp1 hp2 hr1 hr2 hs1 hs2 hown hb cA
          cases bb
          · have ha1 := HA.out rfl
            clear HA HB k1 k2
            go_wp2_with (at_builtin; refine wpList_append_own _ rfl _ _ 22 rfl w.heap.size 50 i0 (.agg #[.int .u64 0, .int .u64 0]) 2 16 Try.underlying22 hi hz0 hz1 hz2 rfl (by decide) _ _ _ rfl (hown2.alloc _) ⟨pq.W.heap.size, 0, none⟩ 1 1 [.int .u64 ((a[n]).1 : Int), .int .u64 ((a[n]).2 : Int)] rfl rfl ?c1 ?c2 ?c3 ?c4 ?c5 ?_)
            case c1 =>
              intro j u hj
              match j, hj with
              | 0, hj => simp at hj; subst hj; simp [Addr.add]
              | 1, hj => simp at hj; subst hj; simp [Addr.add]
            case c2 => intro u hu0; simp at hu0; rcases hu0 with rfl | rfl <;> rfl
            case c3 => unfold maxLen; omega
            case c4 => omega
            case c5 => simp; omega
            intro v' w1 hown1 hgrow _
            have R : w1.ownsRow w.heap.size 50 2 v' (n + 1 + m) ((out ++ [a[n]]).flatMap pairCells) := by
              rw [flat_snoc, show n + 1 + m = n + m + 1 by omega]; exact hown1
            have hbw : Below w.heap.size w w1 := (hbn.alloc hzn _).grown hgrow (by simp; omega) (fun g hg => hown' g hg)
            clear hown1 hgrow hown2 hbn
            go_wp2_with fail
            go_roundw
            case rel => exact ⟨n + 1, out ++ [a[n]], by omega, by go_num, by rw [List.length_append, hol]; simp; omega, ha1, R, hbw⟩
            case measure => simp [intOf]; omega
          · have hb1 := HB.out rfl
            clear HA HB j1 j2
            go_wp2_with (at_builtin; refine wpList_append_own _ rfl _ _ 22 rfl w.heap.size 50 i0 (.agg #[.int .u64 0, .int .u64 0]) 2 16 Try.underlying22 hi hz0 hz1 hz2 rfl (by decide) _ _ _ rfl (hown2.alloc _) ⟨pq.W.heap.size, 0, none⟩ 1 1 [.int .u64 ((b[m]).1 : Int), .int .u64 ((b[m]).2 : Int)] rfl rfl ?c1 ?c2 ?c3 ?c4 ?c5 ?_)
            case c1 =>
              intro j u hj
              match j, hj with
              | 0, hj => simp at hj; subst hj; simp [Addr.add]
              | 1, hj => simp at hj; subst hj; simp [Addr.add]
            case c2 => intro u hu0; simp at hu0; rcases hu0 with rfl | rfl <;> rfl
            case c3 => unfold maxLen; omega
            case c4 => omega
            case c5 => simp; omega
            intro v' w1 hown1 hgrow _
            have R : w1.ownsRow w.heap.size 50 2 v' (n + (m + 1)) ((out ++ [b[m]]).flatMap pairCells) := by
              rw [flat_snoc]; exact hown1
            have hbw : Below w.heap.size w w1 := (hbn.alloc hzn _).grown hgrow (by simp; omega) (fun g hg => hown' g hg)
            clear hown1 hgrow hown2 hbn
            go_wp2_with fail
            go_roundw
            case rel => exact ⟨n, m + 1, out ++ [b[m]], hn, by omega, rfl, by go_num, by rw [List.length_append, hol]; simp; omega, hb1, R, hbw⟩
            case measure => simp [intOf]; omega
        · have hb1 : (out ++ [b[m]]) ++ mrg (a.drop n) (b.drop (m + 1)) = mrg a b := by
            rw [← hout, mrg_step_b hlt (fun h0 => absurd h0 hlt2), List.append_assoc]; rfl
          have hlt3 : ((n : Int) < (a.length : Int)) = False := eq_false (by omega)
          have hlt4 : (n < a.length) = False := eq_false hlt2
          clear hout
          go_wp2_with fail
          refine wp_region_later (by kernel_rfl) (by kernel_rfl) ?_
          repeat (go_big_quiet_step (fail))
          refine wpQuiet_nil ?_
          intro _ hw'
          obtain ⟨pq, rfl⟩ := hw'
          have hbn : Below w.heap.size w pq.W := hb.trans (pq.h.mono hz)
          have hzn := hbn.size
          have hown2 := owns_below hown pq.h
          have hown' : ∀ g, u5.ownBlock = some g → w.heap.size ≤ g := fun g hg => (hown.lt g hg).1
          have k1 := hq1 pq
          have k2 := hq2 pq
          clear hq1 hq2 hr1 hr2 hown hb
          go_wp2_with (at_builtin; refine wpList_append_own _ rfl _ _ 22 rfl w.heap.size 50 i0 (.agg #[.int .u64 0, .int .u64 0]) 2 16 Try.underlying22 hi hz0 hz1 hz2 rfl (by decide) _ _ _ rfl (hown2.alloc _) ⟨pq.W.heap.size, 0, none⟩ 1 1 [.int .u64 ((b[m]).1 : Int), .int .u64 ((b[m]).2 : Int)] rfl rfl ?c1 ?c2 ?c3 ?c4 ?c5 ?_)
          case c1 =>
            intro j u hj
            match j, hj with
            | 0, hj => simp at hj; subst hj; simp [Addr.add]
            | 1, hj => simp at hj; subst hj; simp [Addr.add]
          case c2 => intro u hu0; simp at hu0; rcases hu0 with rfl | rfl <;> rfl
          case c3 => unfold maxLen; omega
          case c4 => omega
          case c5 => simp; omega
          intro v' w1 hown1 hgrow _
          have R : w1.ownsRow w.heap.size 50 2 v' (n + (m + 1)) ((out ++ [b[m]]).flatMap pairCells) := by
            rw [flat_snoc]; exact hown1
          have hbw : Below w.heap.size w w1 := (hbn.alloc hzn _).grown hgrow (by simp; omega) (fun g hg => hown' g hg)
          clear hown1 hgrow hown2 hbn
          go_wp2_with fail
          go_roundw
          case rel => exact ⟨n, m + 1, out ++ [b[m]], hn, by omega, rfl, by go_num, by rw [List.length_append, hol]; simp; omega, hb1, R, hbw⟩
          case measure => simp [intOf]; omega
    · obtain rfl : m = b.length := by omega
      rw [List.drop_length, mrg_nil] at hout
      have hz := hb.size
      by_cases hlt2 : n < a.length
      · obtain ⟨ad, rfl, _, _, _⟩ := (hv.below hb (Nat.le_refl _)).at_ hlt2
        have hcn : (c = n) = False := eq_false (by omega)
        have hcn2 : (c - n = 0) = False := eq_false (by omega)
        have HC := Lib.hid (pairs_from (hv.below hb (Nat.le_refl _)) n)
        have hown' : ∀ g, u5.ownBlock = some g → w.heap.size ≤ g := fun g hg => (hown.lt g hg).1
        go_wp2_with (at_builtin; refine wpList_append_own _ rfl _ _ 22 rfl w.heap.size 50 i0 (.agg #[.int .u64 0, .int .u64 0]) 2 16 Try.underlying22 hi hz0 hz1 hz2 rfl (by decide) _ _ _ rfl hown (ad.add (n * 2)) (a.length - n) (c - n) ((a.drop n).flatMap pairCells) ?cx ?cl ?c1 ?c2 ?c3 ?c4 ?c5 ?_)
        case cx => rfl
        case cl => rw [flat_pairs_length, List.length_drop]
        case c1 => exact HC.out
        case c2 => exact pairs_one _
        case c3 => unfold maxLen; omega
        case c4 => omega
        case c5 => exact hz
        intro v' w1 hown1 hgrow _
        have R : w1.ownsRow w.heap.size 50 2 v' (mrg a b).length ((mrg a b).flatMap pairCells) := by
          rw [← hout, List.flatMap_append, List.length_append, hol, List.length_drop]; exact hown1
        have hbw : Below w.heap.size w w1 := hb.grown hgrow hz (fun g hg => hown' g hg)
        clear hown1 hgrow hown hb
        go_wp2_with fail
        go_ret
        exact ⟨_, rfl, Prs.own R, from_own R, hbw⟩
      · obtain rfl : n = a.length := by omega
        rw [List.drop_length, List.append_nil] at hout
        have R : wo.ownsRow w.heap.size 50 2 u5 (mrg a b).length ((mrg a b).flatMap pairCells) := by rw [← hout, hol]; exact hown
        obtain ⟨S, s1, s2, hform, hs12⟩ : ∃ S s1 s2, u5 = .slice S s1 s2 ∧ s1 ≤ s2 := by
          rcases hown.2 with ⟨e, _⟩ | ⟨g, cap, cur, e, _, _, h1, _⟩
          · exact ⟨none, 0, 0, e, Nat.le_refl _⟩
          · exact ⟨_, _, _, e, h1⟩
        subst hform
        have hP := Prs.own R
        have hFr := from_own R
        clear R hown hlt hlt2 hout hol
        by_cases hcn : c = a.length
        · subst hcn
          go_wp2_with (at_builtin; refine wpList_append_empty rfl _ _ 22 rfl 50 i0 Try.underlying22 hi S A s1 s2 0 hs12 rfl ?cx ?_)
          case cx => rfl
          go_ret
          exact ⟨_, rfl, hP, hFr, hb⟩
        · obtain ⟨ad, rfl⟩ := hv.some_of hcn
          have hcn1 : (c = a.length) = False := eq_false hcn
          have hcn2 : (c - a.length = 0) = False := eq_false (by omega)
          clear hcn
          go_wp2_with (at_builtin; refine wpList_append_empty rfl _ _ 22 rfl 50 i0 Try.underlying22 hi S (some (ad.add (a.length * 2))) s1 s2 (c - a.length) hs12 rfl ?cx ?_)
          case cx => first | rfl | simp
          go_ret
          exact ⟨_, rfl, hP, hFr, hb⟩
end Go.Proofs.Ytgkihgcclkkbeaa
