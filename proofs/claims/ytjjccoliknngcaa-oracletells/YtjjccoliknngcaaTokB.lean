/- The document's own answers for layer 5: Ahead, sorted, Right, One, Same.
   The document's own answers for layer 5: two. -/
import Derived.Test.YtjjccoliknngcaaProg
import Derived.Test.YtjjccoliknngcaaTokW
import Derived.WalkLawsBesides
import Derived.Deep.RegionWith
import Derived.Deep.QuietTactic
import Derived.BigQuiet
import Derived.Deep.AppendLies
import Derived.Test.YtjjccoliknngcaaLagL
import Derived.OwnWalk
namespace Go.Proofs.Ytjjccoliknngcaa
open Go.RowKit

theorem bstep {w a b : World} {B : Nat} (h : Below B w a) (k : Below a.heap.size a b) (hB : B ≤ a.heap.size) : Below B w b := h.trans (k.mono hB)

theorem Prs.cells {w wr : World} {A : Option Addr} {n c k : Nat} {l : List Pr} (hv : Prs w w.heap.size (.slice A n c) l) (hb : Below w.heap.size w wr) (hk : k < l.length) :
    ∃ ad : Addr, A = some ad ∧ (∀ p : Later wr, p.W.cell? (ad.add (k * 2)) = some (.int .u64 ((l[k]).1 : Int))) ∧ (∀ p : Later wr, p.W.cell? ⟨(ad.add (k * 2)).block, (ad.add (k * 2)).off + 1, none⟩ = some (.int .u64 ((l[k]).2 : Int))) := by
  obtain ⟨ad, rfl, _, _, _⟩ := hv.at_ hk
  have hq : ∀ p : Later wr, Prs p.W w.heap.size (.slice (some ad) n c) l := fun p => hv.below (hb.trans (p.h.mono hb.size)) (Nat.le_refl _)
  exact ⟨ad, rfl, fun p => by obtain ⟨_, e, _, h1, _⟩ := (hq p).at_ hk; cases e; exact h1, fun p => by obtain ⟨_, e, _, _, h1⟩ := (hq p).at_ hk; cases e; exact h1⟩
theorem RowAt.laters {w : World} {g : Nat} {t : TypeId} {x y : Value} (h : RowAt w g t [x, y]) : (∀ p : Later w, p.W.cell? ⟨g, 0, none⟩ = some x) ∧ (∀ p : Later w, p.W.cell? ⟨g, 1, none⟩ = some y) :=
  ⟨fun p => (h.on p.h).two.1, fun p => (h.on p.h).two.2⟩

set_option maxHeartbeats 400000 in
theorem rAhead_any (a1 a2 b1 b2 : Nat) (w : World) :
    Calls Try.prog 37 #[.agg #[.int .u64 a1, .int .u64 a2], .agg #[.int .u64 b1, .int .u64 b2]] w fun e w' => e = .returned (.bool (aheadB (a1, a2) (b1, b2))) ∧ Below w.heap.size w w' := by
  have hb : Below w.heap.size w ((w.alloc (.cells #[.int .u64 a1, .int .u64 a2] 27)).alloc (.cells #[.int .u64 b1, .int .u64 b2] 27)) := ((Below.refl _ w).alloc (Nat.le_refl _) _).alloc (by simp) _
  unfold aheadB
  by_cases h1 : a1 < b1
  · have h1a : ((a1 : Int) < (b1 : Int)) = True := eq_true (by omega)
    have h1b : (a1 < b1) = True := eq_true h1
    go_enter Try.func37, Try.ntmps37
    go_wp2
    go_ret
    exact ⟨by simp [h1], hb⟩
  · have h1a : ((a1 : Int) < (b1 : Int)) = False := eq_false (by omega)
    have h1b : (a1 < b1) = False := eq_false h1
    by_cases h2 : a1 = b1
    · subst h2
      clear h1 h1a h1b
      go_enter Try.func37, Try.ntmps37
      go_wp2
      go_ret
      exact ⟨by simp, hb⟩
    · have h2a : ((a1 : Int) == (b1 : Int)) = false := by simp; omega
      clear h1
      go_enter Try.func37, Try.ntmps37
      go_wp2
      go_ret
      exact ⟨by simp [h1b, h2], hb⟩

theorem rAhead_at (a b : Pr) (w : World) :
    Calls Try.prog 37 #[.agg #[.int .u64 (a.1 : Int), .int .u64 (a.2 : Int)], .agg #[.int .u64 (b.1 : Int), .int .u64 (b.2 : Int)]] w fun e w' => e = .returned (.bool (aheadB a b)) ∧ Below w.heap.size w w' := rAhead_any a.1 a.2 b.1 b.2 w

/-- The first so many are in their order. -/
def srtTo (l : List Pr) (k : Nat) : Prop := ∀ i (h : i + 1 < l.length), i + 1 < k → aheadB l[i + 1] l[i] = false

def rightT (l : List Pr) : Bool := srt l && decide (l.length ≤ 2048)
theorem boxed (w : World) (f : Bool) (v : Value) : Below w.heap.size w (w.alloc (.cells #[.bool f, v] 40)) := (Below.refl _ w).alloc (Nat.le_refl _) _

/-- Are two tokens the same? -/
def sameT (f g : Bool) (a b : List Pr) : Bool := (f == g) && decide (a = b)

theorem beq_int (a b : Nat) : ((a : Int) == (b : Int)) = decide (a = b) := by
  rw [Bool.eq_iff_iff, beq_iff_eq, decide_eq_true_iff]; omega

set_option maxHeartbeats 1000000 in
theorem rSame_any (x y : Value) (f g : Bool) (a b : List Pr) (w : World) (hx : Tk w x f a) (hy : Tk w y g b) (h9 : a.length ≤ maxLen) (h9b : b.length ≤ maxLen) :
    Calls Try.prog 26 #[x, y] w fun e w' => e = .returned (.bool (sameT f g a b)) ∧ Below w.heap.size w w' := by
  obtain ⟨A, c, rfl, hc, hv⟩ := hx.form
  obtain ⟨B, d, rfl, hd, hu⟩ := hy.form
  have h9' : a.length ≤ 9223372036854775807 := h9
  have h9b' : b.length ≤ 9223372036854775807 := h9b
  have r0 := (RowAt.new w 40 #[.bool f, .slice A a.length c]).alloc (.cells #[.bool g, .slice B b.length d] 40)
  have r1 := RowAt.new (w.alloc (.cells #[.bool f, .slice A a.length c] 40)) 40 #[.bool g, .slice B b.length d]
  rw [World.size_alloc] at r1
  have hb0 := (boxed w f (.slice A a.length c)).alloc (by simp) (.cells #[.bool g, .slice B b.length d] 40)
  have hv2 := hv.on hb0
  have hu2 := hu.on hb0
  unfold sameT
  by_cases hfg : f = g
  · subst hfg
    by_cases hl : a.length = b.length
    · have hl1 : ((a.length : Int) != (b.length : Int)) = false := by rw [bne, beq_int]; simp [hl]
      obtain ⟨w2, hw2⟩ : ∃ w2, w2 = (w.alloc (.cells #[.bool f, .slice A a.length c] 40)).alloc (.cells #[.bool f, .slice B b.length d] 40) := ⟨_, rfl⟩
      rw [← hw2] at r0 r1 hb0 hv2 hu2
      have HL := Lib.hid hl
      have HW := Lib.hid hw2
      clear hl hw2 hv hu hx hy
      rw [show (f == f) = true by simp, Bool.true_and]
      go_enter Try.func26, Try.ntmps26
      go_wp2_with fail
      rw [← HW.out]
      go_loopw [5] (fun i wr => ∃ k : Nat, k ≤ a.length ∧ i = .int .i64 k ∧ a.take k = b.take k ∧ Below w2.heap.size w2 wr) (fun i _ => a.length - (intOf i).toNat)
      case atStart => exact ⟨0, Nat.zero_le _, rfl, rfl, Below.refl _ _⟩
      case round =>
        obtain ⟨k, hk, rfl, htk, hb⟩ := hrel
        have HK := Lib.hid htk
        obtain ⟨c0, c1⟩ := (r0.on hb).laters
        obtain ⟨d0, d1⟩ := (r1.on hb).laters
        obtain ⟨x0, x1⟩ := (r0.on hb).two
        obtain ⟨y0, y1⟩ := (r1.on hb).two
        have hz := hb.size
        have hbw := bstep hb0 hb hb0.size
        clear htk
        by_cases hlt : k < a.length
        · have hlt2 : k < b.length := by have := HL.out; omega
          obtain ⟨ad, rfl, _, e1, e2⟩ := (hv2.below hb (Nat.le_refl _)).at_ hlt
          obtain ⟨bd, rfl, _, e3, e4⟩ := (hu2.below hb (Nat.le_refl _)).at_ hlt2
          clear c0 c1 d0 d1
          have HN := Lib.hid (show a[k] ≠ b[k] → decide (a = b) = false from fun h0 => decide_eq_false fun e => h0 (by subst e; rfl))
          have HT := Lib.hid (show a[k] = b[k] → a.take (k + 1) = b.take (k + 1) from fun h0 => by
            rw [List.take_succ_eq_append_getElem hlt, List.take_succ_eq_append_getElem hlt2, HK.out, h0])
          generalize a[k] = p at *
          generalize b[k] = q at *
          obtain ⟨p1, p2⟩ := p
          obtain ⟨q1, q2⟩ := q
          by_cases h1 : p1 = q1
          · subst h1
            by_cases h2 : p2 = q2
            · subst h2
              have ht1 := HT.out rfl
              go_wp2_with fail
              go_region
              go_wp2_with fail
              go_roundw
              case rel => exact ⟨k + 1, by omega, by go_num, ht1, hb.drew⟩
              case measure => simp [intOf]; omega
            · have h2a : ((p2 : Int) = (q2 : Int)) = False := eq_false (by omega)
              have HN2 := Lib.hid (HN.out (by simp [h2]))
              clear h2 HN HT
              go_wp2_with fail
              go_region
              go_wp2_with fail
              go_ret
              refine ⟨?_, hbw.drew⟩
              rw [HN2.out]
              rfl
          · have h1a : ((p1 : Int) = (q1 : Int)) = False := eq_false (by omega)
            have HN2 := Lib.hid (HN.out (by simp [h1]))
            clear h1 HN HT
            go_wp2_with fail
            go_region
            go_wp2_with fail
            go_ret
            refine ⟨?_, hbw.drew⟩
            rw [HN2.out]
            rfl
        · go_wp2_with fail
          go_ret
          refine ⟨?_, hbw⟩
          have hab : a = b := by
            have h1 := HK.out
            have h2 := HL.out
            rw [List.take_of_length_le (by omega), List.take_of_length_le (by omega)] at h1
            exact h1
          rw [decide_eq_true hab]
          rfl
    · have hl1 : ((a.length : Int) != (b.length : Int)) = true := by rw [bne, beq_int]; simp [hl]
      rw [show decide (a = b) = false from decide_eq_false fun e => hl (by rw [e]), Bool.and_false]
      clear hl
      go_enter Try.func26, Try.ntmps26
      go_wp2_with fail
      go_ret
      exact ⟨rfl, hb0⟩
  · cases f <;> cases g <;> first | exact absurd rfl hfg | skip
    all_goals
      clear hfg
      go_enter Try.func26, Try.ntmps26
      go_wp2_with fail
      go_ret
      exact ⟨rfl, hb0⟩
end Go.Proofs.Ytjjccoliknngcaa

namespace Go.Proofs.Ytjjccoliknngcaa
open Go.RowKit

theorem info_pair : (Try.prog.info? 27).map (fun i => (i.zero, i.size, i.bytes)) = some (some (.agg #[.int .u64 0, .int .u64 0]), 2, 16) := by kernel_rfl
theorem mrg_step_a {a b : List Pr} {i k : Nat} (hi : i < a.length) (hk : k < b.length) (h : aheadB b[k] a[i] = false) : mrg (a.drop i) (b.drop k) = a[i] :: mrg (a.drop (i + 1)) (b.drop k) := by
  rw [List.drop_eq_getElem_cons hi, List.drop_eq_getElem_cons hk, mrg_cons, h]; rfl
theorem mrg_step_b {a b : List Pr} {i k : Nat} (hk : k < b.length) (h : ∀ hi : i < a.length, aheadB b[k] a[i] = true) : mrg (a.drop i) (b.drop k) = b[k] :: mrg (a.drop i) (b.drop (k + 1)) := by
  by_cases hi : i < a.length
  · rw [List.drop_eq_getElem_cons hi, List.drop_eq_getElem_cons hk, mrg_cons, h hi]; rfl
  · rw [List.drop_of_length_le (by omega), nil_mrg, nil_mrg, List.drop_eq_getElem_cons hk]
theorem flat_snoc (l : List Pr) (p : Pr) : (l ++ [p]).flatMap pairCells = l.flatMap pairCells ++ [.int .u64 (p.1 : Int), .int .u64 (p.2 : Int)] := by
  rw [List.flatMap_append]; simp [pairCells]

theorem tOwns_below {W W' : World} {base : Nat} {e : TypeId} {size k : Nat} {v : Value} {xs : List Value} (h : W.ownsRow base e size v k xs) (hb : Below W.heap.size W W') : W'.ownsRow base e size v k xs :=
  h.kept (row := none) ⟨hb.os, hb.tape, hb.output, hb.size, fun k hk _ => hb.block k hk⟩ (by
    rcases h.2 with ⟨rfl, _⟩ | ⟨g, cap, cur, rfl, _⟩
    · exact .inl rfl
    · exact .inr (by simp [Value.ownBlock]))

theorem Prs.cells2 {w : World} {B : Nat} {ad : Addr} {n c : Nat} {l : List Pr} (h : Prs w B (.slice (some ad) n c) l) : ∀ j p, l[j]? = some p → w.cell? (ad.add (j * 2)) = some (.int .u64 (p.1 : Int)) ∧ w.cell? (ad.add (j * 2 + 1)) = some (.int .u64 (p.2 : Int)) := by
  intro j p hj
  obtain ⟨A', c', hv, _, ha⟩ := h
  injection hv with h1 h2 h3
  subst h1
  have hjl : j < l.length := by
    rcases Nat.lt_or_ge j l.length with k | k
    · exact k
    · rw [List.getElem?_eq_none k] at hj; cases hj
  obtain ⟨ad', e, _, hc⟩ := ha (by omega)
  injection e with e
  subst e
  exact hc j p hj
theorem pairs_one (l : List Pr) : ∀ u ∈ l.flatMap pairCells, u.oneCell' = true := by
  intro u hu
  obtain ⟨p, _, hp⟩ := List.mem_flatMap.1 hu
  simp [pairCells] at hp
  rcases hp with rfl | rfl <;> rfl
theorem pairs_from {w : World} {B : Nat} {ad : Addr} {m c : Nat} {l : List Pr} (h : Prs w B (.slice (some ad) m c) l) (n : Nat) : ∀ j u, ((l.drop n).flatMap pairCells)[j]? = some u → w.cell? ((ad.add (n * 2)).add j) = some u := by
  intro j u hj
  have hjl : j < (l.drop n).length * 2 := by
    rw [← flat_pairs_length]
    rcases Nat.lt_or_ge j ((l.drop n).flatMap pairCells).length with k | k
    · exact k
    · rw [List.getElem?_eq_none k] at hj; cases hj
  have hq : j / 2 < (l.drop n).length := by omega
  obtain ⟨g1, g2⟩ := flat_pairs_get (l.drop n) (j / 2) _ (List.getElem?_eq_getElem hq)
  have hl : l[n + j / 2]? = some (l.drop n)[j / 2] := by rw [← List.getElem?_drop]; exact List.getElem?_eq_getElem hq
  obtain ⟨c1, c2⟩ := h.cells2 _ _ hl
  rw [add_add]
  rcases (by omega : j = j / 2 * 2 ∨ j = j / 2 * 2 + 1) with e | e
  · rw [← e] at g1
    rw [g1] at hj
    rw [show n * 2 + j = (n + j / 2) * 2 by omega, c1]
    exact hj
  · rw [← e] at g2
    rw [g2] at hj
    rw [show n * 2 + j = (n + j / 2) * 2 + 1 by omega, c2]
    exact hj
theorem from_own {w : World} {base : Nat} {e : TypeId} {size n : Nat} {v : Value} {xs : List Value} (h : w.ownsRow base e size v n xs) : FromOn base v := by
  intro ad m c hv
  rcases h.2 with ⟨e, _⟩ | ⟨g, cap, cur, e, hb, _⟩
  · rw [e] at hv; cases hv
  · rw [e] at hv; cases hv; exact hb
theorem Prs.setCell {w : World} {B lo : Nat} {v : Value} {l : List Pr} (h : Prs w B v l) (hf : FromOn lo v) {p : Addr} (hp : p.block < lo) (u : Value) : Prs (w.setCell p u) B v l := by
  obtain ⟨A, c, hv, hc, ha⟩ := h
  refine ⟨A, c, hv, hc, fun h0 => ?_⟩
  obtain ⟨ad, e, hb, hcell⟩ := ha h0
  subst e
  have hlo := hf ad _ _ hv
  have hne : ∀ j, p ≠ ad.add j := fun j e => by
    have : p.block = (ad.add j).block := by rw [e]
    rw [add_block] at this
    omega
  refine ⟨ad, rfl, hb, fun j s hs => ?_⟩
  rw [World.cell?_setCell_other _ _ _ _ (hne _), World.cell?_setCell_other _ _ _ _ (hne _)]
  exact hcell j s hs
/- append of an empty slice -/
theorem run_append_empty {P : Program} (w : World) (t ty e : TypeId) (i : TypeInfo) (ht : P.underlying t = some (.slice e)) (hi : P.info? e = some i) (S X : Option Addr) (n c cx : Nat) (hnc : n ≤ c) :
    (Builtin.append_ #[t, t] ty #[.slice S n c, .slice X 0 cx]).run P w = .ok (.slice S n c) w := by
  cases S <;> cases X <;> simp [Builtin.append_, run_underlying ht, sizeOf, typeInfo, hi, Builtin.lenOf, Builtin.firstCells, loadCells, loadCellsFrom, storeCells, hnc]
theorem wpList_append_empty {P : Program} {w : World} {ops : Array Oper} {rest : List Oper} {o : Oper} {a : Act} {Q : Exit → Act → World → Prop} (hgd : o.guard = none) (s x : Operand) (t : TypeId)
    (ho : o.op = .call { callee := .builtin .append, args := #[s, x], argTypes := #[t, t] }) (e : TypeId) (i : TypeInfo) (ht : P.underlying t = some (.slice e)) (hi : P.info? e = some i)
    (S X : Option Addr) (n c cx : Nat) (hnc : n ≤ c) (hs : a.eval s = .slice S n c) (hx : a.eval x = .slice X 0 cx) (h : wpList P ops Q rest (a.put o.dst (.slice S n c)) w) : wpList P ops Q (o :: rest) a w :=
  wpList_plain hgd fun _ hK => by
    unfold Oper.wp execOp
    simp only [ho, resolve, invoke, builtin, Sem.run_bind, Sem.run_pure, Result.andThen_ok, List.map_toArray, List.map_cons, List.map_nil, hs, hx, run_append_empty w t o.type e i ht hi S X n c cx hnc]
    exact hK _ _ h

end Go.Proofs.Ytjjccoliknngcaa
