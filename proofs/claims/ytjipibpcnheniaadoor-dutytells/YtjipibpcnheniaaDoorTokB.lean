/- The document's own answers for layer 5: Ahead, sorted, Right, One, Same.
   The document's own answers for layer 5: two. -/
import Derived.Test.YtjipibpcnheniaaDoorProg
import Derived.Test.YtjipibpcnheniaaDoorTokW
import Derived.WalkLawsBesides
import Derived.Deep.RegionWith
import Derived.Deep.QuietTactic
import Derived.BigQuiet
import Derived.Deep.AppendLies
import Derived.Test.YtjipibpcnheniaaDoorLagL
import Derived.OwnWalk
namespace Go.Proofs.YtjipibpcnheniaaDoor
open Go.RowKit

theorem bstep {w a b : World} {B : Nat} (h : Below B w a) (k : Below a.heap.size a b) (hB : B ≤ a.heap.size) : Below B w b := h.trans (k.mono hB)

theorem Prs.cells {w wr : World} {A : Option Addr} {n c k : Nat} {l : List Pr} (hv : Prs w w.heap.size (.slice A n c) l) (hb : Below w.heap.size w wr) (hk : k < l.length) :
    ∃ ad : Addr, A = some ad ∧ (∀ p : Later wr, p.W.cell? (ad.add (k * 2)) = some (.int .u64 ((l[k]).1 : Int))) ∧ (∀ p : Later wr, p.W.cell? ⟨(ad.add (k * 2)).block, (ad.add (k * 2)).off + 1, none⟩ = some (.int .u64 ((l[k]).2 : Int))) := by
  obtain ⟨ad, rfl, _, _, _⟩ := hv.at_ hk
  have hq : ∀ p : Later wr, Prs p.W w.heap.size (.slice (some ad) n c) l := fun p => hv.below (hb.trans (p.h.mono hb.size)) (Nat.le_refl _)
  exact ⟨ad, rfl, fun p => by obtain ⟨_, e, _, h1, _⟩ := (hq p).at_ hk; cases e; exact h1, fun p => by obtain ⟨_, e, _, _, h1⟩ := (hq p).at_ hk; cases e; exact h1⟩
theorem RowAt.laters {w : World} {g : Nat} {t : TypeId} {x y : Value} (h : RowAt w g t [x, y]) : (∀ p : Later w, p.W.cell? ⟨g, 0, none⟩ = some x) ∧ (∀ p : Later w, p.W.cell? ⟨g, 1, none⟩ = some y) :=
  ⟨fun p => (h.on p.h).two.1, fun p => (h.on p.h).two.2⟩

set_option maxHeartbeats 400000 in
theorem rAhead_any (a1 a2 b1 b2 : Nat) (w : World) :
    Calls Tryd.prog 45 #[.agg #[.int .u64 a1, .int .u64 a2], .agg #[.int .u64 b1, .int .u64 b2]] w fun e w' => e = .returned (.bool (aheadB (a1, a2) (b1, b2))) ∧ Below w.heap.size w w' := by
  have hb : Below w.heap.size w ((w.alloc (.cells #[.int .u64 a1, .int .u64 a2] 53)).alloc (.cells #[.int .u64 b1, .int .u64 b2] 53)) := ((Below.refl _ w).alloc (Nat.le_refl _) _).alloc (by simp) _
  unfold aheadB
  by_cases h1 : a1 < b1
  · have h1a : ((a1 : Int) < (b1 : Int)) = True := eq_true (by omega)
    have h1b : (a1 < b1) = True := eq_true h1
    go_enter Tryd.func45, Tryd.ntmps45
    go_wp2
    go_ret
    exact ⟨by simp [h1], hb⟩
  · have h1a : ((a1 : Int) < (b1 : Int)) = False := eq_false (by omega)
    have h1b : (a1 < b1) = False := eq_false h1
    by_cases h2 : a1 = b1
    · subst h2
      clear h1 h1a h1b
      go_enter Tryd.func45, Tryd.ntmps45
      go_wp2
      go_ret
      exact ⟨by simp, hb⟩
    · have h2a : ((a1 : Int) == (b1 : Int)) = false := by simp; omega
      clear h1
      go_enter Tryd.func45, Tryd.ntmps45
      go_wp2
      go_ret
      exact ⟨by simp [h1b, h2], hb⟩

theorem rAhead_at (a b : Pr) (w : World) :
    Calls Tryd.prog 45 #[.agg #[.int .u64 (a.1 : Int), .int .u64 (a.2 : Int)], .agg #[.int .u64 (b.1 : Int), .int .u64 (b.2 : Int)]] w fun e w' => e = .returned (.bool (aheadB a b)) ∧ Below w.heap.size w w' := rAhead_any a.1 a.2 b.1 b.2 w

/-- The first so many are in their order. -/
def srtTo (l : List Pr) (k : Nat) : Prop := ∀ i (h : i + 1 < l.length), i + 1 < k → aheadB l[i + 1] l[i] = false

set_option maxHeartbeats 1000000 in
theorem rsorted_any (v : Value) (l : List Pr) (w : World) (hv : Prs w w.heap.size v l) (h9 : l.length ≤ maxLen) :
    Calls Tryd.prog 82 #[v] w fun e w' => e = .returned (.bool (srt l)) ∧ Below w.heap.size w w' := by
  obtain ⟨A, c, rfl, hc⟩ := hv.form
  have h9' : l.length ≤ 9223372036854775807 := h9
  go_enter Tryd.func82, Tryd.ntmps82
  go_wp2_with fail
  go_loopw [3] (fun i wr => ∃ k : Nat, 1 ≤ k ∧ (k ≤ l.length ∨ k = 1) ∧ i = .int .i64 k ∧ srtTo l k ∧ Below w.heap.size w wr) (fun i _ => l.length - (intOf i).toNat)
  case atStart => exact ⟨1, Nat.le_refl _, .inr rfl, rfl, fun i _ h => by omega, Below.refl _ _⟩
  case round =>
    obtain ⟨k, hk1, hk, rfl, hs, hb⟩ := hrel
    by_cases hlt : k < l.length
    · obtain ⟨j, rfl⟩ : ∃ j, k = j + 1 := ⟨k - 1, by omega⟩
      obtain ⟨ad, rfl, hc1, hc2⟩ := hv.cells hb hlt
      obtain ⟨_, e, hd1, hd2⟩ := hv.cells hb (show j < l.length by omega)
      cases e
      have hz := hb.size
      have ej : ((j + 1 : Nat) : Int) - 1 = (j : Int) := by omega
      have HS := Lib.hid (show aheadB l[j + 1] l[j] = false → srtTo l (j + 1 + 1) from fun h0 i hi hi2 => by
        rcases Nat.lt_or_ge (i + 1) (j + 1) with h1 | h1
        · exact hs i hi h1
        · obtain rfl : i = j := by omega
          exact h0)
      have HN := Lib.hid (show aheadB l[j + 1] l[j] = true → srt l = false from fun h0 => by
        cases hq : srt l
        · rfl
        · rw [(srt_at l).1 hq j hlt] at h0; cases h0)
      have cA := fun W => rAhead_at l[j + 1] l[j] W
      clear hs
      generalize aheadB l[j + 1] l[j] = bb at *
      go_wp2_with fail
      refine wp_region_later (by kernel_rfl) (by kernel_rfl) ?_
      repeat (go_big_quiet_step (first | (go_at_call 45; exact later_of (cA _))))
      refine wpQuiet_nil ?_
      intro _ hw'
      obtain ⟨pq, rfl⟩ := hw'
      have hbn : Below w.heap.size w pq.W := hb.trans (pq.h.mono hz)
      clear hc1 hc2 hd1 hd2
      generalize pq.W = w2 at *
      cases bb
      · have hs2 := HS.out rfl
        go_wp2_with fail
        go_roundw
        case rel => exact ⟨j + 1 + 1, by omega, .inl (by omega), by go_num, hs2, hbn⟩
        case measure => simp [intOf]; omega
      · have HN2 := Lib.hid (HN.out rfl)
        clear HN HS
        go_wp2_with fail
        go_ret
        refine ⟨?_, hbn⟩
        rw [HN2.out]
        rfl
    · go_wp2_with fail
      go_ret
      refine ⟨?_, hb⟩
      rw [(srt_at l).2 fun i h => hs i h (by omega)]
      rfl

def rightT (l : List Pr) : Bool := srt l && decide (l.length ≤ 2048)
theorem boxed (w : World) (f : Bool) (v : Value) : Below w.heap.size w (w.alloc (.cells #[.bool f, v] 28)) := (Below.refl _ w).alloc (Nat.le_refl _) _

set_option maxHeartbeats 1000000 in
theorem rRight_any (x : Value) (f : Bool) (l : List Pr) (w : World) (hx : Tk w x f l) (h9 : l.length ≤ maxLen) :
    Calls Tryd.prog 69 #[x] w fun e w' => e = .returned (.bool (rightT l)) ∧ Below w.heap.size w w' := by
  obtain ⟨A, c, rfl, hc, hv⟩ := hx.form
  have cS := rsorted_any _ l _ (hv.alloc (.cells #[.bool f, .slice A l.length c] 28)) h9
  have r0 := RowAt.new w 28 #[.bool f, .slice A l.length c]
  have hb0 := boxed w f (.slice A l.length c)
  have h9' : l.length ≤ 9223372036854775807 := h9
  unfold rightT
  generalize srt l = bb at *
  go_enter Tryd.func69, Tryd.ntmps69
  go_wp2_with fail
  with_reducible refine cS.mono ?_
  rintro e w1 ⟨rfl, hb1⟩
  obtain ⟨c0, c1⟩ := (r0.on hb1).two
  have hw1 := bstep hb0 hb1 hb0.size
  clear cS r0 hb0 hb1
  cases bb
  · go_wp2_with fail
    go_ret
    exact ⟨rfl, hw1⟩
  · go_wp2_with fail
    go_ret
    refine ⟨?_, hw1⟩
    simp
    omega

/-- Are two tokens the same? -/
def sameT (f g : Bool) (a b : List Pr) : Bool := (f == g) && decide (a = b)

theorem beq_int (a b : Nat) : ((a : Int) == (b : Int)) = decide (a = b) := by
  rw [Bool.eq_iff_iff, beq_iff_eq, decide_eq_true_iff]; omega

end Go.Proofs.YtjipibpcnheniaaDoor

namespace Go.Proofs.YtjipibpcnheniaaDoor
open Go.RowKit

theorem info_pair : (Tryd.prog.info? 53).map (fun i => (i.zero, i.size, i.bytes)) = some (some (.agg #[.int .u64 0, .int .u64 0]), 2, 16) := by kernel_rfl
theorem mrg_step_a {a b : List Pr} {i k : Nat} (hi : i < a.length) (hk : k < b.length) (h : aheadB b[k] a[i] = false) : mrg (a.drop i) (b.drop k) = a[i] :: mrg (a.drop (i + 1)) (b.drop k) := by
  rw [List.drop_eq_getElem_cons hi, List.drop_eq_getElem_cons hk, mrg_cons, h]; rfl
theorem mrg_step_b {a b : List Pr} {i k : Nat} (hk : k < b.length) (h : ∀ hi : i < a.length, aheadB b[k] a[i] = true) : mrg (a.drop i) (b.drop k) = b[k] :: mrg (a.drop i) (b.drop (k + 1)) := by
  by_cases hi : i < a.length
  · rw [List.drop_eq_getElem_cons hi, List.drop_eq_getElem_cons hk, mrg_cons, h hi]; rfl
  · rw [List.drop_of_length_le (by omega), nil_mrg, nil_mrg, List.drop_eq_getElem_cons hk]
theorem flat_snoc (l : List Pr) (p : Pr) : (l ++ [p]).flatMap pairCells = l.flatMap pairCells ++ [.int .u64 (p.1 : Int), .int .u64 (p.2 : Int)] := by
  rw [List.flatMap_append]; simp [pairCells]

theorem tOwns_below {W W' : World} {base : Nat} {e : TypeId} {size k : Nat} {v : Value} {xs : List Value} (h : W.ownsRow base e size v k xs) (hb : Below W.heap.size W W') : W'.ownsRow base e size v k xs :=
  h.kept (row := none) ⟨hb.os, hb.tape, hb.output, hb.size, fun k hk _ => hb.block k hk⟩ (by
    rcases h.2 with ⟨rfl, _⟩ | ⟨g, cap, cur, rfl, _⟩
    · exact .inl rfl
    · exact .inr (by simp [Value.ownBlock]))

theorem Prs.cells2 {w : World} {B : Nat} {ad : Addr} {n c : Nat} {l : List Pr} (h : Prs w B (.slice (some ad) n c) l) : ∀ j p, l[j]? = some p → w.cell? (ad.add (j * 2)) = some (.int .u64 (p.1 : Int)) ∧ w.cell? (ad.add (j * 2 + 1)) = some (.int .u64 (p.2 : Int)) := by
  intro j p hj
  obtain ⟨A', c', hv, _, ha⟩ := h
  injection hv with h1 h2 h3
  subst h1
  have hjl : j < l.length := by
    rcases Nat.lt_or_ge j l.length with k | k
    · exact k
    · rw [List.getElem?_eq_none k] at hj; cases hj
  obtain ⟨ad', e, _, hc⟩ := ha (by omega)
  injection e with e
  subst e
  exact hc j p hj
theorem pairs_one (l : List Pr) : ∀ u ∈ l.flatMap pairCells, u.oneCell' = true := by
  intro u hu
  obtain ⟨p, _, hp⟩ := List.mem_flatMap.1 hu
  simp [pairCells] at hp
  rcases hp with rfl | rfl <;> rfl
theorem pairs_from {w : World} {B : Nat} {ad : Addr} {m c : Nat} {l : List Pr} (h : Prs w B (.slice (some ad) m c) l) (n : Nat) : ∀ j u, ((l.drop n).flatMap pairCells)[j]? = some u → w.cell? ((ad.add (n * 2)).add j) = some u := by
  intro j u hj
  have hjl : j < (l.drop n).length * 2 := by
    rw [← flat_pairs_length]
    rcases Nat.lt_or_ge j ((l.drop n).flatMap pairCells).length with k | k
    · exact k
    · rw [List.getElem?_eq_none k] at hj; cases hj
  have hq : j / 2 < (l.drop n).length := by omega
  obtain ⟨g1, g2⟩ := flat_pairs_get (l.drop n) (j / 2) _ (List.getElem?_eq_getElem hq)
  have hl : l[n + j / 2]? = some (l.drop n)[j / 2] := by rw [← List.getElem?_drop]; exact List.getElem?_eq_getElem hq
  obtain ⟨c1, c2⟩ := h.cells2 _ _ hl
  rw [add_add]
  rcases (by omega : j = j / 2 * 2 ∨ j = j / 2 * 2 + 1) with e | e
  · rw [← e] at g1
    rw [g1] at hj
    rw [show n * 2 + j = (n + j / 2) * 2 by omega, c1]
    exact hj
  · rw [← e] at g2
    rw [g2] at hj
    rw [show n * 2 + j = (n + j / 2) * 2 + 1 by omega, c2]
    exact hj
theorem from_own {w : World} {base : Nat} {e : TypeId} {size n : Nat} {v : Value} {xs : List Value} (h : w.ownsRow base e size v n xs) : FromOn base v := by
  intro ad m c hv
  rcases h.2 with ⟨e, _⟩ | ⟨g, cap, cur, e, hb, _⟩
  · rw [e] at hv; cases hv
  · rw [e] at hv; cases hv; exact hb
theorem Prs.setCell {w : World} {B lo : Nat} {v : Value} {l : List Pr} (h : Prs w B v l) (hf : FromOn lo v) {p : Addr} (hp : p.block < lo) (u : Value) : Prs (w.setCell p u) B v l := by
  obtain ⟨A, c, hv, hc, ha⟩ := h
  refine ⟨A, c, hv, hc, fun h0 => ?_⟩
  obtain ⟨ad, e, hb, hcell⟩ := ha h0
  subst e
  have hlo := hf ad _ _ hv
  have hne : ∀ j, p ≠ ad.add j := fun j e => by
    have : p.block = (ad.add j).block := by rw [e]
    rw [add_block] at this
    omega
  refine ⟨ad, rfl, hb, fun j s hs => ?_⟩
  rw [World.cell?_setCell_other _ _ _ _ (hne _), World.cell?_setCell_other _ _ _ _ (hne _)]
  exact hcell j s hs
/- append of an empty slice -/
theorem run_append_empty {P : Program} (w : World) (t ty e : TypeId) (i : TypeInfo) (ht : P.underlying t = some (.slice e)) (hi : P.info? e = some i) (S X : Option Addr) (n c cx : Nat) (hnc : n ≤ c) :
    (Builtin.append_ #[t, t] ty #[.slice S n c, .slice X 0 cx]).run P w = .ok (.slice S n c) w := by
  cases S <;> cases X <;> simp [Builtin.append_, run_underlying ht, sizeOf, typeInfo, hi, Builtin.lenOf, Builtin.firstCells, loadCells, loadCellsFrom, storeCells, hnc]
theorem wpList_append_empty {P : Program} {w : World} {ops : Array Oper} {rest : List Oper} {o : Oper} {a : Act} {Q : Exit → Act → World → Prop} (hgd : o.guard = none) (s x : Operand) (t : TypeId)
    (ho : o.op = .call { callee := .builtin .append, args := #[s, x], argTypes := #[t, t] }) (e : TypeId) (i : TypeInfo) (ht : P.underlying t = some (.slice e)) (hi : P.info? e = some i)
    (S X : Option Addr) (n c cx : Nat) (hnc : n ≤ c) (hs : a.eval s = .slice S n c) (hx : a.eval x = .slice X 0 cx) (h : wpList P ops Q rest (a.put o.dst (.slice S n c)) w) : wpList P ops Q (o :: rest) a w :=
  wpList_plain hgd fun _ hK => by
    unfold Oper.wp execOp
    simp only [ho, resolve, invoke, builtin, Sem.run_bind, Sem.run_pure, Result.andThen_ok, List.map_toArray, List.map_cons, List.map_nil, hs, hx, run_append_empty w t o.type e i ht hi S X n c cx hnc]
    exact hK _ _ h

end Go.Proofs.YtjipibpcnheniaaDoor
