/- Layer 7: a row of pairs that is one's own; slices.Compact of pairs. -/
import Derived.Test.YtjjccoliknngcaaOrcM
import Derived.Lib.SliceRun
namespace Go.Proofs.Ytjjccoliknngcaa
open Go.RowKit Go.Lib

/-- l's first j pairs, but for each that is the same as the one ahead of it. -/
def kp (l : List Pr) : Nat → List Pr
  | 0 => []
  | j + 1 => if h : j < l.length then (if j = 0 ∨ l[j - 1]? ≠ some l[j] then kp l j ++ [l[j]] else kp l j) else kp l j
theorem kp_keep {l : List Pr} {j : Nat} (h : j < l.length) (hk : j = 0 ∨ l[j - 1]? ≠ some l[j]) : kp l (j + 1) = kp l j ++ [l[j]] := by
  rw [kp, dif_pos h, if_pos hk]
theorem kp_skip {l : List Pr} {j : Nat} (h : j + 1 < l.length) (hk : l[j] = l[j + 1]) : kp l (j + 1 + 1) = kp l (j + 1) := by
  rw [kp, dif_pos h, if_neg]
  rintro (e | e)
  · omega
  · exact e (by rw [Nat.add_sub_cancel, List.getElem?_eq_getElem (by omega), hk])
theorem kp_le (l : List Pr) : ∀ j, (kp l j).length ≤ j
  | 0 => by simp [kp]
  | j + 1 => by
    have := kp_le l j
    rw [kp]
    split
    · split
      · rw [List.length_append]; simp; omega
      · omega
    · omega
theorem kp_one {l : List Pr} (h : l.length ≤ 1) : kp l l.length = l := by
  match l, h with
  | [], _ => rfl
  | [a], _ => simp [kp]
theorem kp_rise {l : List Pr} (hs : srt l = true) : ∀ j, j ≤ l.length → Rise (kp l j) ∧ ∀ x, x ∈ kp l j ↔ x ∈ l.take j
  | 0, _ => by simp [kp]
  | j + 1, h => by
    obtain ⟨h1, h2⟩ := kp_rise hs j (by omega)
    have hp := List.pairwise_iff_getElem.1 ((srt_iff l).1 hs)
    by_cases hk : j = 0 ∨ l[j - 1]? ≠ some l[j]
    · rw [kp_keep h hk]
      have hna : ∀ x ∈ l.take j, aheadB x l[j] = true := by
        intro x hx
        obtain ⟨i, hi, rfl⟩ := List.mem_iff_getElem.1 hx
        rw [List.length_take] at hi
        rw [List.getElem_take]
        have hij : Le l[i] l[j] := hp i j (by omega) h (by omega)
        cases ha : aheadB l[i] l[j]
        · have hji : Le l[j] l[i] := ha
          have e : l[i] = l[j] := Le.antisymm hij hji
          rcases hk with k | k
          · omega
          · refine absurd ?_ k
            rw [List.getElem?_eq_getElem (by omega)]
            have q1 : Le l[j - 1] l[j] := hp (j - 1) j (by omega) h (by omega)
            by_cases hi2 : i = j - 1
            · subst hi2; rw [e]
            · have q2 : Le l[i] l[j - 1] := hp i (j - 1) (by omega) (by omega) (by omega)
              rw [e] at q2
              rw [Le.antisymm q1 q2]
        · rfl
      refine ⟨List.pairwise_append.2 ⟨h1, by simp, fun a ha b hb => ?_⟩, fun x => ?_⟩
      · rw [List.mem_singleton] at hb
        subst hb
        exact hna a ((h2 a).1 ha)
      · rw [List.mem_append, h2, List.take_succ_eq_append_getElem h, List.mem_append]
    · have hj : j ≠ 0 := fun e => hk (.inl e)
      have he : l[j - 1]? = some l[j] := Classical.byContradiction fun e => hk (.inr e)
      have hkp : kp l (j + 1) = kp l j := by rw [kp, dif_pos (show j < l.length from h), if_neg hk]
      rw [hkp]
      refine ⟨h1, fun x => ?_⟩
      rw [h2, List.take_succ_eq_append_getElem h, List.mem_append, List.mem_singleton]
      refine ⟨.inl, fun k => ?_⟩
      rcases k with k | rfl
      · exact k
      · have hlt : j - 1 < (l.take j).length := by rw [List.length_take]; omega
        rw [List.getElem?_eq_getElem (by omega)] at he
        injection he with he
        rw [← he]
        exact List.mem_iff_getElem.2 ⟨j - 1, hlt, by rw [List.getElem_take]⟩

/-- A block that holds these pairs, and may be written. -/
def Pcs (w : World) (g : Nat) (L : List Pr) : Prop := g < w.heap.size ∧ ∀ (j : Nat) (p : Pr), L[j]? = some p → w.cell? ⟨g, j * 2, none⟩ = some (.int .u64 (p.1 : Int)) ∧ w.cell? ⟨g, j * 2 + 1, none⟩ = some (.int .u64 (p.2 : Int)) ∧ w.frozen? ⟨g, j * 2, none⟩ = false ∧ w.frozen? ⟨g, j * 2 + 1, none⟩ = false
theorem Pcs.at_ {w : World} {g : Nat} {L : List Pr} (h : Pcs w g L) {j : Nat} (hj : j < L.length) : w.cell? ⟨g, j * 2, none⟩ = some (.int .u64 ((L[j]).1 : Int)) ∧ w.cell? ⟨g, j * 2 + 1, none⟩ = some (.int .u64 ((L[j]).2 : Int)) ∧ w.frozen? ⟨g, j * 2, none⟩ = false ∧ w.frozen? ⟨g, j * 2 + 1, none⟩ = false := h.2 j _ (List.getElem?_eq_getElem hj)
theorem Pcs.drew {w : World} {g : Nat} {L : List Pr} (h : Pcs w g L) : Pcs w.drew g L := h
theorem Pcs.put {w : World} {g : Nat} {L : List Pr} (h : Pcs w g L) {i : Nat} (hi : i < L.length) (x : Pr) : Pcs ((w.setCell ⟨g, i * 2, none⟩ (.int .u64 (x.1 : Int))).setCell ⟨g, i * 2 + 1, none⟩ (.int .u64 (x.2 : Int))) g (L.set i x) := by
  have h0 := h.at_ hi
  have n1 : (⟨g, i * 2, none⟩ : Addr) ≠ ⟨g, i * 2 + 1, none⟩ := fun e => by injection e with _ e; omega
  refine ⟨by simpa [World.setCell] using h.1, fun j p hj => ?_⟩
  rw [World.frozen?_setCell, World.frozen?_setCell, World.frozen?_setCell, World.frozen?_setCell]
  by_cases e : j = i
  · subst e
    rw [List.getElem?_set_self (by omega)] at hj
    injection hj with hj
    subst hj
    refine ⟨?_, ?_, h0.2.2.1, h0.2.2.2⟩
    · rw [World.cell?_setCell_other _ _ _ _ (Ne.symm n1)]
      exact World.cell?_setCell_same _ _ _ h0.1
    · exact World.cell?_setCell_same _ _ _ (u := .int .u64 ((L[j]).2 : Int)) (by rw [World.cell?_setCell_other _ _ _ _ n1]; exact h0.2.1)
  · rw [List.getElem?_set_ne (Ne.symm e)] at hj
    obtain ⟨q1, q2, q3, q4⟩ := h.2 j p hj
    refine ⟨?_, ?_, q3, q4⟩
    · rw [World.cell?_setCell_other _ _ _ _ (fun e => by injection e with _ e; omega), World.cell?_setCell_other _ _ _ _ (fun e => by injection e with _ e; omega)]; exact q1
    · rw [World.cell?_setCell_other _ _ _ _ (fun e => by injection e with _ e; omega), World.cell?_setCell_other _ _ _ _ (fun e => by injection e with _ e; omega)]; exact q2
theorem Pcs.prs {w : World} {g cap : Nat} {L : List Pr} (h : Pcs w g L) (hc : L.length ≤ cap) : Prs w w.heap.size (.slice (some ⟨g, 0, none⟩) L.length cap) L :=
  ⟨some ⟨g, 0, none⟩, cap, rfl, ⟨hc, fun h => by cases h⟩, fun _ => ⟨⟨g, 0, none⟩, rfl, h.1, fun j p hj => by
    obtain ⟨q1, q2, _, _⟩ := h.2 j p hj
    rw [addr0, addr0]
    exact ⟨q1, q2⟩⟩⟩
theorem Pcs.first {w : World} {g : Nat} {L M : List Pr} (h : Pcs w g (L ++ M)) : Pcs w g L := ⟨h.1, fun j p hj => h.2 j p (by rw [List.getElem?_append_left (List.getElem?_eq_some_iff.1 hj).1]; exact hj)⟩
theorem kp_room {l : List Pr} {out : List Pr} {x : Pr} (h : out.length < l.length) : (out ++ l.drop out.length).set out.length x = (out ++ [x]) ++ l.drop (out ++ [x]).length := by
  rw [List.set_append_right _ _ (Nat.le_refl _), Nat.sub_self, List.drop_eq_getElem_cons h, List.set_cons_zero, List.length_append]
  simp
theorem room_get {l : List Pr} {out : List Pr} {i : Nat} (hi : i < l.length) (ho : out.length ≤ i) : (out ++ l.drop out.length)[i]? = some l[i] := by
  rw [List.getElem?_append_right ho, List.getElem?_drop, show out.length + (i - out.length) = i by omega, List.getElem?_eq_getElem hi]
theorem setCells_size (g : Nat) : ∀ (vs : List Value) (o : Nat) (w : World), (w.setCells g o vs).heap.size = w.heap.size
  | [], _, _ => rfl
  | v :: r, o, w => by
    show ((w.setCell ⟨g, o, none⟩ v).setCells g (o + 1) r).heap.size = _
    rw [setCells_size g r (o + 1)]
    simp [World.setCell]
theorem Pcs.clear {w : World} {g m : Nat} {L M : List Pr} (h : Pcs w g (L ++ M)) : Pcs (w.setCells g (L.length * 2) (List.replicate m (.int .u64 0))) g L := by
  have hs : (w.setCells g (L.length * 2) (List.replicate m (.int .u64 0))).heap.size = w.heap.size := setCells_size g _ _ w
  refine ⟨by rw [hs]; exact h.1, fun j p hj => ?_⟩
  obtain ⟨q1, q2, q3, q4⟩ := h.first.2 j p hj
  have hjl := (List.getElem?_eq_some_iff.1 hj).1
  refine ⟨?_, ?_, ?_, ?_⟩
  · rw [World.cell?_setCells_out _ _ _ _ _ (fun _ _ => .inl (by show j * 2 < _; omega))]; exact q1
  · rw [World.cell?_setCells_out _ _ _ _ _ (fun _ _ => .inl (by show j * 2 + 1 < _; omega))]; exact q2
  · rw [World.frozen?_setCells]; exact q3
  · rw [World.frozen?_setCells]; exact q4
theorem But.setCells {g : Nat} {a : World} : ∀ (vs : List Value) (o : Nat) {w : World}, But g a w → But g a (w.setCells g o vs)
  | [], _, _, h => h
  | v :: r, o, _, h => But.setCells r (o + 1) (h.setCell o v)
theorem zero_pairs (n : Nat) : (Builtin.zeroCells #[.int .u64 0, .int .u64 0] n).toList = List.replicate (n * 2) (.int .u64 0) := by
  simp [Builtin.zeroCells]
  apply List.ext_getElem
  · simp
  · intro i h1 h2
    rcases Nat.mod_two_eq_zero_or_one i with h | h <;> simp [h]
theorem Pcs.all {w : World} {g : Nat} {L : List Pr} (h : Pcs w g L) {i : Nat} (hi : i < L.length * 2) : (w.cell? ⟨g, i, none⟩).isSome = true ∧ w.frozen? ⟨g, i, none⟩ = false := by
  obtain ⟨q1, q2, q3, q4⟩ := h.at_ (show i / 2 < L.length by omega)
  rcases Nat.mod_two_eq_zero_or_one i with k | k
  · rw [show i / 2 * 2 = i by omega] at q1 q3
    exact ⟨by rw [q1]; rfl, q3⟩
  · rw [show i / 2 * 2 + 1 = i by omega] at q2 q4
    exact ⟨by rw [q2]; rfl, q4⟩
theorem run_clear_pairs (w : World) (ty : TypeId) (g o n c : Nat) (hn : 0 < n) (hc : ∀ j, j < n * 2 → (w.cell? ⟨g, o + j, none⟩).isSome = true) (hf : ∀ j, j < n * 2 → w.frozen? ⟨g, o + j, none⟩ = false) :
    (Builtin.clear_ #[22] ty #[.slice (some ⟨g, o, none⟩) n c]).run Try.prog w = .ok (.tuple #[]) (w.setCells g o (List.replicate (n * 2) (.int .u64 0))) := by
  obtain ⟨i0, hi, hz0, hz1, hz2⟩ := info_parts info_pair
  have hv : ∀ w, (zeroValue 27).run Try.prog w = .ok (.agg #[.int .u64 0, .int .u64 0]) w := fun w => by simp [zeroValue, typeInfo, hi, hz0]
  have hst := run_storeCells_cells (P := Try.prog) g o (List.replicate (n * 2) (.int .u64 0)) 0 w (by simpa using hc) (by simpa using hf) (by intro v hv'; rw [List.eq_of_mem_replicate hv']; rfl)
  simp only [Nat.add_zero] at hst
  obtain ⟨m, rfl⟩ : ∃ m, n = m + 1 := ⟨n - 1, by omega⟩
  have e1 : (Value.agg #[.int .u64 0, .int .u64 0]).cells = #[.int .u64 0, .int .u64 0] := rfl
  simp [Builtin.clear_, run_underlying Try.underlying22, hv, e1, zero_pairs, hst]

set_option maxHeartbeats 4000000 in
set_option maxRecDepth 100000 in
theorem oCompact_any (g cap : Nat) (l : List Pr) (w : World) (h : Pcs w g l) (h9 : l.length ≤ 1000000) (hlc : l.length ≤ cap) (hc9 : cap ≤ maxLen) :
    Calls Try.prog 33 #[.slice (some ⟨g, 0, none⟩) l.length cap] w fun e w' => e = .returned (.slice (some ⟨g, 0, none⟩) (kp l l.length).length cap) ∧ Prs w' w'.heap.size (.slice (some ⟨g, 0, none⟩) (kp l l.length).length cap) (kp l l.length) ∧ But g w w' := by
  obtain ⟨R, hR⟩ : ∃ R, kp l l.length = R := ⟨_, rfl⟩
  rw [hR]
  have HR := Lib.hid hR
  clear hR
  have hc9' : cap ≤ 9223372036854775807 := Nat.le_trans hc9 (by decide)
  by_cases h2 : l.length < 2
  · have hRl : R = l := by rw [← HR.out]; exact kp_one (by omega)
    subst hRl
    have hd : ((R.length : Int) < 2) = True := eq_true (by omega)
    have hP := h.prs hlc
    clear HR
    go_enter Try.func33, Try.ntmps33
    go_wp2_with fail
    go_ret
    exact ⟨rfl, hP, But.refl _ _⟩
  · have hd : ((l.length : Int) < 2) = False := eq_false (by omega)
    go_enter Try.func33, Try.ntmps33
    go_wp2_with fail
    go_loopw [3] (fun i wr => ∃ k : Nat, 1 ≤ k ∧ k ≤ l.length ∧ i = .int .i64 k ∧ kp l k = l.take k ∧ Pcs wr g l ∧ But g w wr) (fun i _ => l.length - (intOf i).toNat)
    case atStart => exact ⟨1, Nat.le_refl _, by omega, rfl, (by rw [kp_keep (by omega) (.inl rfl), List.take_succ_eq_append_getElem (by omega)]; rfl), h, But.refl _ _⟩
    case round =>
      obtain ⟨k, hk1, hk, rfl, hkp, hP, hb⟩ := hrel
      by_cases hlt : k < l.length
      · obtain ⟨j, rfl⟩ : ∃ j, k = j + 1 := ⟨k - 1, by omega⟩
        have ej : ((j + 1 : Nat) : Int) - 1 = (j : Int) := by omega
        obtain ⟨c1, c2, -, -⟩ := hP.at_ hlt
        obtain ⟨d1, d2, -, -⟩ := hP.at_ (show j < l.length by omega)
        have HT := Lib.hid (show l[j] = l[j + 1] → kp l (j + 1 + 1) = l.take (j + 1) from fun h0 => by rw [kp_skip hlt h0, hkp])
        have HN := Lib.hid (show l[j] ≠ l[j + 1] → kp l (j + 1 + 1) = l.take (j + 1 + 1) from fun h0 => by
          rw [kp_keep hlt (.inr (by rw [Nat.add_sub_cancel, List.getElem?_eq_getElem (by omega)]; intro e; injection e with e; exact h0 e)), hkp, ← List.take_succ_eq_append_getElem hlt])
        clear hkp
        generalize l[j] = p at *
        generalize l[j + 1] = q at *
        obtain ⟨p1, p2⟩ := p
        obtain ⟨q1, q2⟩ := q
        by_cases hpq : p1 = q1 ∧ p2 = q2
        · obtain ⟨rfl, rfl⟩ := hpq
          have ht := HT.out rfl
          clear HT HN
          go_wp2_with fail
          go_region
          go_wp2_with fail
          have hl1 : (kp l (j + 1 + 1)).length = j + 1 := by rw [ht, List.length_take]; omega
          have hP1 : Pcs wr g (kp l (j + 1 + 1) ++ l.drop (kp l (j + 1 + 1)).length) := by rw [hl1, ht, List.take_append_drop]; exact hP
          clear ht c1 c2 d1 d2 hP
          obtain ⟨wo, hwo⟩ : ∃ wo, wo = wr := ⟨_, rfl⟩
          subst hwo
          go_loopw [3, 5] (fun iv xv wx => ∃ x : Nat, 1 ≤ x ∧ j + 1 + x ≤ l.length ∧ iv = .int .i64 ((kp l (j + 1 + x)).length : Nat) ∧ xv = .int .i64 (x : Nat) ∧ (kp l (j + 1 + x)).length ≤ j + x ∧ Pcs wx g (kp l (j + 1 + x) ++ l.drop (kp l (j + 1 + x)).length) ∧ But g w wx) (fun _ xv _ => l.length - (intOf xv).toNat)
          case atStart => exact ⟨1, Nat.le_refl _, by omega, by rw [hl1]; go_num, rfl, by omega, hP1, hb.drew⟩
          case round =>
            obtain ⟨x, hx1, hx, rfl, rfl, hO, hPx, hbx⟩ := hrel
            clear hP1 hl1 hb
            by_cases hlx : j + 1 + x < l.length
            · obtain ⟨y, rfl⟩ : ∃ y, x = y + 1 := ⟨x - 1, by omega⟩
              have ey : ((y + 1 : Nat) : Int) - 1 = (y : Int) := by omega
              have hla : (kp l (j + 1 + (y + 1))).length < (kp l (j + 1 + (y + 1)) ++ l.drop (kp l (j + 1 + (y + 1))).length).length := by rw [List.length_append, List.length_drop]; omega
              have hal : (kp l (j + 1 + (y + 1))).length < l.length := by omega
              have hlx1 : y + 1 < l.length - (j + 1) := by omega
              obtain ⟨c1, c2, -, -⟩ := hPx.2 (j + 1 + (y + 1)) _ (room_get hlx (by omega))
              obtain ⟨d1, d2, -, -⟩ := hPx.2 (j + 1 + y) _ (room_get (by omega) (by omega))
              obtain ⟨z1, z2, f1, f2⟩ := hPx.at_ hla
              rw [show (j + 1 + (y + 1)) * 2 = (j + 1) * 2 + (y + 1) * 2 by omega] at c1 c2
              rw [show (j + 1 + y) * 2 = (j + 1) * 2 + y * 2 by omega] at d1 d2
              have HT := Lib.hid (show l[j + 1 + y] = l[j + 1 + (y + 1)] → kp l (j + 1 + (y + 1 + 1)) = kp l (j + 1 + (y + 1)) from fun h0 => kp_skip (j := j + 1 + y) hlx h0)
              have HN := Lib.hid (show l[j + 1 + y] ≠ l[j + 1 + (y + 1)] → kp l (j + 1 + (y + 1 + 1)) = kp l (j + 1 + (y + 1)) ++ [l[j + 1 + (y + 1)]] from fun h0 => kp_keep (j := j + 1 + (y + 1)) hlx (.inr (by
                rw [show j + 1 + (y + 1) - 1 = j + 1 + y by omega, List.getElem?_eq_getElem (by omega)]; intro e; injection e with e; exact h0 e)))
              have HR2 := Lib.hid (kp_room (l := l) (out := kp l (j + 1 + (y + 1))) (x := l[j + 1 + (y + 1)]) hal)
              have HPut := Lib.hid (hPx.put hla l[j + 1 + (y + 1)])
              rw [HR2.out] at HPut
              generalize (kp l (j + 1 + (y + 1)) ++ l.drop (kp l (j + 1 + (y + 1))).length)[(kp l (j + 1 + (y + 1))).length] = z at *
              generalize kp l (j + 1 + (y + 1)) = O at *
              generalize l[j + 1 + y] = p at *
              generalize l[j + 1 + (y + 1)] = q at *
              obtain ⟨p1, p2⟩ := p
              obtain ⟨q1, q2⟩ := q
              clear HR2 hla
              by_cases hpq : p1 = q1 ∧ p2 = q2
              · obtain ⟨rfl, rfl⟩ := hpq
                have ht := HT.out rfl
                clear HT HN HPut z1 z2 f1 f2
                go_wp2_with fail
                go_region
                go_wp2_with fail
                go_roundw
                case rel => exact ⟨y + 1 + 1, by omega, by omega, by rw [ht], by go_num, by rw [ht]; omega, by rw [ht]; exact hPx, hbx.drew⟩
                case measure => simp [intOf]; omega
              · by_cases h1 : q1 = p1
                · subst h1
                  have h2 : q2 ≠ p2 := fun e => hpq ⟨rfl, e.symm⟩
                  have h2a : ((q2 : Int) = (p2 : Int)) = False := eq_false (by omega)
                  have h2b : ((q2 : Int) == (p2 : Int)) = false := by rw [beq_eq_false_iff_ne]; omega
                  have ht := HN.out (by simp; intro e; exact h2 e.symm)
                  clear HT HN hpq
                  go_wp2_with fail
                  go_region
                  go_wp2_with fail
                  go_roundw
                  case rel => exact ⟨y + 1 + 1, by omega, by omega, by rw [ht, List.length_append]; go_num, by go_num, by rw [ht, List.length_append]; simp; omega, by rw [ht]; exact HPut.out, (hbx.drew.setCell _ _).setCell _ _⟩
                  case measure => simp [intOf]; omega
                · have h1a : ((q1 : Int) = (p1 : Int)) = False := eq_false (by omega)
                  have h1b : ((q1 : Int) == (p1 : Int)) = false := by rw [beq_eq_false_iff_ne]; omega
                  have ht := HN.out (by simp; intro e; exact absurd e.symm h1)
                  clear HT HN hpq
                  go_wp2_with fail
                  go_region
                  go_wp2_with fail
                  go_roundw
                  case rel => exact ⟨y + 1 + 1, by omega, by omega, by rw [ht, List.length_append]; go_num, by go_num, by rw [ht, List.length_append]; simp; omega, by rw [ht]; exact HPut.out, (hbx.drew.setCell _ _).setCell _ _⟩
                  case measure => simp [intOf]; omega
            · have hxl : j + 1 + x = l.length := by omega
              rw [hxl, HR.out] at hO hPx ⊢
              have hlx1 : ¬ x < l.length - (j + 1) := by omega
              have hlen : (R ++ l.drop R.length).length = l.length := by rw [List.length_append, List.length_drop]; omega
              have hclr := fun ty => run_clear_pairs wr ty g (R.length * 2) (l.length - R.length) (cap - R.length) (by omega) (fun t ht => (hPx.all (by omega)).1) (fun t ht => (hPx.all (by omega)).2)
              have hP2 := hPx.clear (m := (l.length - R.length) * 2)
              have hb2 := But.setCells (List.replicate ((l.length - R.length) * 2) (.int .u64 0)) (R.length * 2) hbx
              have hP3 := hP2.prs (cap := cap) (by omega)
              have hRl : R.length ≤ l.length := by omega
              clear HR hPx hP2 hlen hbx
              go_wp2_with fail
              go_ret
              exact ⟨rfl, hP3, hb2⟩
        · by_cases h1 : q1 = p1
          · subst h1
            have h2 : q2 ≠ p2 := fun e => hpq ⟨rfl, e.symm⟩
            have h2a : ((q2 : Int) = (p2 : Int)) = False := eq_false (by omega)
            have h2b : ((q2 : Int) == (p2 : Int)) = false := by rw [beq_eq_false_iff_ne]; omega
            have ht := HN.out (by simp; intro e; exact h2 e.symm)
            clear HT HN hpq
            go_wp2_with fail
            go_region
            go_wp2_with fail
            go_roundw
            case rel => exact ⟨j + 1 + 1, by omega, by omega, by go_num, ht, hP, hb.drew⟩
            case measure => simp [intOf]; omega
          · have h1a : ((q1 : Int) = (p1 : Int)) = False := eq_false (by omega)
            have h1b : ((q1 : Int) == (p1 : Int)) = false := by rw [beq_eq_false_iff_ne]; omega
            have ht := HN.out (by simp; intro e; exact absurd e.symm h1)
            clear HT HN hpq
            go_wp2_with fail
            go_region
            go_wp2_with fail
            go_roundw
            case rel => exact ⟨j + 1 + 1, by omega, by omega, by go_num, ht, hP, hb.drew⟩
            case measure => simp [intOf]; omega
      · obtain rfl : k = l.length := by omega
        rw [List.take_length] at hkp
        have hRl : R = l := by rw [← HR.out]; exact hkp
        subst hRl
        have hP2 := hP.prs hlc
        clear HR hkp
        go_wp2_with fail
        go_ret
        exact ⟨rfl, hP2, hb⟩
end Go.Proofs.Ytjjccoliknngcaa
