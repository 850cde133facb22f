/- The document's own answers of layer 13: Prune, Of. -/
import Derived.Test.YtcamhaeelkjigaaSenC
import Derived.Maps.AppendAt
namespace Go.Proofs.Ytcamhaeelkjigaa
open Go.RowKit

set_option maxRecDepth 100000 in
theorem info_mark : (Try.prog.info? 25).map (fun i => (i.zero, i.size, i.bytes)) = some (some (.agg #[.int .i64 0, .int .i64 0, .int .i64 0]), 3, 24) := by kernel_rfl
set_option maxRecDepth 100000 in
theorem info_intM : (Try.prog.info? 3).map (fun i => (i.zero, i.size, i.bytes)) = some (some (.int .i64 0), 1, 8) := by kernel_rfl
theorem info_partsM {P : Program} {t : TypeId} {z : Value} {s b : Nat} (h : (P.info? t).map (fun i => (i.zero, i.size, i.bytes)) = some (some z, s, b)) : ∃ i, P.info? t = some i ∧ i.zero = some z ∧ i.size = s ∧ i.bytes = b := by
  cases hi : P.info? t with
  | none => rw [hi] at h; cases h
  | some i =>
    rw [hi] at h
    simp only [Option.map_some, Option.some.injEq, Prod.mk.injEq] at h
    exact ⟨i, rfl, h.1, h.2.1, h.2.2⟩
theorem ownsRow_onM {w w' : World} {base : Nat} {e : TypeId} {size n : Nat} {v : Value} {xs : List Value} (h : w.ownsRow base e size v n xs) (hb : Below w.heap.size w w') : w'.ownsRow base e size v n xs := by
  refine ⟨h.1, ?_⟩
  rcases h.2 with h0 | ⟨g, cap, cur, hv, h1, h2, h3⟩
  · exact .inl h0
  · refine .inr ⟨g, cap, cur, hv, h1, (hb.block g ?_).trans h2, h3⟩
    rcases Nat.lt_or_ge g w.heap.size with k | k
    · exact k
    · rw [Array.getElem?_eq_none k] at h2; cases h2
theorem cell_newM (w : World) (a b c : Value) (t : TypeId) : ∀ j u, [a, b, c][j]? = some u → (w.alloc (.cells #[a, b, c] t)).cell? ((⟨w.heap.size, 0, none⟩ : Addr).add j) = some u := by
  intro j u hj
  rw [addr0]
  exact ((RowAt.new w t #[a, b, c]).cell j).trans hj
theorem flat_snocM (l : List Mk) (p : Mk) : (l ++ [p]).flatMap markCells = l.flatMap markCells ++ [.int .i64 p.1, .int .i64 p.2.1, .int .i64 p.2.2] := by
  rw [List.flatMap_append]; simp [markCells]
def pruneR (e : Int) (l : List Mk) : List Mk := if rightMB l then pruneM e l else []
def ofR (e k : Int) (l : List Mk) : List Int := if rightMB l then ofM e k l else []
theorem pruneM_len (e : Int) (l : List Mk) : (pruneM e l).length ≤ l.length := List.length_filter_le _ _
theorem ofM_len (e k : Int) (l : List Mk) : (ofM e k l).length ≤ l.length := by unfold ofM; rw [List.length_map]; exact List.length_filter_le _ _
set_option maxHeartbeats 1000000 in
set_option maxRecDepth 100000 in
theorem rPrune_any (v : Value) (l : List Mk) (e : Int) (w : World) (hv : Mks w w.heap.size v l) (h9 : l.length ≤ 1000000) (L : List Mk) (hL : pruneR e l = L) :
    Calls Try.prog 18 #[v, .int .i64 e] w fun o w' => ∃ A c, o = .returned (.slice A L.length c) ∧ Mks w' w'.heap.size (.slice A L.length c) L ∧ FromOn w.heap.size (.slice A L.length c) ∧ Below w.heap.size w w' := by
  obtain ⟨A, c, rfl, hc⟩ := hv.form
  have h9' : l.length ≤ maxLen := by unfold maxLen; omega
  have cR := fun W (h : Mks W W.heap.size (.slice A l.length c) l) => rRight_any _ l W h h9'
  clear h9'
  obtain ⟨i0, hi0, hz0, hz1, hz2⟩ := info_partsM info_mark
  unfold pruneR at hL
  generalize rightMB l = rb at *
  cases rb
  · obtain rfl : [] = L := hL
    go_enter Try.func18, Try.ntmps18
    go_wp2_with fail
    with_reducible refine (cR _ hv).mono ?_
    rintro o w2 ⟨rfl, b2⟩
    go_wp2_with fail
    go_loopw [6, 7] (fun u iv wr => u = .slice none 0 0 ∧ iv = .int .i64 0 ∧ Below w2.heap.size w2 wr) (fun _ _ _ => 0)
    case atStart => exact ⟨rfl, rfl, Below.refl _ _⟩
    case round =>
      obtain ⟨rfl, rfl, hb⟩ := hrel
      go_wp2_with fail
      go_ret
      exact ⟨none, 0, rfl, Mks.nil _ _, (fun ad n c' h => by cases h), b2.trans (hb.mono b2.size)⟩
  · obtain rfl : pruneM e l = L := hL
    go_enter Try.func18, Try.ntmps18
    go_wp2_with fail
    with_reducible refine (cR _ hv).mono ?_
    rintro o w2 ⟨rfl, b2⟩
    replace hv := hv.on b2
    clear cR
    have hw := b2.size
    go_wp2_with fail
    go_loopw [6, 7] (fun u iv wr => ∃ k : Nat, k ≤ l.length ∧ iv = .int .i64 k ∧ wr.ownsRow w2.heap.size 25 3 u (pruneM e (l.take k)).length ((pruneM e (l.take k)).flatMap markCells) ∧ Below w2.heap.size w2 wr) (fun _ iv _ => l.length - (intOf iv).toNat)
    case atStart => exact ⟨0, Nat.zero_le _, rfl, World.ownsRow_nil _ _ _ _, Below.refl _ _⟩
    case round =>
      obtain ⟨k, hk, rfl, hown, hb⟩ := hrel
      have hwr := hb.size
      by_cases hlt : k < l.length
      · have g1 : ((k : Int) < (l.length : Int)) = True := eq_true (by omega)
        have g2 : (k < l.length) = True := eq_true hlt
        obtain ⟨ad, rfl, _, e1, e2, e3⟩ := (hv.below hb (Nat.le_refl _)).at_ hlt
        have HS := Lib.hid (prune_snoc e l k hlt)
        have hPl : (pruneM e (l.take k)).length ≤ k := Nat.le_trans (pruneM_len _ _) (by rw [List.length_take]; omega)
        generalize pruneM e (l.take k) = P at *
        generalize l[k] = p at *
        obtain ⟨p1, p2, p3⟩ := p
        simp only at e1 e2 e3
        by_cases he : e ≤ p1
        · have HT := Lib.hid (HS.out.trans (by rw [if_pos (show e ≤ (p1, p2, p3).1 from he)]))
          clear HS
          go_wp2_with (at_builtin; refine wpList_append_own _ rfl _ _ 22 rfl w2.heap.size 25 i0 (.agg #[.int .i64 0, .int .i64 0, .int .i64 0]) 3 24 Try.underlying22 hi0 hz0 hz1 hz2 rfl (by decide) _ _ _ rfl (hown.alloc _) ⟨wr.heap.size, 0, none⟩ 1 1 [.int .i64 p1, .int .i64 p2, .int .i64 p3] rfl rfl (cell_newM _ _ _ _ _) (by simp [Value.oneCell']) (by have : maxLen = 9223372036854775807 := rfl; omega) (by omega) (by simp; omega) ?_; intro v' w9 hown2 hgrow _)
          go_roundw
          case rel => exact ⟨k + 1, by omega, by go_num, by rw [HT.out, List.length_append, flat_snocM]; exact hown2, (hb.alloc hwr _).grown hgrow (by simp; omega) (fun j hj => (hown.lt j hj).1)⟩
          case measure => simp [intOf]; omega
        · have g3 : (e ≤ p1) = False := eq_false he
          have HT := Lib.hid (HS.out.trans (by rw [if_neg (show ¬ e ≤ (p1, p2, p3).1 from he), List.append_nil]))
          clear HS
          go_wp2_with fail
          go_roundw
          case rel => exact ⟨k + 1, by omega, by go_num, by rw [HT.out]; exact hown, hb⟩
          case measure => simp [intOf]; omega
      · obtain rfl : k = l.length := by omega
        rw [List.take_length] at hown
        have hf := fromOn_own hown
        have hm := Mks.own hown
        obtain ⟨A', c', rfl, _⟩ := hm.form
        have HM := Lib.hid hm
        clear hm hown
        go_wp2_with fail
        go_ret
        exact ⟨A', c', rfl, HM.out, hf.less hw, b2.trans (hb.mono hw)⟩
set_option maxHeartbeats 1000000 in
set_option maxRecDepth 100000 in
theorem rOf_any (v : Value) (l : List Mk) (e kd : Int) (w : World) (hv : Mks w w.heap.size v l) (h9 : l.length ≤ 1000000) (L : List Int) (hL : ofR e kd l = L) :
    Calls Try.prog 21 #[v, .int .i64 e, .int .i64 kd] w fun o w' => ∃ A c, o = .returned (.slice A L.length c) ∧ Ints w' w'.heap.size (.slice A L.length c) L ∧ FromOn w.heap.size (.slice A L.length c) ∧ Below w.heap.size w w' := by
  obtain ⟨A, c, rfl, hc⟩ := hv.form
  have h9' : l.length ≤ maxLen := by unfold maxLen; omega
  have cR := fun W (h : Mks W W.heap.size (.slice A l.length c) l) => rRight_any _ l W h h9'
  clear h9'
  obtain ⟨i0, hi0, hz0, hz1, hz2⟩ := info_partsM info_intM
  unfold ofR at hL
  generalize rightMB l = rb at *
  cases rb
  · obtain rfl : [] = L := hL
    go_enter Try.func21, Try.ntmps21
    go_wp2_with fail
    with_reducible refine (cR _ hv).mono ?_
    rintro o w2 ⟨rfl, b2⟩
    go_wp2_with fail
    go_loopw [8, 9] (fun u iv wr => u = .slice none 0 0 ∧ iv = .int .i64 0 ∧ Below w2.heap.size w2 wr) (fun _ _ _ => 0)
    case atStart => exact ⟨rfl, rfl, Below.refl _ _⟩
    case round =>
      obtain ⟨rfl, rfl, hb⟩ := hrel
      go_wp2_with fail
      go_ret
      exact ⟨none, 0, rfl, Elems.nil _ _ _, (fun ad n c' h => by cases h), b2.trans (hb.mono b2.size)⟩
  · obtain rfl : ofM e kd l = L := hL
    go_enter Try.func21, Try.ntmps21
    go_wp2_with fail
    with_reducible refine (cR _ hv).mono ?_
    rintro o w2 ⟨rfl, b2⟩
    replace hv := hv.on b2
    clear cR
    have hw := b2.size
    go_wp2_with fail
    go_loopw [8, 9] (fun u iv wr => ∃ k : Nat, k ≤ l.length ∧ iv = .int .i64 k ∧ wr.ownsRow w2.heap.size 3 1 u (ofM e kd (l.take k)).length ((ofM e kd (l.take k)).map (Value.int .i64)) ∧ Below w2.heap.size w2 wr) (fun _ iv _ => l.length - (intOf iv).toNat)
    case atStart => exact ⟨0, Nat.zero_le _, rfl, World.ownsRow_nil _ _ _ _, Below.refl _ _⟩
    case round =>
      obtain ⟨k, hk, rfl, hown, hb⟩ := hrel
      have hwr := hb.size
      by_cases hlt : k < l.length
      · have g1 : ((k : Int) < (l.length : Int)) = True := eq_true (by omega)
        have g2 : (k < l.length) = True := eq_true hlt
        obtain ⟨ad, rfl, _, e1, e2, e3⟩ := (hv.below hb (Nat.le_refl _)).at_ hlt
        have HS := Lib.hid (of_snoc e kd l k hlt)
        have hPl : (ofM e kd (l.take k)).length ≤ k := Nat.le_trans (ofM_len _ _ _) (by rw [List.length_take]; omega)
        generalize ofM e kd (l.take k) = P at *
        generalize l[k] = p at *
        obtain ⟨p1, p2, p3⟩ := p
        simp only at e1 e2 e3
        by_cases h1 : p1 = e
        · subst h1
          by_cases h2 : p2 = kd
          · subst h2
            have HT := Lib.hid (HS.out.trans (by rw [if_pos ⟨rfl, rfl⟩]))
            clear HS
            go_wp2_with (at_builtin; refine wpList_append_own _ rfl _ _ 32 rfl w2.heap.size 3 i0 (.int .i64 0) 1 8 Try.underlying32 hi0 hz0 hz1 hz2 rfl (by decide) _ _ _ rfl (hown.alloc _) ⟨wr.heap.size, 0, none⟩ 1 1 [.int .i64 p3] rfl rfl (cell_one_new _ _ _) (by simp [Value.oneCell']) (by have : maxLen = 9223372036854775807 := rfl; omega) (by omega) (by simp; omega) ?_; intro v' w9 hown2 hgrow _)
            go_roundw
            case rel => exact ⟨k + 1, by omega, by go_num, by rw [HT.out, List.length_append, List.map_append]; exact hown2, (hb.alloc hwr _).grown hgrow (by simp; omega) (fun j hj => (hown.lt j hj).1)⟩
            case measure => simp [intOf]; omega
          · have g3 : (p2 = kd) = False := eq_false h2
            have g4 : (p2 == kd) = false := by simpa using h2
            have HT := Lib.hid (HS.out.trans (by rw [if_neg (fun h => h2 h.2), List.append_nil]))
            clear HS h2
            go_wp2_with fail
            go_roundw
            case rel => exact ⟨k + 1, by omega, by go_num, by rw [HT.out]; exact hown, hb⟩
            case measure => simp [intOf]; omega
        · have g3 : (p1 = e) = False := eq_false h1
          have g4 : (p1 == e) = false := by simpa using h1
          have HT := Lib.hid (HS.out.trans (by rw [if_neg (fun h => h1 h.1), List.append_nil]))
          clear HS h1
          go_wp2_with fail
          go_roundw
          case rel => exact ⟨k + 1, by omega, by go_num, by rw [HT.out]; exact hown, hb⟩
          case measure => simp [intOf]; omega
      · obtain rfl : k = l.length := by omega
        rw [List.take_length] at hown
        have hf := fromOn_own hown
        have hm := Elems.own (enc := Value.int .i64) hown
        obtain ⟨A', c', rfl, _⟩ := hm.form
        have HM := Lib.hid hm
        clear hm hown
        go_wp2_with fail
        go_ret
        exact ⟨A', c', rfl, HM.out, hf.less hw, b2.trans (hb.mono hw)⟩
end Go.Proofs.Ytcamhaeelkjigaa
