/- oracle's unlike (a map of keys), Valid, hasEach. -/
import Derived.Test.YtjjccoliknngcaaOrcH
import Derived.Maps.OwnOps
import Derived.Maps.Views
namespace Go.Proofs.Ytjjccoliknngcaa
open Go.RowKit Go.Maps

theorem plainElem_bool_inv {H : Type} {P : Program} {e : TypeId} (he : P.underlying e = some .bool) {v : Value} {z : DataW H × List MemPlace} (h : plainElem P e v = some z) : ∃ b, v = .bool b ∧ z = (.lit (.bool b), []) := by
  unfold plainElem at h
  rw [he] at h
  cases v <;> simp at h
  exact ⟨_, rfl, h.symm⟩
/-- A look-up in a map of bools that the call made. -/
theorem wpList_lookup_own_bool {H : Type} {P : Program} (w : World) {ops : Array Oper} {rest : List Oper} {o : Oper} {a : Act} {Q : Exit → Act → World → Prop}
    (hg : o.guard = none) (m x : Operand) (t : TypeId) (hop : o.op = Op.lookup t m x false)
    (k e : TypeId) (K : Keyed P k) (ht : P.underlying t = some (.map k e)) (he : P.underlying e = some .bool) (hz : (zeroValue e).run P w = .ok (.bool false) w) (b n : Nat) (D : DataW H)
    (hm : a.eval m = .map (some b)) (hown : w.ownsMap P k (plainElem P e) b n D) (key : Value) (kl : Lit) (hx : a.eval x = key) (hkey : keyOf P k key = some kl)
    (hK : ∀ c : Bool, D.atKey kl (.lit (.bool false)) = .lit (.bool c) → wpList P ops Q rest (a.put o.dst (.bool c)) w) :
    wpList P ops Q (o :: rest) a w := by
  refine wpList_plain hg fun K' hK' => ?_
  obtain ⟨v, ps, hrun, hv⟩ := hown.lookup K ht hz (plainElem_bool he false) hkey
  obtain ⟨c, rfl, hc⟩ := plainElem_bool_inv he hv
  simp only [Prod.mk.injEq] at hc
  unfold Oper.wp
  simp [execOp, hop, hm, hx, hrun, Result.andThen]
  exact hK' _ _ (hK c hc.1)

abbrev keyL (x : Nat) : Lit := .int .u64 (x : Int)
/-- Which keys have been met, as the map has it. -/
abbrev metD (ks : List Nat) : DataW Unit := setOf (.lit (.bool true)) (ks.map keyL)
theorem isKey_int (x : Nat) : WideAt.IsKeyLit (keyL x) := by simp [WideAt.IsKeyLit]
theorem keyL_inj {a b : Nat} (h : keyL a = keyL b) : a = b := by
  injection h with _ h
  omega
theorem metD_snoc (ks : List Nat) (x : Nat) : metD (ks ++ [x]) = (metD ks).put (keyL x) (.lit (.bool true)) := by
  unfold metD
  rw [List.map_append, List.map_cons, List.map_nil, setOf_snoc]
theorem metD_isMap (ks : List Nat) : IsMap (metD ks) := (tidy_setOf _ _ fun x hx => by
  obtain ⟨k, _, rfl⟩ := List.mem_map.1 hx
  exact isKey_int k).isMap
theorem metD_at (x : Nat) (z : DataW Unit) : ∀ l : List Nat, (metD l.reverse).atKey (keyL x) z = if x ∈ l then .lit (.bool true) else z
  | [] => rfl
  | y :: l => by
    rw [List.reverse_cons, metD_snoc]
    by_cases h : x = y
    · subst h
      rw [atKey_put_same (metD_isMap _) (isKey_int _), if_pos (by simp)]
    · rw [atKey_put_other (fun e => h (keyL_inj e)), metD_at x z l]
      simp [h]
theorem metD_has (ks : List Nat) (x : Nat) (c : Bool) (h : (metD ks).atKey (keyL x) (.lit (.bool false)) = .lit (.bool c)) : c = decide (x ∈ ks) := by
  have := metD_at x (.lit (.bool false)) ks.reverse
  rw [List.reverse_reverse, h] at this
  by_cases hx : x ∈ ks
  · rw [if_pos (by simpa using hx)] at this
    injection this with e
    injection e with e
    rw [e, decide_eq_true hx]
  · rw [if_neg (by simpa using hx)] at this
    injection this with e
    injection e with e
    rw [e, decide_eq_false hx]
theorem wf_u64 {x : Nat} (h : x < 18446744073709551616) : (Lit.int .u64 (x : Int)).wf = true := by
  have e1 : IntKind.u64.min = 0 := by rfl
  have e2 : IntKind.u64.max = 18446744073709551615 := by rfl
  simp [Lit.wf, e1, e2]
  omega
theorem run_makeHint (t : TypeId) (ht : (Try.prog.underlying t).any (fun u => match u with | .map .. => true | _ => false) = true) (n : Int) (W : World) : (Instr.makeMap t (some (.int .i64 n))).run Try.prog W = .ok (.map (some W.heap.size)) (W.alloc (.map #[] 0)) := by
  cases hu : Try.prog.underlying t with
  | none => rw [hu] at ht; cases ht
  | some u =>
    rw [hu] at ht
    cases u <;> simp at ht
    simp [Instr.makeMap, run_underlying hu, asInt, go_sem]
theorem zeroBool (w : World) : (zeroValue 4).run Try.prog w = .ok (.bool false) w := by kernel_rfl

set_option maxHeartbeats 2000000 in
set_option maxRecDepth 100000 in
theorem ounlike_any (v : Value) (ks : List Nat) (w : World) (hv : Wds w w.heap.size v ks) (hf : ∀ x ∈ ks, x < 18446744073709551616) (h9 : ks.length ≤ 100000) :
    Calls Try.prog 48 #[v] w fun e w' => e = .returned (.bool (decide ks.Nodup)) ∧ Below w.heap.size w w' := by
  obtain ⟨A, c, rfl, hc⟩ := hv.form
  have hmm := run_makeHint 89 (by kernel_rfl) (ks.length : Int)
  go_enter Try.func48, Try.ntmps48
  go_wp2_with fail
  go_loopw [11] (fun i wr => ∃ k : Nat, k ≤ ks.length ∧ i = .int .i64 k ∧ (ks.take k).Nodup ∧ wr.ownsMap Try.prog 25 (plainElem Try.prog 4) w.heap.size k (metD (ks.take k)) ∧ Below w.heap.size w wr) (fun i _ => ks.length - (intOf i).toNat)
  case atStart => exact ⟨0, Nat.zero_le _, rfl, by simp, World.ownsMap_made _ _ _ _, (Below.refl _ _).alloc (Nat.le_refl _) _⟩
  case round =>
    obtain ⟨k, hk, rfl, hn, hown, hb⟩ := hrel
    by_cases hlt : k < ks.length
    · obtain ⟨ad, rfl, _, hcell⟩ := (hv.below hb (Nat.le_refl _)).at_ hlt
      have hkf := hf _ (List.getElem_mem hlt)
      have HS := Lib.hid (show metD (ks.take (k + 1)) = (metD (ks.take k)).put (keyL ks[k]) (.lit (.bool true)) by rw [List.take_succ_eq_append_getElem hlt, metD_snoc])
      have HN := Lib.hid (show ks[k] ∉ ks.take k → (ks.take (k + 1)).Nodup from fun h => by
        rw [List.take_succ_eq_append_getElem hlt, List.nodup_append]
        refine ⟨hn, by simp, fun a ha b hb e => ?_⟩
        rw [List.mem_singleton] at hb
        subst hb; subst e
        exact h ha)
      have HF := Lib.hid (show ks[k] ∈ ks.take k → decide ks.Nodup = false from fun h => by
        refine decide_eq_false fun hn => ?_
        obtain ⟨j, hj, e⟩ := List.mem_iff_getElem.1 h
        rw [List.length_take] at hj
        rw [List.getElem_take] at e
        exact List.pairwise_iff_getElem.1 hn j k (by omega) hlt (by omega) e)
      have HH := Lib.hid (metD_has (ks.take k) ks[k])
      clear hn
      generalize ks[k] = x at *
      by_cases hin : x ∈ ks.take k
      · have HF2 := Lib.hid (HF.out hin)
        clear HF HN HS
        go_wp2_with (at_lookup; refine wpList_lookup_own_bool _ rfl _ _ 89 rfl 25 4 (int_keyed Try.underlying25) Try.underlying89 Try.underlying4 (zeroBool _) w.heap.size k _ rfl hown _ _ rfl (keyOf_int_mk Try.underlying25 (wf_u64 hkf)) ?_; intro cc hat; obtain rfl : cc = true := by rw [HH.out _ hat]; exact decide_eq_true hin)
        go_ret
        refine ⟨?_, hb⟩
        rw [HF2.out]; rfl
      · have HN2 := Lib.hid (HN.out hin)
        clear HF HN
        go_wp2_with (first
          | (at_lookup; refine wpList_lookup_own_bool _ rfl _ _ 89 rfl 25 4 (int_keyed Try.underlying25) Try.underlying89 Try.underlying4 (zeroBool _) w.heap.size k _ rfl hown _ _ rfl (keyOf_int_mk Try.underlying25 (wf_u64 hkf)) ?_; intro cc hat; obtain rfl : cc = false := by rw [HH.out _ hat]; exact decide_eq_false hin)
          | (at_mapUpdate; refine wpList_mapUpdate_own _ rfl _ _ _ 89 rfl 25 4 (int_keyed Try.underlying25) Try.underlying89 _ w.heap.size k _ rfl hown (by unfold maxLen; omega) _ _ _ rfl rfl (keyOf_int_mk Try.underlying25 (wf_u64 hkf)) _ [] (plainElem_bool Try.underlying4 true) ?_; intro w1 hown1 hgrow1))
        have hb1 := hb.grown hgrow1 hb.size (fun j hj => by cases hj; exact Nat.le_refl _)
        have hown2 : w1.ownsMap Try.prog 25 (plainElem Try.prog 4) w.heap.size (k + 1) (metD (ks.take (k + 1))) := by rw [HS.out]; exact hown1
        clear hown1 hown hgrow1 hb HS
        go_wp2_with fail
        go_roundw
        case rel => exact ⟨k + 1, by omega, by go_num, HN2.out, hown2, hb1⟩
        case measure => simp [intOf]; omega
    · obtain rfl : k = ks.length := by omega
      rw [List.take_length] at hn
      have HN := Lib.hid (decide_eq_true hn)
      clear hn
      go_wp2_with fail
      go_ret
      refine ⟨?_, hb⟩
      rw [HN.out]; rfl
end Go.Proofs.Ytjjccoliknngcaa
