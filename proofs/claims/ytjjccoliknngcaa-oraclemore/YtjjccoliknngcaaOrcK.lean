/- Layer 7's Sign. -/
import Derived.Test.YtjjccoliknngcaaOrcJ
import Derived.Test.YtjjccoliknngcaaTokT
namespace Go.Proofs.Ytjjccoliknngcaa
open Go.RowKit

theorem info_tok7 : (Try.prog.info? 40).map (fun i => (i.zero, i.size, i.bytes)) = some (some (.agg #[.bool false, .slice none 0 0]), 2, 32) := by kernel_rfl
/-- The tokens that are there, and room for m more. -/
def tokRow (xs : List (Bool × Value)) (m : Nat) : List Value := xs.flatMap tokCells ++ (List.replicate m [Value.bool false, Value.slice none 0 0]).flatten
theorem two_get {α : Type} (a b : α) : ∀ (n i : Nat), i < n * 2 → (List.replicate n [a, b]).flatten[i]? = some (if i % 2 = 0 then a else b)
  | 0, i, h => by omega
  | n + 1, 0, _ => by simp [List.replicate_succ]
  | n + 1, 1, _ => by simp [List.replicate_succ]
  | n + 1, i + 2, h => by
    have := two_get a b n i (by omega)
    rw [show (i + 2) % 2 = i % 2 by omega, ← this, List.replicate_succ, List.flatten_cons]
    rfl
theorem two_length {α : Type} (a b : α) (n : Nat) : (List.replicate n [a, b]).flatten.length = n * 2 := by simp [List.length_flatten]
theorem made_toks (n : Nat) : (madeCells #[.bool false, .slice none 0 0] (n * 2)).toList = tokRow [] n := by
  apply List.ext_getElem?
  intro i
  unfold tokRow
  rw [List.flatMap_nil, List.nil_append]
  rcases Nat.lt_or_ge i (n * 2) with h | h
  · rw [two_get _ _ n i h, List.getElem?_eq_getElem (by simpa [madeCells] using h)]
    simp only [madeCells, Array.toList_map, List.getElem_map]
    rcases Nat.mod_two_eq_zero_or_one i with k | k <;> simp [k]
  · rw [List.getElem?_eq_none (by simpa [madeCells] using h), List.getElem?_eq_none (by rw [two_length]; exact h)]
theorem tokRow_cell (xs : List (Bool × Value)) (k m : Nat) (h : xs.length = k) (hm : 0 < m) : (tokRow xs m)[k * 2]? = some (.bool false) ∧ (tokRow xs m)[k * 2 + 1]? = some (.slice none 0 0) := by
  have hl : (xs.flatMap tokCells).length = k * 2 := by rw [tokCells_length, h]
  unfold tokRow
  constructor
  · rw [List.getElem?_append_right (by omega), hl, Nat.sub_self, two_get _ _ m 0 (by omega)]; rfl
  · rw [List.getElem?_append_right (by omega), hl, show k * 2 + 1 - k * 2 = 1 by omega, two_get _ _ m 1 (by omega)]; rfl
theorem tokRow_set (xs : List (Bool × Value)) (k m : Nat) (h : xs.length = k) (b : Bool) (v : Value) : ((tokRow xs (m + 1)).set (k * 2) (.bool b)).set (k * 2 + 1) v = tokRow (xs ++ [(b, v)]) m := by
  have hl : (xs.flatMap tokCells).length = k * 2 := by rw [tokCells_length, h]
  unfold tokRow
  rw [List.set_append_right _ _ (by omega), hl, Nat.sub_self, List.replicate_succ, List.flatten_cons, List.set_append_right _ _ (by omega), hl, show k * 2 + 1 - k * 2 = 1 by omega, List.flatMap_append]
  simp [tokCells]
theorem tokRow_all (xs : List (Bool × Value)) : tokRow xs 0 = xs.flatMap tokCells := by simp [tokRow]
theorem Prs.set_no {w : World} {B : Nat} {v : Value} {l : List Pr} (h : Prs w B v l) (p : Addr) (hp : ∀ m, w.cell? p ≠ some (.int .u64 m)) (u : Value) : Prs (w.setCell p u) B v l := by
  obtain ⟨A, c, hv, hc, ha⟩ := h
  refine ⟨A, c, hv, hc, fun h0 => ?_⟩
  obtain ⟨ad, e, hb, hcell⟩ := ha h0
  refine ⟨ad, e, hb, fun j s hs => ?_⟩
  obtain ⟨c1, c2⟩ := hcell j s hs
  rw [World.cell?_setCell_other _ _ _ _ (fun e => hp _ (e ▸ c1)), World.cell?_setCell_other _ _ _ _ (fun e => hp _ (e ▸ c2))]
  exact ⟨c1, c2⟩
theorem Reads.set_no {w : World} {xs : List (Bool × Value)} {ts : List Tok} (h : Reads w xs ts) (p : Addr) (hp : ∀ m, w.cell? p ≠ some (.int .u64 m)) (u : Value) : Reads (w.setCell p u) xs ts :=
  ⟨h.1, fun j x t hx ht => ⟨(h.2 j x t hx ht).1, by have := (h.2 j x t hx ht).2.set_no p hp u; simpa [World.setCell] using this⟩⟩
theorem onesOf_take (root : Nat) (ks : List Nat) (k : Nat) (h : k < ks.length) : onesOf root (ks.take (k + 1)) = onesOf root (ks.take k) ++ [(false, [(ks[k], root)])] := by
  rw [List.take_succ_eq_append_getElem h]; unfold onesOf; rw [List.map_append]; rfl
theorem ones_sign (root : Nat) (ks : List Nat) (h : ks.length ≤ 2048) : mergeT (onesOf root ks) = (0, false, signL root ks) := by
  obtain ⟨m, h1, h2, h3⟩ := ones_merge root ks h
  rw [h1, srt_unique h2 (signL_srt root ks) (h3.trans (signL_perm root ks).symm)]

set_option maxHeartbeats 4000000 in
set_option maxRecDepth 100000 in
theorem oSign_any (root : Nat) (v : Value) (ks : List Nat) (w : World) (hv : Wds w w.heap.size v ks) (_h9 : ks.length ≤ maxLen) :
    Calls Try.prog 25 #[.int .u64 root, v] w fun e w' => ∃ A c, e = .returned (.tuple #[.agg #[.bool false, .slice A (signO root ks).1.length c], .int .i64 (signO root ks).2]) ∧ Prs w' w'.heap.size (.slice A (signO root ks).1.length c) (signO root ks).1 ∧ Below w.heap.size w w' := by
  obtain ⟨i0, hi, hz0, hz1, hz2⟩ := info_parts info_tok7
  obtain ⟨A, c, rfl, hc⟩ := hv.form
  obtain ⟨RE, hRE⟩ : ∃ RE, signO root ks = RE := ⟨_, rfl⟩
  rw [hRE]
  obtain ⟨R, E⟩ := RE
  unfold signO at hRE
  by_cases hl : 2048 < ks.length
  · rw [if_pos hl] at hRE
    cases hRE
    have hd : ((2048 : Int) < (ks.length : Int)) = True := eq_true (by omega)
    go_enter Try.func25, Try.ntmps25
    go_wp2_with fail
    refine bodyPost_ret (v := .tuple #[.agg #[.bool false, .slice none 0 0], .int .i64 4]) (by simp [results, Try.results25, go_sem]) rfl ?_
    exact ⟨none, 0, rfl, Prs.nil _ _, ((Below.refl _ _).alloc (Nat.le_refl _) _)⟩
  · rw [if_neg hl] at hRE
    cases hRE
    have hd : ((2048 : Int) < (ks.length : Int)) = False := eq_false (by omega)
    obtain ⟨N, hN⟩ : ∃ N, N = ks.length := ⟨_, rfl⟩
    obtain ⟨M, hM⟩ : ∃ M, M = madeCells (Value.agg #[.bool false, .slice none 0 0]).cells (ks.length * i0.size) := ⟨_, rfl⟩
    have hMs : M.toList = tokRow [] ks.length := by rw [hM, hz1]; exact made_toks _
    have hmk : ∀ W : World, (Instr.makeSlice 70 (.int .i64 (ks.length : Int)) (.int .i64 (ks.length : Int))).run Try.prog W = .ok (.slice (some ⟨W.heap.size, 0, none⟩) ks.length ks.length) (W.alloc (.cells M 40)) := fun W => by
      have hr := run_make (P := Try.prog) W 70 40 i0 (.agg #[.bool false, .slice none 0 0]) Try.underlying70 hi hz0 .i64 .i64 (ks.length : Int) (ks.length : Int) (by omega) (by omega) (by rw [hz2]; omega) (by omega)
      rw [hM]
      simpa using hr
    clear hM hi hz0 hz1 hz2 hN
    have HMS := Lib.hid hMs
    clear hMs
    go_enter Try.func25, Try.ntmps25
    go_wp2_with fail
    have r0 := (RowAt.new w 40 #[.bool false, .slice none 0 0]).alloc (.cells M 40)
    have r1 := RowAt.new (w.alloc (.cells #[.bool false, .slice none 0 0] 40)) 40 M
    rw [World.size_alloc, HMS.out] at r1
    have b0 := ((Below.refl w.heap.size w).alloc (Nat.le_refl _) (.cells #[.bool false, .slice none 0 0] 40)).alloc (by simp) (.cells M 40)
    generalize hw0 : (w.alloc (.cells #[.bool false, .slice none 0 0] 40)).alloc (.cells M 40) = w0 at *
    have z0 : w0.heap.size = w.heap.size + 2 := by rw [← hw0]; simp only [World.size_alloc]
    clear hw0 hmk
    go_loopw [18] (fun i wr => ∃ (k : Nat) (xs : List (Bool × Value)), k ≤ ks.length ∧ i = .int .i64 k ∧ RowAt wr w.heap.size 40 [.bool false, .slice none 0 0] ∧ RowAt wr (w.heap.size + 1) 40 (tokRow xs (ks.length - k)) ∧ Reads wr xs (onesOf root (ks.take k)) ∧ Below w.heap.size w wr) (fun i _ => ks.length - (intOf i).toNat)
    case atStart => exact ⟨0, [], Nat.zero_le _, rfl, r0, r1, Reads.nil _, b0⟩
    case round =>
      obtain ⟨k, xs, hk, rfl, q0, q1, hrd, hb⟩ := hrel
      clear r0 r1 b0 z0
      have hxk : xs.length = k := by rw [hrd.1, onesOf_length, List.length_take]; omega
      by_cases hlt : k < ks.length
      · have HO := Lib.hid (onesOf_take root ks k hlt)
        obtain ⟨ad, rfl, _, hcell⟩ := (hv.below hb (Nat.le_refl _)).at_ hlt
        have hlt1 : (k < ks.length) = True := eq_true hlt
        have cW := One_new ks[k] root
        generalize ks[k] = key at *
        have HC := Lib.hid (tokRow_cell xs k (ks.length - k) hxk (by omega))
        have HS := Lib.hid (fun b v => tokRow_set xs k (ks.length - (k + 1)) hxk b v)
        rw [show ks.length - (k + 1) + 1 = ks.length - k by omega] at HS
        clear hxk
        go_wp2_with fail
        with_reducible refine (cW _).mono ?_
        rintro e w3 ⟨rfl, t3, b3⟩
        have y0 := q0.on b3
        have y1 := q1.on b3
        have rd3 : Reads w3 (xs ++ [(false, .slice (some ⟨wr.heap.size + 1, 0, none⟩) 1 1)]) (onesOf root (ks.take (k + 1))) := by rw [HO.out]; exact (hrd.on b3).append (.cons t3 (.nil _))
        have c0 : w3.cell? ⟨w.heap.size + 1, k * 2, none⟩ = some (.bool false) := (y1.cell _).trans HC.out.1
        have c1 : w3.cell? ⟨w.heap.size + 1, k * 2 + 1, none⟩ = some (.slice none 0 0) := (y1.cell _).trans HC.out.2
        have f0 := y1.frozen (k * 2)
        have f1 := y1.frozen (k * 2 + 1)
        have hb3 := hb.trans (b3.mono hb.size)
        have rd4 := rd3.set_no ⟨w.heap.size + 1, k * 2, none⟩ (fun m e => by rw [c0] at e; cases e) (.bool false)
        have c1' : (w3.setCell ⟨w.heap.size + 1, k * 2, none⟩ (.bool false)).cell? ⟨w.heap.size + 1, k * 2 + 1, none⟩ = some (.slice none 0 0) := by rw [World.cell?_setCell_other _ _ _ _ (fun e => by injection e with _ e2; omega)]; exact c1
        have rd5 := rd4.set_no ⟨w.heap.size + 1, k * 2 + 1, none⟩ (fun m e => by rw [c1'] at e; cases e) (.slice (some ⟨wr.heap.size + 1, 0, none⟩) 1 1)
        have y2 := (y1.set (k * 2) (.bool false)).set (k * 2 + 1) (.slice (some ⟨wr.heap.size + 1, 0, none⟩) 1 1)
        rw [HS.out] at y2
        have y3 := (y0.far (p := ⟨w.heap.size + 1, k * 2, none⟩) (by simp) (.bool false)).far (p := ⟨w.heap.size + 1, k * 2 + 1, none⟩) (by simp) (.slice (some ⟨wr.heap.size + 1, 0, none⟩) 1 1)
        have b5 := (hb3.setCell (p := ⟨w.heap.size + 1, k * 2, none⟩) (by simp) (.bool false)).setCell (p := ⟨w.heap.size + 1, k * 2 + 1, none⟩) (by simp) (.slice (some ⟨wr.heap.size + 1, 0, none⟩) 1 1)
        clear q0 q1 hrd hb cW hcell y0 y1 rd3 rd4 c1' t3 b3 hb3 HO HS HC
        go_wp2_with fail
        go_roundw
        case rel => exact ⟨k + 1, _, by omega, by go_num, y3, y2, rd5, b5⟩
        case measure => simp [intOf]; omega
      · obtain rfl : k = ks.length := by omega
        rw [Nat.sub_self, tokRow_all] at q1
        rw [List.take_length] at hrd
        have hR := TkRow.of q1 hrd
        rw [onesOf_length] at hR
        have cM := fun W h => Merge_eq (.slice (some ⟨w.heap.size + 1, 0, none⟩) ks.length ks.length) (onesOf root ks) W 0 false (signL root ks) (ones_sign root ks (by omega)) h (by rw [onesOf_length]; omega) (onesOf_nine root ks)
        clear q1 hrd hxk hlt
        go_wp2_with fail
        with_reducible refine (cM _ hR).mono ?_
        rintro e w3 ⟨O, oc, rfl, tM, b3⟩
        have y0 := q0.on b3
        obtain ⟨x0, x1⟩ := y0.two
        have f0 := y0.frozen 0
        have f1 := y0.frozen 1
        have hb3 := hb.trans (b3.mono hb.size)
        have P4 := tM.prs.set_no ⟨w.heap.size, 0, none⟩ (fun m e => by rw [x0] at e; cases e) (.bool false)
        have x1' : (w3.setCell ⟨w.heap.size, 0, none⟩ (.bool false)).cell? ⟨w.heap.size, 1, none⟩ = some (.slice none 0 0) := by rw [World.cell?_setCell_other _ _ _ _ (fun e => by injection e with _ e2; omega)]; exact x1
        have P5 := P4.set_no ⟨w.heap.size, 1, none⟩ (fun m e => by rw [x1'] at e; cases e) (.slice O (signL root ks).length oc)
        have y2 := (y0.set 0 (.bool false)).set 1 (.slice O (signL root ks).length oc)
        have b5 := (hb3.setCell (p := ⟨w.heap.size, 0, none⟩) (Nat.le_refl _) (.bool false)).setCell (p := ⟨w.heap.size, 1, none⟩) (Nat.le_refl _) (.slice O (signL root ks).length oc)
        obtain ⟨z0, z1⟩ := y2.two
        clear q0 hR cM tM P4 x1' hb3 b3 hb
        go_wp2_with fail
        refine bodyPost_ret (v := .tuple #[.agg #[.bool false, .slice O (signL root ks).length oc], .int .i64 0]) (by simp [results, Try.results25, go_sem, z0, z1]) rfl ?_
        exact ⟨O, oc, rfl, by simpa [World.setCell] using P5, b5⟩
end Go.Proofs.Ytjjccoliknngcaa
