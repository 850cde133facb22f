/- Layer 7's Sign.
   Layer 7's signed, Check and All.
   Layer 7's All.
   Layer 7: a row of pairs that is one's own; slices.Compact of pairs. -/
import Derived.Test.YtjjccoliknngcaaOrcJ
import Derived.Test.YtjjccoliknngcaaTokT
import Derived.Lib.SliceRun
namespace Go.Proofs.Ytjjccoliknngcaa
open Go.RowKit

theorem info_tok7 : (Try.prog.info? 40).map (fun i => (i.zero, i.size, i.bytes)) = some (some (.agg #[.bool false, .slice none 0 0]), 2, 32) := by kernel_rfl
/-- The tokens that are there, and room for m more. -/
def tokRow (xs : List (Bool × Value)) (m : Nat) : List Value := xs.flatMap tokCells ++ (List.replicate m [Value.bool false, Value.slice none 0 0]).flatten
theorem two_get {α : Type} (a b : α) : ∀ (n i : Nat), i < n * 2 → (List.replicate n [a, b]).flatten[i]? = some (if i % 2 = 0 then a else b)
  | 0, i, h => by omega
  | n + 1, 0, _ => by simp [List.replicate_succ]
  | n + 1, 1, _ => by simp [List.replicate_succ]
  | n + 1, i + 2, h => by
    have := two_get a b n i (by omega)
    rw [show (i + 2) % 2 = i % 2 by omega, ← this, List.replicate_succ, List.flatten_cons]
    rfl
theorem two_length {α : Type} (a b : α) (n : Nat) : (List.replicate n [a, b]).flatten.length = n * 2 := by simp [List.length_flatten]
theorem made_toks (n : Nat) : (madeCells #[.bool false, .slice none 0 0] (n * 2)).toList = tokRow [] n := by
  apply List.ext_getElem?
  intro i
  unfold tokRow
  rw [List.flatMap_nil, List.nil_append]
  rcases Nat.lt_or_ge i (n * 2) with h | h
  · rw [two_get _ _ n i h, List.getElem?_eq_getElem (by simpa [madeCells] using h)]
    simp only [madeCells, Array.toList_map, List.getElem_map]
    rcases Nat.mod_two_eq_zero_or_one i with k | k <;> simp [k]
  · rw [List.getElem?_eq_none (by simpa [madeCells] using h), List.getElem?_eq_none (by rw [two_length]; exact h)]
theorem tokRow_cell (xs : List (Bool × Value)) (k m : Nat) (h : xs.length = k) (hm : 0 < m) : (tokRow xs m)[k * 2]? = some (.bool false) ∧ (tokRow xs m)[k * 2 + 1]? = some (.slice none 0 0) := by
  have hl : (xs.flatMap tokCells).length = k * 2 := by rw [tokCells_length, h]
  unfold tokRow
  constructor
  · rw [List.getElem?_append_right (by omega), hl, Nat.sub_self, two_get _ _ m 0 (by omega)]; rfl
  · rw [List.getElem?_append_right (by omega), hl, show k * 2 + 1 - k * 2 = 1 by omega, two_get _ _ m 1 (by omega)]; rfl
theorem tokRow_set (xs : List (Bool × Value)) (k m : Nat) (h : xs.length = k) (b : Bool) (v : Value) : ((tokRow xs (m + 1)).set (k * 2) (.bool b)).set (k * 2 + 1) v = tokRow (xs ++ [(b, v)]) m := by
  have hl : (xs.flatMap tokCells).length = k * 2 := by rw [tokCells_length, h]
  unfold tokRow
  rw [List.set_append_right _ _ (by omega), hl, Nat.sub_self, List.replicate_succ, List.flatten_cons, List.set_append_right _ _ (by omega), hl, show k * 2 + 1 - k * 2 = 1 by omega, List.flatMap_append]
  simp [tokCells]
theorem tokRow_all (xs : List (Bool × Value)) : tokRow xs 0 = xs.flatMap tokCells := by simp [tokRow]
theorem Prs.set_no {w : World} {B : Nat} {v : Value} {l : List Pr} (h : Prs w B v l) (p : Addr) (hp : ∀ m, w.cell? p ≠ some (.int .u64 m)) (u : Value) : Prs (w.setCell p u) B v l := by
  obtain ⟨A, c, hv, hc, ha⟩ := h
  refine ⟨A, c, hv, hc, fun h0 => ?_⟩
  obtain ⟨ad, e, hb, hcell⟩ := ha h0
  refine ⟨ad, e, hb, fun j s hs => ?_⟩
  obtain ⟨c1, c2⟩ := hcell j s hs
  rw [World.cell?_setCell_other _ _ _ _ (fun e => hp _ (e ▸ c1)), World.cell?_setCell_other _ _ _ _ (fun e => hp _ (e ▸ c2))]
  exact ⟨c1, c2⟩
theorem Reads.set_no {w : World} {xs : List (Bool × Value)} {ts : List Tok} (h : Reads w xs ts) (p : Addr) (hp : ∀ m, w.cell? p ≠ some (.int .u64 m)) (u : Value) : Reads (w.setCell p u) xs ts :=
  ⟨h.1, fun j x t hx ht => ⟨(h.2 j x t hx ht).1, by have := (h.2 j x t hx ht).2.set_no p hp u; simpa [World.setCell] using this⟩⟩
theorem onesOf_take (root : Nat) (ks : List Nat) (k : Nat) (h : k < ks.length) : onesOf root (ks.take (k + 1)) = onesOf root (ks.take k) ++ [(false, [(ks[k], root)])] := by
  rw [List.take_succ_eq_append_getElem h]; unfold onesOf; rw [List.map_append]; rfl
theorem ones_sign (root : Nat) (ks : List Nat) (h : ks.length ≤ 2048) : mergeT (onesOf root ks) = (0, false, signL root ks) := by
  obtain ⟨m, h1, h2, h3⟩ := ones_merge root ks h
  rw [h1, srt_unique h2 (signL_srt root ks) (h3.trans (signL_perm root ks).symm)]

set_option maxHeartbeats 4000000 in
set_option maxRecDepth 100000 in
theorem oSign_any (root : Nat) (v : Value) (ks : List Nat) (w : World) (hv : Wds w w.heap.size v ks) (_h9 : ks.length ≤ maxLen) :
    Calls Try.prog 25 #[.int .u64 root, v] w fun e w' => ∃ A c, e = .returned (.tuple #[.agg #[.bool false, .slice A (signO root ks).1.length c], .int .i64 (signO root ks).2]) ∧ Prs w' w'.heap.size (.slice A (signO root ks).1.length c) (signO root ks).1 ∧ Below w.heap.size w w' := by
  obtain ⟨i0, hi, hz0, hz1, hz2⟩ := info_parts info_tok7
  obtain ⟨A, c, rfl, hc⟩ := hv.form
  obtain ⟨RE, hRE⟩ : ∃ RE, signO root ks = RE := ⟨_, rfl⟩
  rw [hRE]
  obtain ⟨R, E⟩ := RE
  unfold signO at hRE
  by_cases hl : 2048 < ks.length
  · rw [if_pos hl] at hRE
    cases hRE
    have hd : ((2048 : Int) < (ks.length : Int)) = True := eq_true (by omega)
    go_enter Try.func25, Try.ntmps25
    go_wp2_with fail
    refine bodyPost_ret (v := .tuple #[.agg #[.bool false, .slice none 0 0], .int .i64 4]) (by simp [results, Try.results25, go_sem]) rfl ?_
    exact ⟨none, 0, rfl, Prs.nil _ _, ((Below.refl _ _).alloc (Nat.le_refl _) _)⟩
  · rw [if_neg hl] at hRE
    cases hRE
    have hd : ((2048 : Int) < (ks.length : Int)) = False := eq_false (by omega)
    obtain ⟨N, hN⟩ : ∃ N, N = ks.length := ⟨_, rfl⟩
    obtain ⟨M, hM⟩ : ∃ M, M = madeCells (Value.agg #[.bool false, .slice none 0 0]).cells (ks.length * i0.size) := ⟨_, rfl⟩
    have hMs : M.toList = tokRow [] ks.length := by rw [hM, hz1]; exact made_toks _
    have hmk : ∀ W : World, (Instr.makeSlice 70 (.int .i64 (ks.length : Int)) (.int .i64 (ks.length : Int))).run Try.prog W = .ok (.slice (some ⟨W.heap.size, 0, none⟩) ks.length ks.length) (W.alloc (.cells M 40)) := fun W => by
      have hr := run_make (P := Try.prog) W 70 40 i0 (.agg #[.bool false, .slice none 0 0]) Try.underlying70 hi hz0 .i64 .i64 (ks.length : Int) (ks.length : Int) (by omega) (by omega) (by rw [hz2]; omega) (by omega)
      rw [hM]
      simpa using hr
    clear hM hi hz0 hz1 hz2 hN
    have HMS := Lib.hid hMs
    clear hMs
    go_enter Try.func25, Try.ntmps25
    go_wp2_with fail
    have r0 := (RowAt.new w 40 #[.bool false, .slice none 0 0]).alloc (.cells M 40)
    have r1 := RowAt.new (w.alloc (.cells #[.bool false, .slice none 0 0] 40)) 40 M
    rw [World.size_alloc, HMS.out] at r1
    have b0 := ((Below.refl w.heap.size w).alloc (Nat.le_refl _) (.cells #[.bool false, .slice none 0 0] 40)).alloc (by simp) (.cells M 40)
    generalize hw0 : (w.alloc (.cells #[.bool false, .slice none 0 0] 40)).alloc (.cells M 40) = w0 at *
    have z0 : w0.heap.size = w.heap.size + 2 := by rw [← hw0]; simp only [World.size_alloc]
    clear hw0 hmk
    go_loopw [18] (fun i wr => ∃ (k : Nat) (xs : List (Bool × Value)), k ≤ ks.length ∧ i = .int .i64 k ∧ RowAt wr w.heap.size 40 [.bool false, .slice none 0 0] ∧ RowAt wr (w.heap.size + 1) 40 (tokRow xs (ks.length - k)) ∧ Reads wr xs (onesOf root (ks.take k)) ∧ Below w.heap.size w wr) (fun i _ => ks.length - (intOf i).toNat)
    case atStart => exact ⟨0, [], Nat.zero_le _, rfl, r0, r1, Reads.nil _, b0⟩
    case round =>
      obtain ⟨k, xs, hk, rfl, q0, q1, hrd, hb⟩ := hrel
      clear r0 r1 b0 z0
      have hxk : xs.length = k := by rw [hrd.1, onesOf_length, List.length_take]; omega
      by_cases hlt : k < ks.length
      · have HO := Lib.hid (onesOf_take root ks k hlt)
        obtain ⟨ad, rfl, _, hcell⟩ := (hv.below hb (Nat.le_refl _)).at_ hlt
        have hlt1 : (k < ks.length) = True := eq_true hlt
        have cW := One_new ks[k] root
        generalize ks[k] = key at *
        have HC := Lib.hid (tokRow_cell xs k (ks.length - k) hxk (by omega))
        have HS := Lib.hid (fun b v => tokRow_set xs k (ks.length - (k + 1)) hxk b v)
        rw [show ks.length - (k + 1) + 1 = ks.length - k by omega] at HS
        clear hxk
        go_wp2_with fail
        with_reducible refine (cW _).mono ?_
        rintro e w3 ⟨rfl, t3, b3⟩
        have y0 := q0.on b3
        have y1 := q1.on b3
        have rd3 : Reads w3 (xs ++ [(false, .slice (some ⟨wr.heap.size + 1, 0, none⟩) 1 1)]) (onesOf root (ks.take (k + 1))) := by rw [HO.out]; exact (hrd.on b3).append (.cons t3 (.nil _))
        have c0 : w3.cell? ⟨w.heap.size + 1, k * 2, none⟩ = some (.bool false) := (y1.cell _).trans HC.out.1
        have c1 : w3.cell? ⟨w.heap.size + 1, k * 2 + 1, none⟩ = some (.slice none 0 0) := (y1.cell _).trans HC.out.2
        have f0 := y1.frozen (k * 2)
        have f1 := y1.frozen (k * 2 + 1)
        have hb3 := hb.trans (b3.mono hb.size)
        have rd4 := rd3.set_no ⟨w.heap.size + 1, k * 2, none⟩ (fun m e => by rw [c0] at e; cases e) (.bool false)
        have c1' : (w3.setCell ⟨w.heap.size + 1, k * 2, none⟩ (.bool false)).cell? ⟨w.heap.size + 1, k * 2 + 1, none⟩ = some (.slice none 0 0) := by rw [World.cell?_setCell_other _ _ _ _ (fun e => by injection e with _ e2; omega)]; exact c1
        have rd5 := rd4.set_no ⟨w.heap.size + 1, k * 2 + 1, none⟩ (fun m e => by rw [c1'] at e; cases e) (.slice (some ⟨wr.heap.size + 1, 0, none⟩) 1 1)
        have y2 := (y1.set (k * 2) (.bool false)).set (k * 2 + 1) (.slice (some ⟨wr.heap.size + 1, 0, none⟩) 1 1)
        rw [HS.out] at y2
        have y3 := (y0.far (p := ⟨w.heap.size + 1, k * 2, none⟩) (by simp) (.bool false)).far (p := ⟨w.heap.size + 1, k * 2 + 1, none⟩) (by simp) (.slice (some ⟨wr.heap.size + 1, 0, none⟩) 1 1)
        have b5 := (hb3.setCell (p := ⟨w.heap.size + 1, k * 2, none⟩) (by simp) (.bool false)).setCell (p := ⟨w.heap.size + 1, k * 2 + 1, none⟩) (by simp) (.slice (some ⟨wr.heap.size + 1, 0, none⟩) 1 1)
        clear q0 q1 hrd hb cW hcell y0 y1 rd3 rd4 c1' t3 b3 hb3 HO HS HC
        go_wp2_with fail
        go_roundw
        case rel => exact ⟨k + 1, _, by omega, by go_num, y3, y2, rd5, b5⟩
        case measure => simp [intOf]; omega
      · obtain rfl : k = ks.length := by omega
        rw [Nat.sub_self, tokRow_all] at q1
        rw [List.take_length] at hrd
        have hR := TkRow.of q1 hrd
        rw [onesOf_length] at hR
        have cM := fun W h => Merge_eq (.slice (some ⟨w.heap.size + 1, 0, none⟩) ks.length ks.length) (onesOf root ks) W 0 false (signL root ks) (ones_sign root ks (by omega)) h (by rw [onesOf_length]; omega) (onesOf_nine root ks)
        clear q1 hrd hxk hlt
        go_wp2_with fail
        with_reducible refine (cM _ hR).mono ?_
        rintro e w3 ⟨O, oc, rfl, tM, b3⟩
        have y0 := q0.on b3
        obtain ⟨x0, x1⟩ := y0.two
        have f0 := y0.frozen 0
        have f1 := y0.frozen 1
        have hb3 := hb.trans (b3.mono hb.size)
        have P4 := tM.prs.set_no ⟨w.heap.size, 0, none⟩ (fun m e => by rw [x0] at e; cases e) (.bool false)
        have x1' : (w3.setCell ⟨w.heap.size, 0, none⟩ (.bool false)).cell? ⟨w.heap.size, 1, none⟩ = some (.slice none 0 0) := by rw [World.cell?_setCell_other _ _ _ _ (fun e => by injection e with _ e2; omega)]; exact x1
        have P5 := P4.set_no ⟨w.heap.size, 1, none⟩ (fun m e => by rw [x1'] at e; cases e) (.slice O (signL root ks).length oc)
        have y2 := (y0.set 0 (.bool false)).set 1 (.slice O (signL root ks).length oc)
        have b5 := (hb3.setCell (p := ⟨w.heap.size, 0, none⟩) (Nat.le_refl _) (.bool false)).setCell (p := ⟨w.heap.size, 1, none⟩) (Nat.le_refl _) (.slice O (signL root ks).length oc)
        obtain ⟨z0, z1⟩ := y2.two
        clear q0 hR cM tM P4 x1' hb3 b3 hb
        go_wp2_with fail
        refine bodyPost_ret (v := .tuple #[.agg #[.bool false, .slice O (signL root ks).length oc], .int .i64 0]) (by simp [results, Try.results25, go_sem, z0, z1]) rfl ?_
        exact ⟨O, oc, rfl, by simpa [World.setCell] using P5, b5⟩
end Go.Proofs.Ytjjccoliknngcaa

namespace Go.Proofs.Ytjjccoliknngcaa
open Go.RowKit

/-- Whether an item's token is the one of its keys and root. -/
def signedO (ks : List Nat) (r : Nat) (f : Bool) (l : List Pr) : Bool := !ks.isEmpty && !f && decide (ks.length ≤ 2048) && decide ks.Nodup && decide (l = signL r ks)
theorem check_parts (t : List Pr) (ks : List Nat) (r : Nat) (f : Bool) (l : List Pr) : checkO t ks r f l = (rightO t && signedO ks r f l && l.all fun p => decide (p ∈ t)) := by
  unfold checkO signedO
  cases rightO t <;> cases ks.isEmpty <;> cases f <;> cases (decide (ks.length ≤ 2048)) <;> cases (decide ks.Nodup) <;> simp

set_option maxHeartbeats 4000000 in
set_option maxRecDepth 100000 in
theorem oSigned_any (K P : Option Addr) (kc pc : Nat) (ks : List Nat) (root : Nat) (f : Bool) (l : List Pr) (w : World) (hK : Wds w w.heap.size (.slice K ks.length kc) ks) (hP : Prs w w.heap.size (.slice P l.length pc) l)
    (hfit : ∀ x ∈ ks, x < 18446744073709551616) (h9k : ks.length ≤ 100000) (h9l : l.length ≤ 100000) :
    Calls Try.prog 40 #[.agg #[.slice K ks.length kc, .int .u64 root, .bool f, .slice P l.length pc]] w fun e w' => e = .returned (.bool (signedO ks root f l)) ∧ Below w.heap.size w w' := by
  obtain ⟨X, hX⟩ : ∃ X, signedO ks root f l = X := ⟨_, rfl⟩
  rw [hX]
  have HX := Lib.hid hX
  clear hX
  have r0 := RowAt.new w 44 #[.slice K ks.length kc, .int .u64 root, .bool f, .slice P l.length pc]
  have b0 := (Below.refl w.heap.size w).alloc (Nat.le_refl _) (.cells #[.slice K ks.length kc, .int .u64 root, .bool f, .slice P l.length pc] 44)
  by_cases h0 : ks.length = 0
  · have hXf : X = false := by rw [← HX.out]; obtain rfl := List.eq_nil_of_length_eq_zero h0; simp [signedO]
    subst hXf
    have h0' : ((ks.length : Int) == 0) = true := by simp [h0]
    clear h0 HX
    go_enter Try.func40, Try.ntmps40
    go_wp2_with fail
    generalize w.alloc (.cells #[.slice K ks.length kc, .int .u64 root, .bool f, .slice P l.length pc] 44) = w0 at *
    obtain ⟨x0, x1, x2, x3⟩ := r0.four
    go_wp2_with fail
    go_ret
    exact ⟨rfl, b0⟩
  · have h0' : ((ks.length : Int) == 0) = false := by rw [beq_eq_false_iff_ne]; omega
    have hne : ks.isEmpty = false := by cases ks; exact absurd rfl h0; rfl
    cases f
    · have cS := fun W hW => oSign_any root (.slice K ks.length kc) ks W hW (Nat.le_trans h9k (by decide))
      by_cases hl : 2048 < ks.length
      · have hXf : X = false := by rw [← HX.out]; simp [signedO, show ¬ ks.length ≤ 2048 by omega]
        subst hXf
        have e1 : signO root ks = ([], 4) := if_pos hl
        rw [e1] at cS
        clear HX e1 h0 hl hne
        go_enter Try.func40, Try.ntmps40
        go_wp2_with fail
        have hK0 := (hK.below b0 (Nat.le_refl _)).more b0.size
        generalize w.alloc (.cells #[.slice K ks.length kc, .int .u64 root, .bool false, .slice P l.length pc] 44) = w0 at *
        obtain ⟨x0, x1, x2, x3⟩ := r0.four
        go_wp2_with fail
        with_reducible refine (cS _ hK0).mono ?_
        rintro e w3 ⟨S, sc, rfl, hS, b3⟩
        have B3 := b0.trans (b3.mono b0.size)
        have B4 := B3.alloc B3.size (.cells #[.bool false, .slice S ([] : List Pr).length sc] 40)
        simp only [List.length_nil] at *
        clear x0 x1 x2 x3 cS
        go_wp2_with fail
        go_ret
        exact ⟨rfl, B4⟩
      · have e1 : signO root ks = (signL root ks, 0) := if_neg hl
        rw [e1] at cS
        have hXX : X = (decide ks.Nodup && decide (l = signL root ks)) := by rw [← HX.out]; simp [signedO, hne, show ks.length ≤ 2048 by omega]
        have HLR := Lib.hid (signL_length root ks)
        subst hXX
        clear HX e1 h0 hne
        simp only at cS
        generalize signL root ks = R at *
        go_enter Try.func40, Try.ntmps40
        go_wp2_with fail
        have hK0 := (hK.below b0 (Nat.le_refl _)).more b0.size
        have hP0 := (hP.below b0 (Nat.le_refl _)).more b0.size
        generalize w.alloc (.cells #[.slice K ks.length kc, .int .u64 root, .bool false, .slice P l.length pc] 44) = w0 at *
        obtain ⟨x0, x1, x2, x3⟩ := r0.four
        go_wp2_with fail
        with_reducible refine (cS _ hK0).mono ?_
        rintro e w3 ⟨S, sc, rfl, hS, b3⟩
        have B3 := b0.trans (b3.mono b0.size)
        clear x0 x1 x2 x3 cS
        go_upto_region 4 with (fail)
        have q0 := (r0.on b3).alloc (.cells #[.bool false, .slice S R.length sc] 40)
        have q1 := RowAt.new w3 40 #[.bool false, .slice S R.length sc]
        have b4 := (Below.refl w3.heap.size w3).alloc (Nat.le_refl _) (.cells #[.bool false, .slice S R.length sc] 40)
        have hS4 := hS.on b4
        have B4 := B3.trans (b4.mono B3.size)
        have hP4 := (hP.below B4 (Nat.le_refl _)).more B4.size
        have hK4 := (hK.below B4 (Nat.le_refl _)).more B4.size
        clear B3 b4 hS hK0 hP0
        generalize w3.heap.size = g at *
        generalize w3.alloc (.cells #[.bool false, .slice S R.length sc] 40) = w4 at *
        obtain ⟨x0, x1, x2, x3⟩ := q0.four
        obtain ⟨y0, y1⟩ := q1.two
        have cU := ounlike_any (.slice K ks.length kc) ks w4 hK4 hfit h9k
        obtain ⟨nd, hnd⟩ : ∃ nd, decide ks.Nodup = nd := ⟨_, rfl⟩
        rw [hnd] at cU
        have HND := Lib.hid hnd
        clear hnd
        go_wp2_with fail
        with_reducible refine cU.mono ?_
        rintro e w5 ⟨rfl, b5⟩
        have B5 := B4.trans (b5.mono B4.size)
        have q0' := q0.on b5
        have q1' := q1.on b5
        have cE := oEqual_any (.slice P l.length pc) (.slice S R.length sc) l R w5 (hP4.on b5) (hS4.on b5) (by omega) (by have := HLR.out; omega)
        clear x0 x1 x2 x3 y0 y1 cU b5 hP4 hS4 hK4 q0 q1
        obtain ⟨x0, x1, x2, x3⟩ := q0'.four
        obtain ⟨y0, y1⟩ := q1'.two
        obtain ⟨eq, heq⟩ : ∃ eq, decide (l = R) = eq := ⟨_, rfl⟩
        rw [heq] at cE
        have HEQ := Lib.hid heq
        clear heq
        cases nd
        · go_wp2_with fail
          go_ret
          exact ⟨by rw [HND.out]; rfl, B5⟩
        · go_wp2_with fail
          with_reducible refine cE.mono ?_
          rintro e w6 ⟨rfl, b6⟩
          have B6 := B5.trans (b6.mono B5.size)
          go_wp2_with fail
          go_ret
          exact ⟨by rw [HND.out, HEQ.out]; rfl, B6⟩
    · have hXf : X = false := by rw [← HX.out]; simp [signedO]
      subst hXf
      clear h0 HX hne
      go_enter Try.func40, Try.ntmps40
      go_wp2_with fail
      generalize w.alloc (.cells #[.slice K ks.length kc, .int .u64 root, .bool true, .slice P l.length pc] 44) = w0 at *
      obtain ⟨x0, x1, x2, x3⟩ := r0.four
      go_wp2_with fail
      go_ret
      exact ⟨rfl, b0⟩

set_option maxHeartbeats 4000000 in
set_option maxRecDepth 100000 in
theorem oCheck_any (v : Value) (t : List Pr) (K P : Option Addr) (kc pc : Nat) (ks : List Nat) (root : Nat) (f : Bool) (l : List Pr) (w : World) (hv : Prs w w.heap.size v t) (hK : Wds w w.heap.size (.slice K ks.length kc) ks) (hP : Prs w w.heap.size (.slice P l.length pc) l)
    (hfit : ∀ x ∈ ks, x < 18446744073709551616) (h9 : t.length ≤ 100000) (h9k : ks.length ≤ 100000) (h9l : l.length ≤ 100000) :
    Calls Try.prog 21 #[v, .agg #[.slice K ks.length kc, .int .u64 root, .bool f, .slice P l.length pc]] w fun e w' => e = .returned (.bool (checkO t ks root f l)) ∧ Below w.heap.size w w' := by
  obtain ⟨A, c, rfl, hc⟩ := hv.form
  rw [check_parts]
  have r0 := RowAt.new w 44 #[.slice K ks.length kc, .int .u64 root, .bool f, .slice P l.length pc]
  have b0 := (Below.refl w.heap.size w).alloc (Nat.le_refl _) (.cells #[.slice K ks.length kc, .int .u64 root, .bool f, .slice P l.length pc] 44)
  have hv0 := (hv.below b0 (Nat.le_refl _)).more b0.size
  have cR := fun W hW => oRight_any (.slice A t.length c) t W hW (by omega)
  have cS := fun W h1 h2 => oSigned_any K P kc pc ks root f l W h1 h2 hfit h9k h9l
  have cH := fun hr W h1 h2 => ohasEach_any (.slice A t.length c) (.slice P l.length pc) t l W h1 h2 hr (by omega) (by omega)
  have HR := Lib.hid (fun h => ((rightO_iff t).1 h).2)
  generalize signedO ks root f l = sb at *
  generalize (l.all fun p => decide (p ∈ t)) = ab at *
  generalize rightO t = rb at *
  go_enter Try.func21, Try.ntmps21
  go_wp2_with fail
  generalize w.alloc (.cells #[.slice K ks.length kc, .int .u64 root, .bool f, .slice P l.length pc] 44) = w0 at *
  with_reducible refine (cR _ hv0).mono ?_
  rintro e w1 ⟨rfl, b1⟩
  have B1 := b0.trans (b1.mono b0.size)
  have q1 := r0.on b1
  clear cR r0
  cases rb
  · go_wp2_with fail
    go_ret
    exact ⟨rfl, B1⟩
  · have hr := HR.out rfl
    have hK1 := (hK.below B1 (Nat.le_refl _)).more B1.size
    have hP1 := (hP.below B1 (Nat.le_refl _)).more B1.size
    obtain ⟨x0, x1, x2, x3⟩ := q1.four
    have cH := cH hr
    clear hr HR
    go_wp2_with fail
    with_reducible refine (cS _ hK1 hP1).mono ?_
    rintro e w2 ⟨rfl, b2⟩
    have B2 := B1.trans (b2.mono B1.size)
    have q2 := q1.on b2
    clear x0 x1 x2 x3 cS
    obtain ⟨x0, x1, x2, x3⟩ := q2.four
    cases sb
    · go_wp2_with fail
      go_ret
      exact ⟨rfl, B2⟩
    · have hv2 := (hv.below B2 (Nat.le_refl _)).more B2.size
      have hP2 := (hP.below B2 (Nat.le_refl _)).more B2.size
      go_wp2_with fail
      with_reducible refine (cH _ hv2 hP2).mono ?_
      rintro e w3 ⟨rfl, b3⟩
      have B3 := B2.trans (b3.mono B2.size)
      go_wp2_with fail
      go_ret
      exact ⟨rfl, B3⟩
end Go.Proofs.Ytjjccoliknngcaa

namespace Go.Proofs.Ytjjccoliknngcaa
open Go.RowKit

set_option maxHeartbeats 2000000 in
theorem oAll_any (v u : Value) (t : List Pr) (is : List Itm) (w : World) (hv : Prs w w.heap.size v t) (hu : ItRow w u is) (h9 : t.length ≤ 100000) (hs : Short is) (hfit : ∀ i ∈ is, ∀ x ∈ i.ks, x < 18446744073709551616) :
    Calls Try.prog 23 #[v, u] w fun e w' => e = .returned (.bool (is.all (Itm.ok t))) ∧ Below w.heap.size w w' := by
  obtain ⟨A, c, rfl, hc⟩ := hv.form
  obtain ⟨B, d, rfl, hd⟩ := hu.form
  have h1000 := hs.1
  obtain ⟨X, hX⟩ : ∃ X, is.all (Itm.ok t) = X := ⟨_, rfl⟩
  rw [hX]
  have HX := Lib.hid hX
  clear hX
  go_enter Try.func23, Try.ntmps23
  go_wp2_with fail
  go_loopw [9] (fun i wr => ∃ k : Nat, k ≤ is.length ∧ i = .int .i64 k ∧ (∀ x (hx : x < k) (hk : x < is.length), Itm.ok t is[x] = true) ∧ Below w.heap.size w wr) (fun i _ => is.length - (intOf i).toNat)
  case atStart => exact ⟨0, Nat.zero_le _, rfl, fun x hx => by omega, Below.refl _ _⟩
  case round =>
    obtain ⟨k, hk, rfl, hd, hb⟩ := hrel
    by_cases hlk : k < is.length
    · obtain ⟨ad, rfl, K, P, kc, pc, c0, c1, c2, c3, qk, qp⟩ := (hu.on hb).read hlk
      have hsh := hs.2 _ (List.getElem_mem hlk)
      have ba := (Below.refl wr.heap.size wr).alloc (Nat.le_refl _) (.cells #[.slice K is[k].ks.length kc, .int .u64 is[k].root, .bool is[k].f, .slice P is[k].l.length pc] 44)
      have cC := oCheck_any _ t K P kc pc _ is[k].root is[k].f _ _ ((hv.on hb).on ba) (qk.on ba) (qp.on ba) (hfit _ (List.getElem_mem hlk)) h9 hsh.1 hsh.2
      have HD := Lib.hid (show Itm.ok t is[k] = true → ∀ x (hx : x < k + 1) (hk : x < is.length), Itm.ok t is[x] = true from fun h x hx hxl => by
        by_cases e : x = k
        · subst e; exact h
        · exact hd x (by omega) hxl)
      have HF := Lib.hid (show Itm.ok t is[k] = false → X = false from fun h => by
        rw [← HX.out, List.all_eq_false]
        exact ⟨_, List.getElem_mem hlk, by rw [h]; simp⟩)
      have e : checkO t is[k].ks is[k].root is[k].f is[k].l = Itm.ok t is[k] := rfl
      rw [e] at cC
      clear e
      generalize Itm.ok t is[k] = vb at *
      clear hd hsh qk qp
      generalize is[k].ks.length = m1 at *
      generalize is[k].l.length = m2 at *
      generalize is[k].root = m3 at *
      generalize is[k].f = m4 at *
      go_wp2_with fail
      with_reducible refine cC.mono ?_
      rintro e w7 ⟨rfl, b7⟩
      have hb7 := hb.trans ((ba.trans (b7.mono ba.size)).mono hb.size)
      clear cC c0 c1 c2 c3 b7 ba
      cases vb
      · have hXf := HF.out rfl
        subst hXf
        go_wp2_with fail
        go_ret
        exact ⟨rfl, hb7⟩
      · have HD2 := Lib.hid (HD.out rfl)
        clear HD HF
        go_wp2_with fail
        go_roundw
        case rel => exact ⟨k + 1, by omega, by go_num, HD2.out, hb7⟩
        case measure => simp [intOf]; omega
    · obtain rfl : k = is.length := by omega
      have hXt : X = true := by
        rw [← HX.out, List.all_eq_true]
        intro i hi
        obtain ⟨j, hj, rfl⟩ := List.mem_iff_getElem.1 hi
        exact hd j hj hj
      subst hXt
      clear hd
      go_wp2_with fail
      go_ret
      exact ⟨rfl, hb⟩
end Go.Proofs.Ytjjccoliknngcaa

namespace Go.Proofs.Ytjjccoliknngcaa
open Go.RowKit Go.Lib

/-- l's first j pairs, but for each that is the same as the one ahead of it. -/
def kp (l : List Pr) : Nat → List Pr
  | 0 => []
  | j + 1 => if h : j < l.length then (if j = 0 ∨ l[j - 1]? ≠ some l[j] then kp l j ++ [l[j]] else kp l j) else kp l j
theorem kp_keep {l : List Pr} {j : Nat} (h : j < l.length) (hk : j = 0 ∨ l[j - 1]? ≠ some l[j]) : kp l (j + 1) = kp l j ++ [l[j]] := by
  rw [kp, dif_pos h, if_pos hk]
theorem kp_skip {l : List Pr} {j : Nat} (h : j + 1 < l.length) (hk : l[j] = l[j + 1]) : kp l (j + 1 + 1) = kp l (j + 1) := by
  rw [kp, dif_pos h, if_neg]
  rintro (e | e)
  · omega
  · exact e (by rw [Nat.add_sub_cancel, List.getElem?_eq_getElem (by omega), hk])
theorem kp_le (l : List Pr) : ∀ j, (kp l j).length ≤ j
  | 0 => by simp [kp]
  | j + 1 => by
    have := kp_le l j
    rw [kp]
    split
    · split
      · rw [List.length_append]; simp; omega
      · omega
    · omega
theorem kp_one {l : List Pr} (h : l.length ≤ 1) : kp l l.length = l := by
  match l, h with
  | [], _ => rfl
  | [a], _ => simp [kp]
theorem kp_rise {l : List Pr} (hs : srt l = true) : ∀ j, j ≤ l.length → Rise (kp l j) ∧ ∀ x, x ∈ kp l j ↔ x ∈ l.take j
  | 0, _ => by simp [kp]
  | j + 1, h => by
    obtain ⟨h1, h2⟩ := kp_rise hs j (by omega)
    have hp := List.pairwise_iff_getElem.1 ((srt_iff l).1 hs)
    by_cases hk : j = 0 ∨ l[j - 1]? ≠ some l[j]
    · rw [kp_keep h hk]
      have hna : ∀ x ∈ l.take j, aheadB x l[j] = true := by
        intro x hx
        obtain ⟨i, hi, rfl⟩ := List.mem_iff_getElem.1 hx
        rw [List.length_take] at hi
        rw [List.getElem_take]
        have hij : Le l[i] l[j] := hp i j (by omega) h (by omega)
        cases ha : aheadB l[i] l[j]
        · have hji : Le l[j] l[i] := ha
          have e : l[i] = l[j] := Le.antisymm hij hji
          rcases hk with k | k
          · omega
          · refine absurd ?_ k
            rw [List.getElem?_eq_getElem (by omega)]
            have q1 : Le l[j - 1] l[j] := hp (j - 1) j (by omega) h (by omega)
            by_cases hi2 : i = j - 1
            · subst hi2; rw [e]
            · have q2 : Le l[i] l[j - 1] := hp i (j - 1) (by omega) (by omega) (by omega)
              rw [e] at q2
              rw [Le.antisymm q1 q2]
        · rfl
      refine ⟨List.pairwise_append.2 ⟨h1, by simp, fun a ha b hb => ?_⟩, fun x => ?_⟩
      · rw [List.mem_singleton] at hb
        subst hb
        exact hna a ((h2 a).1 ha)
      · rw [List.mem_append, h2, List.take_succ_eq_append_getElem h, List.mem_append]
    · have hj : j ≠ 0 := fun e => hk (.inl e)
      have he : l[j - 1]? = some l[j] := Classical.byContradiction fun e => hk (.inr e)
      have hkp : kp l (j + 1) = kp l j := by rw [kp, dif_pos (show j < l.length from h), if_neg hk]
      rw [hkp]
      refine ⟨h1, fun x => ?_⟩
      rw [h2, List.take_succ_eq_append_getElem h, List.mem_append, List.mem_singleton]
      refine ⟨.inl, fun k => ?_⟩
      rcases k with k | rfl
      · exact k
      · have hlt : j - 1 < (l.take j).length := by rw [List.length_take]; omega
        rw [List.getElem?_eq_getElem (by omega)] at he
        injection he with he
        rw [← he]
        exact List.mem_iff_getElem.2 ⟨j - 1, hlt, by rw [List.getElem_take]⟩

/-- A block that holds these pairs, and may be written. -/
def Pcs (w : World) (g : Nat) (L : List Pr) : Prop := g < w.heap.size ∧ ∀ (j : Nat) (p : Pr), L[j]? = some p → w.cell? ⟨g, j * 2, none⟩ = some (.int .u64 (p.1 : Int)) ∧ w.cell? ⟨g, j * 2 + 1, none⟩ = some (.int .u64 (p.2 : Int)) ∧ w.frozen? ⟨g, j * 2, none⟩ = false ∧ w.frozen? ⟨g, j * 2 + 1, none⟩ = false
theorem Pcs.at_ {w : World} {g : Nat} {L : List Pr} (h : Pcs w g L) {j : Nat} (hj : j < L.length) : w.cell? ⟨g, j * 2, none⟩ = some (.int .u64 ((L[j]).1 : Int)) ∧ w.cell? ⟨g, j * 2 + 1, none⟩ = some (.int .u64 ((L[j]).2 : Int)) ∧ w.frozen? ⟨g, j * 2, none⟩ = false ∧ w.frozen? ⟨g, j * 2 + 1, none⟩ = false := h.2 j _ (List.getElem?_eq_getElem hj)
theorem Pcs.drew {w : World} {g : Nat} {L : List Pr} (h : Pcs w g L) : Pcs w.drew g L := h
theorem Pcs.put {w : World} {g : Nat} {L : List Pr} (h : Pcs w g L) {i : Nat} (hi : i < L.length) (x : Pr) : Pcs ((w.setCell ⟨g, i * 2, none⟩ (.int .u64 (x.1 : Int))).setCell ⟨g, i * 2 + 1, none⟩ (.int .u64 (x.2 : Int))) g (L.set i x) := by
  have h0 := h.at_ hi
  have n1 : (⟨g, i * 2, none⟩ : Addr) ≠ ⟨g, i * 2 + 1, none⟩ := fun e => by injection e with _ e; omega
  refine ⟨by simpa [World.setCell] using h.1, fun j p hj => ?_⟩
  rw [World.frozen?_setCell, World.frozen?_setCell, World.frozen?_setCell, World.frozen?_setCell]
  by_cases e : j = i
  · subst e
    rw [List.getElem?_set_self (by omega)] at hj
    injection hj with hj
    subst hj
    refine ⟨?_, ?_, h0.2.2.1, h0.2.2.2⟩
    · rw [World.cell?_setCell_other _ _ _ _ (Ne.symm n1)]
      exact World.cell?_setCell_same _ _ _ h0.1
    · exact World.cell?_setCell_same _ _ _ (u := .int .u64 ((L[j]).2 : Int)) (by rw [World.cell?_setCell_other _ _ _ _ n1]; exact h0.2.1)
  · rw [List.getElem?_set_ne (Ne.symm e)] at hj
    obtain ⟨q1, q2, q3, q4⟩ := h.2 j p hj
    refine ⟨?_, ?_, q3, q4⟩
    · rw [World.cell?_setCell_other _ _ _ _ (fun e => by injection e with _ e; omega), World.cell?_setCell_other _ _ _ _ (fun e => by injection e with _ e; omega)]; exact q1
    · rw [World.cell?_setCell_other _ _ _ _ (fun e => by injection e with _ e; omega), World.cell?_setCell_other _ _ _ _ (fun e => by injection e with _ e; omega)]; exact q2
theorem Pcs.prs {w : World} {g cap : Nat} {L : List Pr} (h : Pcs w g L) (hc : L.length ≤ cap) : Prs w w.heap.size (.slice (some ⟨g, 0, none⟩) L.length cap) L :=
  ⟨some ⟨g, 0, none⟩, cap, rfl, ⟨hc, fun h => by cases h⟩, fun _ => ⟨⟨g, 0, none⟩, rfl, h.1, fun j p hj => by
    obtain ⟨q1, q2, _, _⟩ := h.2 j p hj
    rw [addr0, addr0]
    exact ⟨q1, q2⟩⟩⟩
theorem Pcs.first {w : World} {g : Nat} {L M : List Pr} (h : Pcs w g (L ++ M)) : Pcs w g L := ⟨h.1, fun j p hj => h.2 j p (by rw [List.getElem?_append_left (List.getElem?_eq_some_iff.1 hj).1]; exact hj)⟩
theorem kp_room {l : List Pr} {out : List Pr} {x : Pr} (h : out.length < l.length) : (out ++ l.drop out.length).set out.length x = (out ++ [x]) ++ l.drop (out ++ [x]).length := by
  rw [List.set_append_right _ _ (Nat.le_refl _), Nat.sub_self, List.drop_eq_getElem_cons h, List.set_cons_zero, List.length_append]
  simp
theorem room_get {l : List Pr} {out : List Pr} {i : Nat} (hi : i < l.length) (ho : out.length ≤ i) : (out ++ l.drop out.length)[i]? = some l[i] := by
  rw [List.getElem?_append_right ho, List.getElem?_drop, show out.length + (i - out.length) = i by omega, List.getElem?_eq_getElem hi]
theorem setCells_size (g : Nat) : ∀ (vs : List Value) (o : Nat) (w : World), (w.setCells g o vs).heap.size = w.heap.size
  | [], _, _ => rfl
  | v :: r, o, w => by
    show ((w.setCell ⟨g, o, none⟩ v).setCells g (o + 1) r).heap.size = _
    rw [setCells_size g r (o + 1)]
    simp [World.setCell]
theorem Pcs.clear {w : World} {g m : Nat} {L M : List Pr} (h : Pcs w g (L ++ M)) : Pcs (w.setCells g (L.length * 2) (List.replicate m (.int .u64 0))) g L := by
  have hs : (w.setCells g (L.length * 2) (List.replicate m (.int .u64 0))).heap.size = w.heap.size := setCells_size g _ _ w
  refine ⟨by rw [hs]; exact h.1, fun j p hj => ?_⟩
  obtain ⟨q1, q2, q3, q4⟩ := h.first.2 j p hj
  have hjl := (List.getElem?_eq_some_iff.1 hj).1
  refine ⟨?_, ?_, ?_, ?_⟩
  · rw [World.cell?_setCells_out _ _ _ _ _ (fun _ _ => .inl (by show j * 2 < _; omega))]; exact q1
  · rw [World.cell?_setCells_out _ _ _ _ _ (fun _ _ => .inl (by show j * 2 + 1 < _; omega))]; exact q2
  · rw [World.frozen?_setCells]; exact q3
  · rw [World.frozen?_setCells]; exact q4
theorem But.setCells {g : Nat} {a : World} : ∀ (vs : List Value) (o : Nat) {w : World}, But g a w → But g a (w.setCells g o vs)
  | [], _, _, h => h
  | v :: r, o, _, h => But.setCells r (o + 1) (h.setCell o v)
theorem zero_pairs (n : Nat) : (Builtin.zeroCells #[.int .u64 0, .int .u64 0] n).toList = List.replicate (n * 2) (.int .u64 0) := by
  simp [Builtin.zeroCells]
  apply List.ext_getElem
  · simp
  · intro i h1 h2
    rcases Nat.mod_two_eq_zero_or_one i with h | h <;> simp [h]
theorem Pcs.all {w : World} {g : Nat} {L : List Pr} (h : Pcs w g L) {i : Nat} (hi : i < L.length * 2) : (w.cell? ⟨g, i, none⟩).isSome = true ∧ w.frozen? ⟨g, i, none⟩ = false := by
  obtain ⟨q1, q2, q3, q4⟩ := h.at_ (show i / 2 < L.length by omega)
  rcases Nat.mod_two_eq_zero_or_one i with k | k
  · rw [show i / 2 * 2 = i by omega] at q1 q3
    exact ⟨by rw [q1]; rfl, q3⟩
  · rw [show i / 2 * 2 + 1 = i by omega] at q2 q4
    exact ⟨by rw [q2]; rfl, q4⟩
theorem run_clear_pairs (w : World) (ty : TypeId) (g o n c : Nat) (hn : 0 < n) (hc : ∀ j, j < n * 2 → (w.cell? ⟨g, o + j, none⟩).isSome = true) (hf : ∀ j, j < n * 2 → w.frozen? ⟨g, o + j, none⟩ = false) :
    (Builtin.clear_ #[22] ty #[.slice (some ⟨g, o, none⟩) n c]).run Try.prog w = .ok (.tuple #[]) (w.setCells g o (List.replicate (n * 2) (.int .u64 0))) := by
  obtain ⟨i0, hi, hz0, hz1, hz2⟩ := info_parts info_pair
  have hv : ∀ w, (zeroValue 27).run Try.prog w = .ok (.agg #[.int .u64 0, .int .u64 0]) w := fun w => by simp [zeroValue, typeInfo, hi, hz0]
  have hst := run_storeCells_cells (P := Try.prog) g o (List.replicate (n * 2) (.int .u64 0)) 0 w (by simpa using hc) (by simpa using hf) (by intro v hv'; rw [List.eq_of_mem_replicate hv']; rfl)
  simp only [Nat.add_zero] at hst
  obtain ⟨m, rfl⟩ : ∃ m, n = m + 1 := ⟨n - 1, by omega⟩
  have e1 : (Value.agg #[.int .u64 0, .int .u64 0]).cells = #[.int .u64 0, .int .u64 0] := rfl
  simp [Builtin.clear_, run_underlying Try.underlying22, hv, e1, zero_pairs, hst]

set_option maxHeartbeats 4000000 in
set_option maxRecDepth 100000 in
theorem oCompact_any (g cap : Nat) (l : List Pr) (w : World) (h : Pcs w g l) (h9 : l.length ≤ 1000000) (hlc : l.length ≤ cap) (hc9 : cap ≤ maxLen) :
    Calls Try.prog 33 #[.slice (some ⟨g, 0, none⟩) l.length cap] w fun e w' => e = .returned (.slice (some ⟨g, 0, none⟩) (kp l l.length).length cap) ∧ Prs w' w'.heap.size (.slice (some ⟨g, 0, none⟩) (kp l l.length).length cap) (kp l l.length) ∧ But g w w' := by
  obtain ⟨R, hR⟩ : ∃ R, kp l l.length = R := ⟨_, rfl⟩
  rw [hR]
  have HR := Lib.hid hR
  clear hR
  have hc9' : cap ≤ 9223372036854775807 := Nat.le_trans hc9 (by decide)
  by_cases h2 : l.length < 2
  · have hRl : R = l := by rw [← HR.out]; exact kp_one (by omega)
    subst hRl
    have hd : ((R.length : Int) < 2) = True := eq_true (by omega)
    have hP := h.prs hlc
    clear HR
    go_enter Try.func33, Try.ntmps33
    go_wp2_with fail
    go_ret
    exact ⟨rfl, hP, But.refl _ _⟩
  · have hd : ((l.length : Int) < 2) = False := eq_false (by omega)
    go_enter Try.func33, Try.ntmps33
    go_wp2_with fail
    go_loopw [3] (fun i wr => ∃ k : Nat, 1 ≤ k ∧ k ≤ l.length ∧ i = .int .i64 k ∧ kp l k = l.take k ∧ Pcs wr g l ∧ But g w wr) (fun i _ => l.length - (intOf i).toNat)
    case atStart => exact ⟨1, Nat.le_refl _, by omega, rfl, (by rw [kp_keep (by omega) (.inl rfl), List.take_succ_eq_append_getElem (by omega)]; rfl), h, But.refl _ _⟩
    case round =>
      obtain ⟨k, hk1, hk, rfl, hkp, hP, hb⟩ := hrel
      by_cases hlt : k < l.length
      · obtain ⟨j, rfl⟩ : ∃ j, k = j + 1 := ⟨k - 1, by omega⟩
        have ej : ((j + 1 : Nat) : Int) - 1 = (j : Int) := by omega
        obtain ⟨c1, c2, -, -⟩ := hP.at_ hlt
        obtain ⟨d1, d2, -, -⟩ := hP.at_ (show j < l.length by omega)
        have HT := Lib.hid (show l[j] = l[j + 1] → kp l (j + 1 + 1) = l.take (j + 1) from fun h0 => by rw [kp_skip hlt h0, hkp])
        have HN := Lib.hid (show l[j] ≠ l[j + 1] → kp l (j + 1 + 1) = l.take (j + 1 + 1) from fun h0 => by
          rw [kp_keep hlt (.inr (by rw [Nat.add_sub_cancel, List.getElem?_eq_getElem (by omega)]; intro e; injection e with e; exact h0 e)), hkp, ← List.take_succ_eq_append_getElem hlt])
        clear hkp
        generalize l[j] = p at *
        generalize l[j + 1] = q at *
        obtain ⟨p1, p2⟩ := p
        obtain ⟨q1, q2⟩ := q
        by_cases hpq : p1 = q1 ∧ p2 = q2
        · obtain ⟨rfl, rfl⟩ := hpq
          have ht := HT.out rfl
          clear HT HN
          go_wp2_with fail
          go_region
          go_wp2_with fail
          have hl1 : (kp l (j + 1 + 1)).length = j + 1 := by rw [ht, List.length_take]; omega
          have hP1 : Pcs wr g (kp l (j + 1 + 1) ++ l.drop (kp l (j + 1 + 1)).length) := by rw [hl1, ht, List.take_append_drop]; exact hP
          clear ht c1 c2 d1 d2 hP
          obtain ⟨wo, hwo⟩ : ∃ wo, wo = wr := ⟨_, rfl⟩
          subst hwo
          go_loopw [3, 5] (fun iv xv wx => ∃ x : Nat, 1 ≤ x ∧ j + 1 + x ≤ l.length ∧ iv = .int .i64 ((kp l (j + 1 + x)).length : Nat) ∧ xv = .int .i64 (x : Nat) ∧ (kp l (j + 1 + x)).length ≤ j + x ∧ Pcs wx g (kp l (j + 1 + x) ++ l.drop (kp l (j + 1 + x)).length) ∧ But g w wx) (fun _ xv _ => l.length - (intOf xv).toNat)
          case atStart => exact ⟨1, Nat.le_refl _, by omega, by rw [hl1]; go_num, rfl, by omega, hP1, hb.drew⟩
          case round =>
            obtain ⟨x, hx1, hx, rfl, rfl, hO, hPx, hbx⟩ := hrel
            clear hP1 hl1 hb
            by_cases hlx : j + 1 + x < l.length
            · obtain ⟨y, rfl⟩ : ∃ y, x = y + 1 := ⟨x - 1, by omega⟩
              have ey : ((y + 1 : Nat) : Int) - 1 = (y : Int) := by omega
              have hla : (kp l (j + 1 + (y + 1))).length < (kp l (j + 1 + (y + 1)) ++ l.drop (kp l (j + 1 + (y + 1))).length).length := by rw [List.length_append, List.length_drop]; omega
              have hal : (kp l (j + 1 + (y + 1))).length < l.length := by omega
              have hlx1 : y + 1 < l.length - (j + 1) := by omega
              obtain ⟨c1, c2, -, -⟩ := hPx.2 (j + 1 + (y + 1)) _ (room_get hlx (by omega))
              obtain ⟨d1, d2, -, -⟩ := hPx.2 (j + 1 + y) _ (room_get (by omega) (by omega))
              obtain ⟨z1, z2, f1, f2⟩ := hPx.at_ hla
              rw [show (j + 1 + (y + 1)) * 2 = (j + 1) * 2 + (y + 1) * 2 by omega] at c1 c2
              rw [show (j + 1 + y) * 2 = (j + 1) * 2 + y * 2 by omega] at d1 d2
              have HT := Lib.hid (show l[j + 1 + y] = l[j + 1 + (y + 1)] → kp l (j + 1 + (y + 1 + 1)) = kp l (j + 1 + (y + 1)) from fun h0 => kp_skip (j := j + 1 + y) hlx h0)
              have HN := Lib.hid (show l[j + 1 + y] ≠ l[j + 1 + (y + 1)] → kp l (j + 1 + (y + 1 + 1)) = kp l (j + 1 + (y + 1)) ++ [l[j + 1 + (y + 1)]] from fun h0 => kp_keep (j := j + 1 + (y + 1)) hlx (.inr (by
                rw [show j + 1 + (y + 1) - 1 = j + 1 + y by omega, List.getElem?_eq_getElem (by omega)]; intro e; injection e with e; exact h0 e)))
              have HR2 := Lib.hid (kp_room (l := l) (out := kp l (j + 1 + (y + 1))) (x := l[j + 1 + (y + 1)]) hal)
              have HPut := Lib.hid (hPx.put hla l[j + 1 + (y + 1)])
              rw [HR2.out] at HPut
              generalize (kp l (j + 1 + (y + 1)) ++ l.drop (kp l (j + 1 + (y + 1))).length)[(kp l (j + 1 + (y + 1))).length] = z at *
              generalize kp l (j + 1 + (y + 1)) = O at *
              generalize l[j + 1 + y] = p at *
              generalize l[j + 1 + (y + 1)] = q at *
              obtain ⟨p1, p2⟩ := p
              obtain ⟨q1, q2⟩ := q
              clear HR2 hla
              by_cases hpq : p1 = q1 ∧ p2 = q2
              · obtain ⟨rfl, rfl⟩ := hpq
                have ht := HT.out rfl
                clear HT HN HPut z1 z2 f1 f2
                go_wp2_with fail
                go_region
                go_wp2_with fail
                go_roundw
                case rel => exact ⟨y + 1 + 1, by omega, by omega, by rw [ht], by go_num, by rw [ht]; omega, by rw [ht]; exact hPx, hbx.drew⟩
                case measure => simp [intOf]; omega
              · by_cases h1 : q1 = p1
                · subst h1
                  have h2 : q2 ≠ p2 := fun e => hpq ⟨rfl, e.symm⟩
                  have h2a : ((q2 : Int) = (p2 : Int)) = False := eq_false (by omega)
                  have h2b : ((q2 : Int) == (p2 : Int)) = false := by rw [beq_eq_false_iff_ne]; omega
                  have ht := HN.out (by simp; intro e; exact h2 e.symm)
                  clear HT HN hpq
                  go_wp2_with fail
                  go_region
                  go_wp2_with fail
                  go_roundw
                  case rel => exact ⟨y + 1 + 1, by omega, by omega, by rw [ht, List.length_append]; go_num, by go_num, by rw [ht, List.length_append]; simp; omega, by rw [ht]; exact HPut.out, (hbx.drew.setCell _ _).setCell _ _⟩
                  case measure => simp [intOf]; omega
                · have h1a : ((q1 : Int) = (p1 : Int)) = False := eq_false (by omega)
                  have h1b : ((q1 : Int) == (p1 : Int)) = false := by rw [beq_eq_false_iff_ne]; omega
                  have ht := HN.out (by simp; intro e; exact absurd e.symm h1)
                  clear HT HN hpq
                  go_wp2_with fail
                  go_region
                  go_wp2_with fail
                  go_roundw
                  case rel => exact ⟨y + 1 + 1, by omega, by omega, by rw [ht, List.length_append]; go_num, by go_num, by rw [ht, List.length_append]; simp; omega, by rw [ht]; exact HPut.out, (hbx.drew.setCell _ _).setCell _ _⟩
                  case measure => simp [intOf]; omega
            · have hxl : j + 1 + x = l.length := by omega
              rw [hxl, HR.out] at hO hPx ⊢
              have hlx1 : ¬ x < l.length - (j + 1) := by omega
              have hlen : (R ++ l.drop R.length).length = l.length := by rw [List.length_append, List.length_drop]; omega
              have hclr := fun ty => run_clear_pairs wr ty g (R.length * 2) (l.length - R.length) (cap - R.length) (by omega) (fun t ht => (hPx.all (by omega)).1) (fun t ht => (hPx.all (by omega)).2)
              have hP2 := hPx.clear (m := (l.length - R.length) * 2)
              have hb2 := But.setCells (List.replicate ((l.length - R.length) * 2) (.int .u64 0)) (R.length * 2) hbx
              have hP3 := hP2.prs (cap := cap) (by omega)
              have hRl : R.length ≤ l.length := by omega
              clear HR hPx hP2 hlen hbx
              go_wp2_with fail
              go_ret
              exact ⟨rfl, hP3, hb2⟩
        · by_cases h1 : q1 = p1
          · subst h1
            have h2 : q2 ≠ p2 := fun e => hpq ⟨rfl, e.symm⟩
            have h2a : ((q2 : Int) = (p2 : Int)) = False := eq_false (by omega)
            have h2b : ((q2 : Int) == (p2 : Int)) = false := by rw [beq_eq_false_iff_ne]; omega
            have ht := HN.out (by simp; intro e; exact h2 e.symm)
            clear HT HN hpq
            go_wp2_with fail
            go_region
            go_wp2_with fail
            go_roundw
            case rel => exact ⟨j + 1 + 1, by omega, by omega, by go_num, ht, hP, hb.drew⟩
            case measure => simp [intOf]; omega
          · have h1a : ((q1 : Int) = (p1 : Int)) = False := eq_false (by omega)
            have h1b : ((q1 : Int) == (p1 : Int)) = false := by rw [beq_eq_false_iff_ne]; omega
            have ht := HN.out (by simp; intro e; exact absurd e.symm h1)
            clear HT HN hpq
            go_wp2_with fail
            go_region
            go_wp2_with fail
            go_roundw
            case rel => exact ⟨j + 1 + 1, by omega, by omega, by go_num, ht, hP, hb.drew⟩
            case measure => simp [intOf]; omega
      · obtain rfl : k = l.length := by omega
        rw [List.take_length] at hkp
        have hRl : R = l := by rw [← HR.out]; exact hkp
        subst hRl
        have hP2 := hP.prs hlc
        clear HR hkp
        go_wp2_with fail
        go_ret
        exact ⟨rfl, hP2, hb⟩
end Go.Proofs.Ytjjccoliknngcaa
