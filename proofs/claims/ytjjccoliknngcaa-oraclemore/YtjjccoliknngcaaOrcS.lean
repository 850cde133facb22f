/- The helpers of layer 7's laws: Table. -/
import Derived.Test.YtjjccoliknngcaaOrcR
namespace Go.Proofs.Ytjjccoliknngcaa
open Go.RowKit Go.Lib

/-- The table of raw numbers. -/
def pairOf (r : Int) : Pr := (pickN r 12, pickN (r.tdiv 16) 3)
def tableTo (raw : List Int) (i : Nat) : List Pr := addL [] ((raw.take i).map pairOf)
theorem tableTo_rise (raw : List Int) (i : Nat) : Rise (tableTo raw i) := addL_rise List.Pairwise.nil
theorem tableTo_length (raw : List Int) (i : Nat) : (tableTo raw i).length ≤ i := by
  have := (addL_length [] ((raw.take i).map pairOf)).2
  unfold tableTo
  rw [List.length_map, List.length_take] at this
  simp at this ⊢
  omega
theorem tableTo_succ {raw : List Int} {i : Nat} (h : i < raw.length) : tableTo raw (i + 1) = addL (tableTo raw i) [pairOf raw[i]] := by
  unfold tableTo
  rw [List.take_succ_eq_append_getElem h, List.map_append]
  simp [addL]
theorem table_add {raw : List Int} {i : Nat} (h : i < raw.length) (h9 : i ≤ 4000) : addO (tableTo raw i) [pairOf raw[i]] = (tableTo raw (i + 1), 0) := by
  have h1 := tableTo_length raw i
  have h2 := tableTo_length raw (i + 1)
  unfold addO
  rw [if_pos ((rightO_iff _).2 ⟨by omega, tableTo_rise raw i⟩), ← tableTo_succ h, if_neg (by omega)]
def tableL (raw : List Int) : List Pr := tableTo raw (min raw.length 60)
theorem tableL_facts (raw : List Int) : Rise (tableL raw) ∧ (tableL raw).length ≤ 60 := ⟨tableTo_rise _ _, by have := tableTo_length raw (min raw.length 60); unfold tableL; omega⟩
theorem tableL_right (raw : List Int) : rightO (tableL raw) = true := (rightO_iff _).2 ⟨by have := (tableL_facts raw).2; omega, (tableL_facts raw).1⟩

theorem tdiv_i64 {r : Int} (h : I64 r) : I64 (r.tdiv 16) := by
  unfold I64 at h ⊢
  rcases Int.le_total 0 r with k | k
  · rw [Int.tdiv_eq_ediv_of_nonneg k]; omega
  · have e : r.tdiv 16 = -((-r) / 16) := by rw [← Int.tdiv_eq_ediv_of_nonneg (show 0 ≤ -r by omega), Int.neg_tdiv, Int.neg_neg]
    rw [e]; omega

set_option maxHeartbeats 4000000 in
set_option maxRecDepth 100000 in
theorem Table7_any (v : Value) (raw : List Int) (w : World) (hv : Ints w w.heap.size v raw) (hI : ∀ r ∈ raw, I64 r) (l9 : raw.length ≤ maxLen) :
    Calls Try.prog 10 #[v] w fun e w' => ∃ A c, e = .returned (.slice A (tableL raw).length c) ∧ Prs w' w'.heap.size (.slice A (tableL raw).length c) (tableL raw) ∧ Below w.heap.size w w' := by
  obtain ⟨Av, cv, rfl, hcv⟩ := hv.form
  have l9' : raw.length ≤ 9223372036854775807 := l9
  go_enter Try.func10, Try.ntmps10
  go_wp2_with fail
  go_loopw [3, 4] (fun o iv wr => ∃ i : Nat, i ≤ raw.length ∧ i ≤ 60 ∧ iv = .int .i64 (i : Int) ∧ (∃ A c, o = .slice A (tableTo raw i).length c ∧ Prs wr wr.heap.size (.slice A (tableTo raw i).length c) (tableTo raw i)) ∧ Below w.heap.size w wr) (fun _ iv _ => 60 - (intOf iv).toNat)
  case atStart => exact ⟨0, Nat.zero_le _, Nat.zero_le _, rfl, ⟨none, 0, rfl, Prs.nil _ _⟩, Below.refl _ _⟩
  case round =>
    obtain ⟨i, hir, hi60, rfl, ⟨A, c, rfl, hP⟩, hb⟩ := hrel
    by_cases hin : i < raw.length ∧ i < 60
    · obtain ⟨hlt, hlt60⟩ := hin
      have hi1 : ((i : Int) < (raw.length : Int)) = True := eq_true (by omega)
      have hi1n : (i < raw.length) = True := eq_true hlt
      have hi2 : ((i : Int) < 60) = True := eq_true (by omega)
      have hi2n : (i < 60) = True := eq_true hlt60
      obtain ⟨ad, rfl, hadb, hcell⟩ := (hv.below hb (Nat.le_refl _)).at_ hlt
      have hr := hI _ (List.getElem_mem hlt)
      have cP := fun W => pick7_any raw[i] 12 W hr (by decide) (by decide)
      have hq : I64 ((raw[i]).tdiv 16) := tdiv_i64 hr
      have cQ := fun W => pick7_any ((raw[i]).tdiv 16) 3 W hq (by decide) (by decide)
      have hk := pickN_lt raw[i] 12 (by decide)
      have hj := pickN_lt ((raw[i]).tdiv 16) 3 (by decide)
      have HS := Lib.hid (table_add hlt (by omega))
      have hlen := tableTo_length raw i
      have hwq : IntKind.i64.wrap ((raw[i]).tdiv 16) = (raw[i]).tdiv 16 := IntWalk.i64_in _ hq
      have cA := fun (B : Option Addr) (d : Nat) (W : World) (h1 : Prs W W.heap.size (.slice A (tableTo raw i).length c) (tableTo raw i)) (h2 : Prs W W.heap.size (.slice B 1 d) [pairOf raw[i]]) => orAdd_any (.slice A (tableTo raw i).length c) (.slice B 1 d) (tableTo raw i) [pairOf raw[i]] W h1 h2 (by omega) (by simp)
      rw [HS.out] at cA
      unfold pairOf at cA
      obtain ⟨t2, ht2⟩ : ∃ t2, tableTo raw (i + 1) = t2 := ⟨_, rfl⟩
      rw [ht2] at cA
      have HT2 := Lib.hid ht2
      clear ht2
      generalize tableTo raw i = t1 at *
      generalize pickN ((raw[i]).tdiv 16) 3 = j at *
      generalize pickN raw[i] 12 = k at *
      generalize raw[i] = r at *
      have hwu : IntKind.u64.wrap (k : Int) = (k : Int) := IntWalk.u64_in _ (by omega)
      have hwj : IntKind.u64.wrap (j : Int) = (j : Int) := IntWalk.u64_in _ (by omega)
      have hPA := hP.alloc (.cells #[.int .u64 (k : Int), .int .u64 (j : Int)] 27)
      have hBA : Prs (wr.alloc (.cells #[.int .u64 (k : Int), .int .u64 (j : Int)] 27)) (wr.alloc (.cells #[.int .u64 (k : Int), .int .u64 (j : Int)] 27)).heap.size (.slice (some ⟨wr.heap.size, 0, none⟩) 1 1) [(k, j)] := Prs.row (l := [(k, j)]) (RowAt.new wr 27 #[.int .u64 (k : Int), .int .u64 (j : Int)])
      have cA1 := cA (some ⟨wr.heap.size, 0, none⟩) 1 (wr.alloc (.cells #[.int .u64 (k : Int), .int .u64 (j : Int)] 27)).drew hPA hBA
      have hbA : Below wr.heap.size wr (wr.alloc (.cells #[.int .u64 (k : Int), .int .u64 (j : Int)] 27)).drew := ((Below.refl _ wr).alloc (Nat.le_refl _) _).drew
      have hC4 := fun w4 (b : Below (wr.alloc (.cells #[.int .u64 (k : Int), .int .u64 (j : Int)] 27)).drew.heap.size (wr.alloc (.cells #[.int .u64 (k : Int), .int .u64 (j : Int)] 27)).drew w4) =>
        ((b.cell (p := ad.add i) (by rw [add_block]; exact Nat.lt_of_lt_of_le (Nat.lt_of_lt_of_le hadb hb.size) hbA.size)).trans (hbA.cell (p := ad.add i) (by rw [add_block]; exact Nat.lt_of_lt_of_le hadb hb.size))).trans hcell
      clear cA hPA hBA HS
      go_upto_region 5 with (fail)
      go_cut [5, 6] from 17 to 36 (fun o _ wx => ∃ A c, o = .slice A t2.length c ∧ Prs wx wx.heap.size (.slice A t2.length c) t2 ∧ Below wr.heap.size wr wx)
      case first =>
        go_region_held3 (fun w' => w'.cell? (ad.add i) = some (.int .i64 r)) (first | with_reducible assumption | go_keep) (first | ((with_reducible refine (cP _).mono ?_); rintro e w1 ⟨rfl, rfl⟩) | ((with_reducible refine (cQ _).mono ?_); rintro e w1 ⟨rfl, rfl⟩) | ((with_reducible refine cA1.mono ?_); rintro e w4 ⟨A2, c2, rfl, hP2, hF2, b2⟩; have c4 := hC4 _ b2))
        all_goals
          go_wp2_with fail
          go_meet
          exact ⟨A2, c2, rfl, hP2, hbA.trans (b2.mono hbA.size)⟩
      case rest =>
        obtain ⟨wx, hwx⟩ : ∃ wx, wx = wc := ⟨_, rfl⟩
        subst hwx
        obtain ⟨A2, c2, rfl, hP2, hb2⟩ := hcut
        have hb3 := hb.trans (hb2.mono hb.size)
        clear hcell cP cQ cA1 hbA hP hC4
        go_wp2_with fail
        go_roundw
        case rel => exact ⟨i + 1, by omega, by omega, by go_num, by rw [HT2.out]; exact ⟨A2, c2, rfl, hP2⟩, hb3⟩
        case measure => simp [intOf]; omega
    · have hK : tableTo raw i = tableL raw := by unfold tableL; congr 1; omega
      rw [hK] at hP ⊢
      by_cases hlt : i < raw.length
      · have hi1 : ((i : Int) < (raw.length : Int)) = True := eq_true (by omega)
        have hi1n : (i < raw.length) = True := eq_true hlt
        have hi2 : ((i : Int) < 60) = False := eq_false (by omega)
        have hi2n : (i < 60) = False := eq_false (by omega)
        go_wp2_with fail
        go_ret
        exact ⟨_, _, rfl, hP, hb⟩
      · have hi1 : ((i : Int) < (raw.length : Int)) = False := eq_false (by omega)
        have hi1n : (i < raw.length) = False := eq_false hlt
        go_wp2_with fail
        go_ret
        exact ⟨_, _, rfl, hP, hb⟩
end Go.Proofs.Ytjjccoliknngcaa
