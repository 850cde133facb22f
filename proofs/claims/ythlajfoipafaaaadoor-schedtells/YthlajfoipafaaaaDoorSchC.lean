/- Package sched: the subnets of a turn, an array of bools.
   Package sched: a turn's subnets as bits and as a word, and its end. -/
import Derived.Test.YthlajfoipafaaaaDoorSchA
import Derived.Lib.MinMax
import Derived.Deep.MidRow
import Derived.Test.YthlajfoipafaaaaDoorSchP
namespace Go.Proofs.YthlajfoipafaaaaDoor
open Go.RowKit Go.Lib

/-- The array of a turn's subnets, the first j of them set. -/
def netsV (N f j : Nat) : List Value := (List.range 64).map fun i => Value.bool (onB N f j i)
theorem netsV_length (N f j : Nat) : (netsV N f j).length = 64 := by simp [netsV]
theorem netsV_get (N f j i : Nat) (hi : i < 64) : (netsV N f j)[i]? = some (Value.bool (onB N f j i)) := by simp [netsV, hi]
theorem netsV_zero (N f : Nat) : netsV N f 0 = List.replicate 64 (Value.bool false) := by
  unfold netsV
  simp only [onB_zero]
  rfl
theorem netsV_step {N f j : Nat} (hf : f < N) (hj : j < N) : (netsV N f j).set ((f + j) % N) (.bool true) = netsV N f (j + 1) := by
  apply List.ext_getElem?
  intro i
  by_cases hi : i < 64
  · rw [netsV_get N f (j + 1) i hi, onB_step hf hj, List.getElem?_set]
    by_cases he : (f + j) % N = i
    · rw [if_pos he, if_pos (by rw [netsV_length]; omega)]
      simp [he]
    · rw [if_neg he, netsV_get N f j i hi]
      simp [show ¬ i = (f + j) % N from fun e => he e.symm]
  · rw [List.getElem?_eq_none (by simp [netsV_length]; omega), List.getElem?_eq_none (by simp [netsV_length]; omega)]
/-- A whole row, loaded. -/
theorem load_row {W : World} {g : Nat} {t : TypeId} {l : List Value} (h : RowAt W g t l) (n : Nat) (hn : l.length = n) : (loadCellsFrom ⟨g, 0, none⟩ 0 n #[]).run Tryd.prog W = .ok l.toArray W := by
  subst hn
  have := run_loadCells_list (P := Tryd.prog) W ⟨g, 0, none⟩ l (fun j v hv => by
    have hadd : (⟨g, 0, none⟩ : Addr).add j = ⟨g, j, none⟩ := by unfold Addr.add; split <;> simp_all
    rw [hadd, h.cell]; exact hv)
  simpa [loadCells] using this
theorem setRow_row {W : World} {g : Nat} {t : TypeId} {l : List Value} (h : RowAt W g t l) (l' : List Value) : RowAt (W.setRow g l'.toArray) g t l' := setRow_heap W g l.toArray l'.toArray t (0, 0) h

set_option maxHeartbeats 1000000 in
set_option maxRecDepth 100000 in
theorem nets_any (V S C N T D R K G U Q P B : Nat) (z : Int) (w : World) (h : FitD V S C N T D R K G) (hp : FitP Q P) (hB : B ≤ 2199023255552) (hT : Tab w) :
    Calls Tryd.prog 46 #[.agg #[.int .i64 (V : Int), .int .i64 (S : Int), .int .i64 (C : Int), .int .i64 (N : Int), .int .i64 (T : Int), .int .i64 (D : Int), .int .i64 (R : Int), .int .i64 (K : Int), .int .i64 (G : Int), .int .u64 z, .int .u64 (U : Int), .int .i64 (Q : Int), .int .i64 (P : Int), .int .i64 (B : Int)]] w fun o w' => o = .returned (.agg (netsV N (firstN N K U B) Q).toArray) ∧ Below w.heap.size w w' := by
  obtain ⟨n1, n2⟩ : 1 ≤ N ∧ N ≤ 64 := ⟨h.n1, h.n2⟩
  have q2 := hp.q2
  have hF := firstN_lt N K U B n1
  have cF := fun W hW => scfirst_any V S C N T D R K G U Q P B z W h hB hW
  generalize firstN N K U B = F at *
  obtain ⟨m, hm⟩ : ∃ m, min Q N = m := ⟨_, rfl⟩
  have e1 : min (Q : Int) (N : Int) = (m : Int) := by omega
  have hmN : m ≤ N := by omega
  have HM := Lib.hid (show netsV N F m = netsV N F Q by rw [← hm]; unfold netsV; simp only [onB_min])
  clear hm
  have q0 := RowAt.new w 59 #[.int .i64 (V : Int), .int .i64 (S : Int), .int .i64 (C : Int), .int .i64 (N : Int), .int .i64 (T : Int), .int .i64 (D : Int), .int .i64 (R : Int), .int .i64 (K : Int), .int .i64 (G : Int), .int .u64 z, .int .u64 (U : Int), .int .i64 (Q : Int), .int .i64 (P : Int), .int .i64 (B : Int)]
  have b0 := (Below.refl w.heap.size w).alloc (Nat.le_refl _) (.cells #[.int .i64 (V : Int), .int .i64 (S : Int), .int .i64 (C : Int), .int .i64 (N : Int), .int .i64 (T : Int), .int .i64 (D : Int), .int .i64 (R : Int), .int .i64 (K : Int), .int .i64 (G : Int), .int .u64 z, .int .u64 (U : Int), .int .i64 (Q : Int), .int .i64 (P : Int), .int .i64 (B : Int)] 59)
  have b1 := (b0.alloc b0.size (.cells #[.bool false, .bool false, .bool false, .bool false, .bool false, .bool false, .bool false, .bool false, .bool false, .bool false, .bool false, .bool false, .bool false, .bool false, .bool false, .bool false, .bool false, .bool false, .bool false, .bool false, .bool false, .bool false, .bool false, .bool false, .bool false, .bool false, .bool false, .bool false, .bool false, .bool false, .bool false, .bool false, .bool false, .bool false, .bool false, .bool false, .bool false, .bool false, .bool false, .bool false, .bool false, .bool false, .bool false, .bool false, .bool false, .bool false, .bool false, .bool false, .bool false, .bool false, .bool false, .bool false, .bool false, .bool false, .bool false, .bool false, .bool false, .bool false, .bool false, .bool false, .bool false, .bool false, .bool false, .bool false] 81)).alloc (b0.alloc b0.size (.cells #[.bool false, .bool false, .bool false, .bool false, .bool false, .bool false, .bool false, .bool false, .bool false, .bool false, .bool false, .bool false, .bool false, .bool false, .bool false, .bool false, .bool false, .bool false, .bool false, .bool false, .bool false, .bool false, .bool false, .bool false, .bool false, .bool false, .bool false, .bool false, .bool false, .bool false, .bool false, .bool false, .bool false, .bool false, .bool false, .bool false, .bool false, .bool false, .bool false, .bool false, .bool false, .bool false, .bool false, .bool false, .bool false, .bool false, .bool false, .bool false, .bool false, .bool false, .bool false, .bool false, .bool false, .bool false, .bool false, .bool false, .bool false, .bool false, .bool false, .bool false, .bool false, .bool false, .bool false, .bool false] 81)).size (.cells #[.bool false, .bool false, .bool false, .bool false, .bool false, .bool false, .bool false, .bool false, .bool false, .bool false, .bool false, .bool false, .bool false, .bool false, .bool false, .bool false, .bool false, .bool false, .bool false, .bool false, .bool false, .bool false, .bool false, .bool false, .bool false, .bool false, .bool false, .bool false, .bool false, .bool false, .bool false, .bool false, .bool false, .bool false, .bool false, .bool false, .bool false, .bool false, .bool false, .bool false, .bool false, .bool false, .bool false, .bool false, .bool false, .bool false, .bool false, .bool false, .bool false, .bool false, .bool false, .bool false, .bool false, .bool false, .bool false, .bool false, .bool false, .bool false, .bool false, .bool false, .bool false, .bool false, .bool false, .bool false] 81)
  have r1 := (RowAt.new (w.alloc (.cells #[.int .i64 (V : Int), .int .i64 (S : Int), .int .i64 (C : Int), .int .i64 (N : Int), .int .i64 (T : Int), .int .i64 (D : Int), .int .i64 (R : Int), .int .i64 (K : Int), .int .i64 (G : Int), .int .u64 z, .int .u64 (U : Int), .int .i64 (Q : Int), .int .i64 (P : Int), .int .i64 (B : Int)] 59)) 81 #[.bool false, .bool false, .bool false, .bool false, .bool false, .bool false, .bool false, .bool false, .bool false, .bool false, .bool false, .bool false, .bool false, .bool false, .bool false, .bool false, .bool false, .bool false, .bool false, .bool false, .bool false, .bool false, .bool false, .bool false, .bool false, .bool false, .bool false, .bool false, .bool false, .bool false, .bool false, .bool false, .bool false, .bool false, .bool false, .bool false, .bool false, .bool false, .bool false, .bool false, .bool false, .bool false, .bool false, .bool false, .bool false, .bool false, .bool false, .bool false, .bool false, .bool false, .bool false, .bool false, .bool false, .bool false, .bool false, .bool false, .bool false, .bool false, .bool false, .bool false, .bool false, .bool false, .bool false, .bool false]).alloc (.cells #[.bool false, .bool false, .bool false, .bool false, .bool false, .bool false, .bool false, .bool false, .bool false, .bool false, .bool false, .bool false, .bool false, .bool false, .bool false, .bool false, .bool false, .bool false, .bool false, .bool false, .bool false, .bool false, .bool false, .bool false, .bool false, .bool false, .bool false, .bool false, .bool false, .bool false, .bool false, .bool false, .bool false, .bool false, .bool false, .bool false, .bool false, .bool false, .bool false, .bool false, .bool false, .bool false, .bool false, .bool false, .bool false, .bool false, .bool false, .bool false, .bool false, .bool false, .bool false, .bool false, .bool false, .bool false, .bool false, .bool false, .bool false, .bool false, .bool false, .bool false, .bool false, .bool false, .bool false, .bool false] 81)
  have r2 := RowAt.new ((w.alloc (.cells #[.int .i64 (V : Int), .int .i64 (S : Int), .int .i64 (C : Int), .int .i64 (N : Int), .int .i64 (T : Int), .int .i64 (D : Int), .int .i64 (R : Int), .int .i64 (K : Int), .int .i64 (G : Int), .int .u64 z, .int .u64 (U : Int), .int .i64 (Q : Int), .int .i64 (P : Int), .int .i64 (B : Int)] 59)).alloc (.cells #[.bool false, .bool false, .bool false, .bool false, .bool false, .bool false, .bool false, .bool false, .bool false, .bool false, .bool false, .bool false, .bool false, .bool false, .bool false, .bool false, .bool false, .bool false, .bool false, .bool false, .bool false, .bool false, .bool false, .bool false, .bool false, .bool false, .bool false, .bool false, .bool false, .bool false, .bool false, .bool false, .bool false, .bool false, .bool false, .bool false, .bool false, .bool false, .bool false, .bool false, .bool false, .bool false, .bool false, .bool false, .bool false, .bool false, .bool false, .bool false, .bool false, .bool false, .bool false, .bool false, .bool false, .bool false, .bool false, .bool false, .bool false, .bool false, .bool false, .bool false, .bool false, .bool false, .bool false, .bool false] 81)) 81 #[.bool false, .bool false, .bool false, .bool false, .bool false, .bool false, .bool false, .bool false, .bool false, .bool false, .bool false, .bool false, .bool false, .bool false, .bool false, .bool false, .bool false, .bool false, .bool false, .bool false, .bool false, .bool false, .bool false, .bool false, .bool false, .bool false, .bool false, .bool false, .bool false, .bool false, .bool false, .bool false, .bool false, .bool false, .bool false, .bool false, .bool false, .bool false, .bool false, .bool false, .bool false, .bool false, .bool false, .bool false, .bool false, .bool false, .bool false, .bool false, .bool false, .bool false, .bool false, .bool false, .bool false, .bool false, .bool false, .bool false, .bool false, .bool false, .bool false, .bool false, .bool false, .bool false, .bool false, .bool false]
  have q2' := (q0.alloc (.cells #[.bool false, .bool false, .bool false, .bool false, .bool false, .bool false, .bool false, .bool false, .bool false, .bool false, .bool false, .bool false, .bool false, .bool false, .bool false, .bool false, .bool false, .bool false, .bool false, .bool false, .bool false, .bool false, .bool false, .bool false, .bool false, .bool false, .bool false, .bool false, .bool false, .bool false, .bool false, .bool false, .bool false, .bool false, .bool false, .bool false, .bool false, .bool false, .bool false, .bool false, .bool false, .bool false, .bool false, .bool false, .bool false, .bool false, .bool false, .bool false, .bool false, .bool false, .bool false, .bool false, .bool false, .bool false, .bool false, .bool false, .bool false, .bool false, .bool false, .bool false, .bool false, .bool false, .bool false, .bool false] 81)).alloc (.cells #[.bool false, .bool false, .bool false, .bool false, .bool false, .bool false, .bool false, .bool false, .bool false, .bool false, .bool false, .bool false, .bool false, .bool false, .bool false, .bool false, .bool false, .bool false, .bool false, .bool false, .bool false, .bool false, .bool false, .bool false, .bool false, .bool false, .bool false, .bool false, .bool false, .bool false, .bool false, .bool false, .bool false, .bool false, .bool false, .bool false, .bool false, .bool false, .bool false, .bool false, .bool false, .bool false, .bool false, .bool false, .bool false, .bool false, .bool false, .bool false, .bool false, .bool false, .bool false, .bool false, .bool false, .bool false, .bool false, .bool false, .bool false, .bool false, .bool false, .bool false, .bool false, .bool false, .bool false, .bool false] 81)
  rw [World.size_alloc] at r1
  rw [World.size_alloc, World.size_alloc] at r2
  have hz : (#[.bool false, .bool false, .bool false, .bool false, .bool false, .bool false, .bool false, .bool false, .bool false, .bool false, .bool false, .bool false, .bool false, .bool false, .bool false, .bool false, .bool false, .bool false, .bool false, .bool false, .bool false, .bool false, .bool false, .bool false, .bool false, .bool false, .bool false, .bool false, .bool false, .bool false, .bool false, .bool false, .bool false, .bool false, .bool false, .bool false, .bool false, .bool false, .bool false, .bool false, .bool false, .bool false, .bool false, .bool false, .bool false, .bool false, .bool false, .bool false, .bool false, .bool false, .bool false, .bool false, .bool false, .bool false, .bool false, .bool false, .bool false, .bool false, .bool false, .bool false, .bool false, .bool false, .bool false, .bool false] : Array Value).toList = netsV N F 0 := by rw [netsV_zero]; rfl
  rw [hz] at r1 r2
  clear hz q0 b0
  go_enter Tryd.func46, Tryd.ntmps46
  go_upto_region 2 with (fail)
  generalize ((w.alloc (.cells #[.int .i64 (V : Int), .int .i64 (S : Int), .int .i64 (C : Int), .int .i64 (N : Int), .int .i64 (T : Int), .int .i64 (D : Int), .int .i64 (R : Int), .int .i64 (K : Int), .int .i64 (G : Int), .int .u64 z, .int .u64 (U : Int), .int .i64 (Q : Int), .int .i64 (P : Int), .int .i64 (B : Int)] 59)).alloc (.cells #[.bool false, .bool false, .bool false, .bool false, .bool false, .bool false, .bool false, .bool false, .bool false, .bool false, .bool false, .bool false, .bool false, .bool false, .bool false, .bool false, .bool false, .bool false, .bool false, .bool false, .bool false, .bool false, .bool false, .bool false, .bool false, .bool false, .bool false, .bool false, .bool false, .bool false, .bool false, .bool false, .bool false, .bool false, .bool false, .bool false, .bool false, .bool false, .bool false, .bool false, .bool false, .bool false, .bool false, .bool false, .bool false, .bool false, .bool false, .bool false, .bool false, .bool false, .bool false, .bool false, .bool false, .bool false, .bool false, .bool false, .bool false, .bool false, .bool false, .bool false, .bool false, .bool false, .bool false, .bool false] 81)).alloc (.cells #[.bool false, .bool false, .bool false, .bool false, .bool false, .bool false, .bool false, .bool false, .bool false, .bool false, .bool false, .bool false, .bool false, .bool false, .bool false, .bool false, .bool false, .bool false, .bool false, .bool false, .bool false, .bool false, .bool false, .bool false, .bool false, .bool false, .bool false, .bool false, .bool false, .bool false, .bool false, .bool false, .bool false, .bool false, .bool false, .bool false, .bool false, .bool false, .bool false, .bool false, .bool false, .bool false, .bool false, .bool false, .bool false, .bool false, .bool false, .bool false, .bool false, .bool false, .bool false, .bool false, .bool false, .bool false, .bool false, .bool false, .bool false, .bool false, .bool false, .bool false, .bool false, .bool false, .bool false, .bool false] 81) = w3 at *
  have hT3 := hT.below b1 hT.lt
  have y := q2'.cell
  have y0 := y 0
  have y1 := y 1
  have y2 := y 2
  have y3 := y 3
  have y4 := y 4
  have y5 := y 5
  have y6 := y 6
  have y7 := y 7
  have y8 := y 8
  have y9 := y 9
  have y10 := y 10
  have y11 := y 11
  have y12 := y 12
  have y13 := y 13
  simp only [List.getElem?_cons_zero, List.getElem?_cons_succ] at y0 y1 y2 y3 y4 y5 y6 y7 y8 y9 y10 y11 y12 y13
  clear y
  go_wp2_with fail
  with_reducible refine (cF _ hT3).mono ?_
  rintro o w4 ⟨rfl, b4⟩
  clear y0 y1 y2 y3 y4 y5 y6 y7 y8 y9 y10 y11 y12 y13 cF
  replace q2' := q2'.on b4
  replace r1 := r1.on b4
  replace r2 := r2.on b4
  have B4 := b1.trans (b4.mono b1.size)
  have hlt1 := r1.lt
  have hlt2 := r2.lt
  clear b1 b4 hT3 hT
  have y11 := q2'.cell 11
  simp only [List.getElem?_cons_zero, List.getElem?_cons_succ] at y11
  go_wp2_with fail
  clear y11
  go_loopw [17] (fun iv wr => ∃ j : Nat, j ≤ m ∧ iv = .int .i64 (j : Int) ∧ RowAt wr (w.heap.size + 1 + 1) 81 (netsV N F j) ∧ RowAt wr (w.heap.size + 1) 81 (netsV N F 0) ∧ Below w.heap.size w wr) (fun iv _ => m - (RowKit.intOf iv).toNat)
  case atStart => exact ⟨0, Nat.zero_le _, rfl, r2, r1, B4⟩
  case round =>
    obtain ⟨j, hj, rfl, s2, s1, hb⟩ := hrel
    by_cases hjm : j < m
    · have g1 : ((j : Int) < (m : Int)) = True := eq_true (by omega)
      have g2 : (j < m) = True := eq_true hjm
      have hjN : j < N := by omega
      have e2 : IntKind.i64.wrap ((F : Int) + (j : Int)) = (F : Int) + (j : Int) := wrap_small (by omega) (by omega)
      have e3 : ((F : Int) + (j : Int)).tmod (N : Int) = (((F + j) % N : Nat) : Int) := tmod_nat (F + j) N
      have hr : (F + j) % N < N := Nat.mod_lt _ (by omega)
      have HS := Lib.hid (netsV_step hF hjN)
      have HG := Lib.hid (netsV_get N F j ((F + j) % N) (by omega))
      obtain ⟨r, hr9⟩ : ∃ r, (F + j) % N = r := ⟨_, rfl⟩
      rw [hr9] at e3 hr HS HG
      clear hr9
      have e4 : IntKind.i64.wrap (r : Int) = (r : Int) := wrap_small (by omega) (by omega)
      have e5 : ((N : Int) = 0) = False := eq_false (by omega)
      have e6 : (N = 0) = False := eq_false (by omega)
      have e7 : ((r : Int) < 64) = True := eq_true (by omega)
      have e8 : (r < 64) = True := eq_true (by omega)
      have e9 : ((r : Int) < 0) = False := eq_false (by omega)
      have c2 : wr.cell? ⟨w.heap.size + 1 + 1, r, none⟩ = _ := (s2.cell r).trans HG.out
      have f2 : wr.frozen? ⟨w.heap.size + 1 + 1, r, none⟩ = false := s2.frozen r
      go_wp2_with fail
      go_roundw
      case rel => exact ⟨j + 1, by omega, by go_num, by rw [← HS.out]; exact s2.set r _, s1.far (p := ⟨w.heap.size + 1 + 1, r, none⟩) (by simp) _, hb.setCell (p := ⟨w.heap.size + 1 + 1, r, none⟩) (by show w.heap.size ≤ w.heap.size + 1 + 1; omega) _⟩
      case measure => simp [RowKit.intOf]; omega
    · obtain rfl : j = m := by omega
      have g1 : ((j : Int) < (j : Int)) = False := eq_false (by omega)
      have hq2 : ∀ k v, (netsV N F j)[k]? = some v → wr.cell? ⟨w.heap.size + 1 + 1, 0 + k, none⟩ = some v := fun k v hv => by rw [Nat.zero_add, s2.cell]; exact hv
      have s3 := setRow_row s1 (netsV N F j)
      have hb3 := below_setRow hb (show w.heap.size ≤ w.heap.size + 1 by omega) (netsV N F j).toArray
      have h64 : (Tryd.prog.info? 81).map (·.size) = some 64 := by kernel_rfl
      go_upto_region 9 with (fail)
      refine wp_region_lit ?_
      refine wpList_load_mid rfl 81 _ rfl (w.heap.size + 1 + 1) 0 rfl (netsV N F j) _ hq2 Tryd.underlying81 rfl (by rw [netsV_length]; exact h64) ?_
      refine wpList_store_row rfl 81 _ _ rfl (w.heap.size + 1) (netsV N F j).toArray rfl rfl 81 (netsV N F 0).toArray s1 (by rw [List.size_toArray, netsV_length]; exact h64) (by rw [List.size_toArray, List.size_toArray, netsV_length, netsV_length]) (by rw [Array.all_eq_true_iff_forall_mem]; intro v hv; rw [List.mem_toArray] at hv; unfold netsV at hv; obtain ⟨i, _, rfl⟩ := List.mem_map.1 hv; rfl) ?_
      go_wp2_with fail
      refine bodyPost_ret (v := .agg (netsV N F j).toArray) (results_cell_row Tryd.results46 _ _ (w.heap.size + 1) 81 (netsV N F j).toArray (0, 0) _ rfl s3 Tryd.underlying81 rfl (by rw [List.size_toArray, netsV_length]; exact h64)) rfl ?_
      exact ⟨by rw [HM.out], hb3⟩
end Go.Proofs.YthlajfoipafaaaaDoor

namespace Go.Proofs.YthlajfoipafaaaaDoor
open Go.RowKit Go.Lib

/-- The subnets below i that are on. -/
def prefI (N f k i : Nat) : List Int := ((List.range i).filter (onB N f k)).map fun n : Nat => (n : Int)
theorem prefI_on {N f k i : Nat} (h : onB N f k i = true) : prefI N f k (i + 1) = prefI N f k i ++ [(i : Int)] := by simp [prefI, List.range_succ, h]
theorem prefI_off {N f k i : Nat} (h : onB N f k i = false) : prefI N f k (i + 1) = prefI N f k i := by simp [prefI, List.range_succ, h]
theorem prefI_len (N f k i : Nat) : (prefI N f k i).length ≤ i := by
  unfold prefI
  rw [List.length_map]
  exact Nat.le_trans (List.length_filter_le _ _) (by simp)
theorem prefI_all (N f k : Nat) : ∀ i, N ≤ i → prefI N f k i = netsI N f k
  | 0, h => by rw [show N = 0 by omega]; rfl
  | i + 1, h => by
    rcases Nat.lt_or_ge i N with h1 | h1
    · rw [show N = i + 1 by omega]; rfl
    · rw [prefI_off (by simp [onB, show ¬ i < N by omega]), prefI_all N f k i h1]
theorem bits8_len (N f k : Nat) (h : N ≤ 64) : (netsI N f k).length ≤ 64 := by
  rw [← prefI_all N f k N (Nat.le_refl _)]
  exact Nat.le_trans (prefI_len N f k N) h

/-- An array's element, by value. -/
theorem index_row {l : List Value} {i : Nat} {x : Bool} (h : l[i]? = some (.bool x)) (hi : i < 64) (W : World) : (Instr.index 81 (.agg l.toArray) (.int .i64 (i : Int))).run Tryd.prog W = .ok (.bool x) W := by
  simp [Instr.index, run_underlying Tryd.underlying81, asIntOf, go_sem, hi, h]

set_option maxHeartbeats 2000000 in
set_option maxRecDepth 100000 in
theorem tbits_any (V S C N T D R K G U Q P B : Nat) (z : Int) (w : World) (h : FitD V S C N T D R K G) (hp : FitP Q P) (hB9 : B ≤ 2199023255552) (hT : Tab w) (L : List Int) (hL : netsI N (firstN N K U B) Q = L) :
    Calls Tryd.prog 27 #[.agg #[.int .i64 (V : Int), .int .i64 (S : Int), .int .i64 (C : Int), .int .i64 (N : Int), .int .i64 (T : Int), .int .i64 (D : Int), .int .i64 (R : Int), .int .i64 (K : Int), .int .i64 (G : Int), .int .u64 z, .int .u64 (U : Int), .int .i64 (Q : Int), .int .i64 (P : Int), .int .i64 (B : Int)]] w fun o w' => ∃ A c, o = .returned (.agg #[.int .i64 (N : Int), .slice A L.length c]) ∧ Bt w' (.agg #[.int .i64 (N : Int), .slice A L.length c]) N L ∧ FromOn w.heap.size (.slice A L.length c) ∧ Below w.heap.size w w' := by
  obtain ⟨n1, n2⟩ : 1 ≤ N ∧ N ≤ 64 := ⟨h.n1, h.n2⟩
  obtain ⟨i0, hi, hz0, hz1, hz2⟩ := info_parts info_int
  have cN := fun W hW => nets_any V S C N T D R K G U Q P B z W h hp hB9 hW
  rw [← prefI_all _ _ _ 64 n2] at hL
  subst hL
  generalize firstN N K U B = F at *
  obtain ⟨W0, hW0⟩ : ∃ W0, W0 = ((w.alloc (.cells #[.int .i64 (V : Int), .int .i64 (S : Int), .int .i64 (C : Int), .int .i64 (N : Int), .int .i64 (T : Int), .int .i64 (D : Int), .int .i64 (R : Int), .int .i64 (K : Int), .int .i64 (G : Int), .int .u64 z, .int .u64 (U : Int), .int .i64 (Q : Int), .int .i64 (P : Int), .int .i64 (B : Int)] 59)).alloc (.cells #[.int .i64 0, .slice none 0 0] 37)).alloc (.cells #[.int .i64 (N : Int), .slice none 0 0] 37) := ⟨_, rfl⟩
  have qt : RowAt W0 w.heap.size 59 [.int .i64 (V : Int), .int .i64 (S : Int), .int .i64 (C : Int), .int .i64 (N : Int), .int .i64 (T : Int), .int .i64 (D : Int), .int .i64 (R : Int), .int .i64 (K : Int), .int .i64 (G : Int), .int .u64 z, .int .u64 (U : Int), .int .i64 (Q : Int), .int .i64 (P : Int), .int .i64 (B : Int)] := by rw [hW0]; exact ((RowAt.new w 59 #[.int .i64 (V : Int), .int .i64 (S : Int), .int .i64 (C : Int), .int .i64 (N : Int), .int .i64 (T : Int), .int .i64 (D : Int), .int .i64 (R : Int), .int .i64 (K : Int), .int .i64 (G : Int), .int .u64 z, .int .u64 (U : Int), .int .i64 (Q : Int), .int .i64 (P : Int), .int .i64 (B : Int)]).alloc _).alloc _
  have p0 : RowAt W0 (w.heap.size + 1) 37 [.int .i64 0, .slice none 0 0] := by
    have := (RowAt.new (w.alloc (.cells #[.int .i64 (V : Int), .int .i64 (S : Int), .int .i64 (C : Int), .int .i64 (N : Int), .int .i64 (T : Int), .int .i64 (D : Int), .int .i64 (R : Int), .int .i64 (K : Int), .int .i64 (G : Int), .int .u64 z, .int .u64 (U : Int), .int .i64 (Q : Int), .int .i64 (P : Int), .int .i64 (B : Int)] 59)) 37 #[.int .i64 0, .slice none 0 0]).alloc (.cells #[.int .i64 (N : Int), .slice none 0 0] 37)
    rw [World.size_alloc] at this
    rw [hW0]; exact this
  have p1 : RowAt W0 (w.heap.size + 1 + 1) 37 [.int .i64 (N : Int), .slice none 0 0] := by
    have := RowAt.new ((w.alloc (.cells #[.int .i64 (V : Int), .int .i64 (S : Int), .int .i64 (C : Int), .int .i64 (N : Int), .int .i64 (T : Int), .int .i64 (D : Int), .int .i64 (R : Int), .int .i64 (K : Int), .int .i64 (G : Int), .int .u64 z, .int .u64 (U : Int), .int .i64 (Q : Int), .int .i64 (P : Int), .int .i64 (B : Int)] 59)).alloc (.cells #[.int .i64 0, .slice none 0 0] 37)) 37 #[.int .i64 (N : Int), .slice none 0 0]
    rw [World.size_alloc, World.size_alloc] at this
    rw [hW0]; exact this
  have hB0 : Below w.heap.size w W0 := by rw [hW0]; exact (((Below.refl _ w).alloc (Nat.le_refl _) _).alloc (by simp) _).alloc (by simp; omega) _
  have hs0 : w.heap.size + 3 ≤ W0.heap.size := by rw [hW0]; simp
  go_enter Tryd.func27, Tryd.ntmps27
  go_upto_region 2 with (fail)
  rw [← hW0]
  clear hW0
  have hT0 := hT.below hB0 hT.lt
  have y := qt.cell
  have y0 := y 0
  have y1 := y 1
  have y2 := y 2
  have y3 := y 3
  have y4 := y 4
  have y5 := y 5
  have y6 := y 6
  have y7 := y 7
  have y8 := y 8
  have y9 := y 9
  have y10 := y 10
  have y11 := y 11
  have y12 := y 12
  have y13 := y 13
  simp only [List.getElem?_cons_zero, List.getElem?_cons_succ] at y0 y1 y2 y3 y4 y5 y6 y7 y8 y9 y10 y11 y12 y13
  clear y
  go_wp2_with fail
  with_reducible refine (cN _ hT0).mono ?_
  rintro o w1 ⟨rfl, bN⟩
  clear y0 y1 y2 y3 y4 y5 y6 y7 y8 y9 y10 y11 y12 y13 qt cN hT0 hT
  replace p0 := p0.on bN
  replace p1 := p1.on bN
  have B1 := hB0.trans (bN.mono hB0.size)
  have hs1 : w.heap.size + 3 ≤ w1.heap.size := Nat.le_trans hs0 bN.size
  clear bN hB0 hs0
  have HG := Lib.hid (netsV_get N F Q)
  have hlen9 := netsV_length N F Q
  generalize netsV N F Q = nv at *
  go_wp2_with fail
  go_loopw [12] (fun iv wr => ∃ i : Nat, i ≤ 64 ∧ iv = .int .i64 i ∧ (∃ u, RowAt wr (w.heap.size + 1 + 1) 37 [.int .i64 (N : Int), u] ∧ wr.ownsRow w1.heap.size 3 1 u (prefI N F Q i).length ((prefI N F Q i).map (Value.int .i64))) ∧ RowAt wr (w.heap.size + 1) 37 [.int .i64 0, .slice none 0 0] ∧ w1.heap.size ≤ wr.heap.size ∧ Below w.heap.size w wr) (fun i _ => 64 - (RowKit.intOf i).toNat)
  case atStart => exact ⟨0, Nat.zero_le _, rfl, ⟨_, p1, World.ownsRow_nil _ _ _ _⟩, p0, Nat.le_refl _, B1⟩
  case round =>
    obtain ⟨i, hip, rfl, ⟨u, q1, hown⟩, q0, hsz, hB⟩ := hrel
    clear p0 p1 B1
    obtain ⟨c10, c11⟩ := q1.two
    by_cases hlt : i < 64
    · have g1 : ((i : Int) < 64) = True := eq_true (by omega)
      have hX := index_row (HG.out i hlt) hlt wr
      have hlen := prefI_len N F Q i
      have HON := Lib.hid (@prefI_on N F Q i)
      have HOFF := Lib.hid (@prefI_off N F Q i)
      generalize onB N F Q i = t at *
      cases t
      · go_wp2_with fail
        go_roundw
        case rel =>
          refine ⟨i + 1, by omega, by go_num, ⟨u, q1, ?_⟩, q0, hsz, hB⟩
          rw [HOFF.out (by trivial)]; exact hown
        case measure => simp [RowKit.intOf]; omega
      · go_wp2_with (at_builtin; refine wpList_append_own _ rfl _ _ 35 rfl w1.heap.size 3 i0 (.int .i64 0) 1 8 Tryd.underlying35 hi hz0 hz1 hz2 rfl (by decide) _ _ _ rfl (hown.alloc _) ⟨wr.heap.size, 0, none⟩ 1 1 [.int .i64 (i : Int)] rfl rfl (cell_one_new _ _ _) (by simp [Value.oneCell']) (by have : maxLen = 9223372036854775807 := rfl; omega) (by omega) (by simp; omega) ?_; intro v' w2 hown2 hgrow _; obtain ⟨g', cap', rfl⟩ := ownsRow_succ hown2; have d3 := rowAt_append hown hgrow q1 (by omega); have d31 := d3.cell 1; have d30 := d3.frozen 1; simp only [List.getElem?_cons_zero, List.getElem?_cons_succ] at d31)
        have hgrow' : (wr.alloc (.cells #[.int .i64 (i : Int)] 3)).grownBy w2 u.ownBlock := hgrow
        go_roundw
        case rel =>
          refine ⟨i + 1, by omega, by go_num, ⟨_, d3.set 1 _, ?_⟩, (rowAt_append hown hgrow' q0 (by omega)).far (p := ⟨w.heap.size + 1 + 1, 1, none⟩) (by simp) _, ?_, hB.trans (below_append hown hgrow' (by omega) (by have := hB.size; omega) (p := ⟨w.heap.size + 1 + 1, 1, none⟩) (by simp; omega) _)⟩
          · have := ownsRow_setCell_below hown2 (a := ⟨w.heap.size + 1 + 1, 1, none⟩) (by show w.heap.size + 1 + 1 < _; omega) (.slice (some ⟨g', 0, none⟩) ((prefI N F Q i).length + 1) cap')
            rw [HON.out (by trivial)]
            simpa using this
          · have := hgrow'.size
            simp [World.setCell] at this ⊢
            omega
        case measure => simp [RowKit.intOf]; omega
    · obtain rfl : i = 64 := by omega
      obtain ⟨Au, cu, rfl⟩ : ∃ Au cu, u = .slice Au (prefI N F Q 64).length cu := by
        obtain ⟨Au, cu, e, _⟩ := (Elems.own (enc := Value.int .i64) (xs := prefI N F Q 64) hown).form
        exact ⟨Au, cu, e⟩
      have HO := Lib.hid hown
      have HQ := Lib.hid q0
      obtain ⟨c00, c01⟩ := q0.two
      have f0 := q0.frozen 0
      have f1 := q0.frozen 1
      clear hown q0
      go_wp2_with fail
      have R := (HQ.out.set 0 (.int .i64 (N : Int))).set 1 (.slice Au (prefI N F Q 64).length cu)
      have e0 := R.cell 0
      have e1 := R.cell 1
      simp only [List.set_cons_zero, List.set_cons_succ, List.getElem?_cons_zero, List.getElem?_cons_succ] at e0 e1
      refine bodyPost_ret (v := .agg #[.int .i64 (N : Int), .slice Au (prefI N F Q 64).length cu]) (by simp [results, Tryd.results27, go_sem, e0, e1]) rfl ?_
      refine ⟨Au, cu, rfl, ⟨_, rfl, ?_⟩, (fromOn_own HO.out).less (by omega), (hB.setCell (p := ⟨w.heap.size + 1, 0, none⟩) (by simp) _).setCell (p := ⟨w.heap.size + 1, 1, none⟩) (by simp) _⟩
      have := ownsRow_setCell_below (ownsRow_setCell_below HO.out (a := ⟨w.heap.size + 1, 0, none⟩) (by show w.heap.size + 1 < _; omega) (.int .i64 (N : Int))) (a := ⟨w.heap.size + 1, 1, none⟩) (by show w.heap.size + 1 < _; omega) (.slice Au (prefI N F Q 64).length cu)
      exact Elems.own this

set_option maxHeartbeats 2000000 in
set_option maxRecDepth 100000 in
theorem tword_any (V S C N T D R K G U Q P B : Nat) (z : Int) (w : World) (h : FitD V S C N T D R K G) (hp : FitP Q P) (hB9 : B ≤ 2199023255552) (hT : Tab w) :
    Calls Tryd.prog 36 #[.agg #[.int .i64 (V : Int), .int .i64 (S : Int), .int .i64 (C : Int), .int .i64 (N : Int), .int .i64 (T : Int), .int .i64 (D : Int), .int .i64 (R : Int), .int .i64 (K : Int), .int .i64 (G : Int), .int .u64 z, .int .u64 (U : Int), .int .i64 (Q : Int), .int .i64 (P : Int), .int .i64 (B : Int)]] w fun o w' => o = .returned (.int .u64 (wordN N (firstN N K U B) Q : Int)) ∧ Below w.heap.size w w' := by
  have cN := fun W hW => nets_any V S C N T D R K G U Q P B z W h hp hB9 hW
  unfold wordN
  generalize firstN N K U B = F at *
  have b0 := (Below.refl w.heap.size w).alloc (Nat.le_refl _) (.cells #[.int .i64 (V : Int), .int .i64 (S : Int), .int .i64 (C : Int), .int .i64 (N : Int), .int .i64 (T : Int), .int .i64 (D : Int), .int .i64 (R : Int), .int .i64 (K : Int), .int .i64 (G : Int), .int .u64 z, .int .u64 (U : Int), .int .i64 (Q : Int), .int .i64 (P : Int), .int .i64 (B : Int)] 59)
  have qt := RowAt.new w 59 #[.int .i64 (V : Int), .int .i64 (S : Int), .int .i64 (C : Int), .int .i64 (N : Int), .int .i64 (T : Int), .int .i64 (D : Int), .int .i64 (R : Int), .int .i64 (K : Int), .int .i64 (G : Int), .int .u64 z, .int .u64 (U : Int), .int .i64 (Q : Int), .int .i64 (P : Int), .int .i64 (B : Int)]
  have hT0 := hT.below b0 hT.lt
  go_enter Tryd.func36, Tryd.ntmps36
  go_upto_region 2 with (fail)
  generalize w.alloc (.cells #[.int .i64 (V : Int), .int .i64 (S : Int), .int .i64 (C : Int), .int .i64 (N : Int), .int .i64 (T : Int), .int .i64 (D : Int), .int .i64 (R : Int), .int .i64 (K : Int), .int .i64 (G : Int), .int .u64 z, .int .u64 (U : Int), .int .i64 (Q : Int), .int .i64 (P : Int), .int .i64 (B : Int)] 59) = w0 at *
  have y := qt.cell
  have y0 := y 0
  have y1 := y 1
  have y2 := y 2
  have y3 := y 3
  have y4 := y 4
  have y5 := y 5
  have y6 := y 6
  have y7 := y 7
  have y8 := y 8
  have y9 := y 9
  have y10 := y 10
  have y11 := y 11
  have y12 := y 12
  have y13 := y 13
  simp only [List.getElem?_cons_zero, List.getElem?_cons_succ] at y0 y1 y2 y3 y4 y5 y6 y7 y8 y9 y10 y11 y12 y13
  clear y
  go_wp2_with fail
  with_reducible refine (cN _ hT0).mono ?_
  rintro o w1 ⟨rfl, bN⟩
  clear y0 y1 y2 y3 y4 y5 y6 y7 y8 y9 y10 y11 y12 y13 qt cN hT0 hT
  have B1 := b0.trans (bN.mono b0.size)
  clear bN b0
  have HG := Lib.hid (netsV_get N F Q)
  generalize netsV N F Q = nv at *
  go_wp2_with fail
  go_loopw [3, 8] (fun wv iv wr => ∃ i : Nat, i ≤ 64 ∧ iv = .int .i64 i ∧ wv = .int .u64 (wordTo (onB N F Q) i : Int) ∧ wr = w1) (fun _ i _ => 64 - (RowKit.intOf i).toNat)
  case atStart => exact ⟨0, Nat.zero_le _, rfl, rfl, rfl⟩
  case round =>
    obtain ⟨i, hip, rfl, rfl, rfl⟩ := hrel
    by_cases hlt : i < 64
    · have g1 : ((i : Int) < 64) = True := eq_true (by omega)
      have hX := index_row (HG.out i hlt) hlt wr
      have HON := Lib.hid (@wordTo_or (onB N F Q) i)
      have HOFF := Lib.hid (@wordTo_off (onB N F Q) i)
      have hlW := wordTo_lt (onB N F Q) i
      generalize onB N F Q i = t at *
      cases t
      · go_wp2_with fail
        go_roundw
        case rel => exact ⟨i + 1, by omega, by go_num, by rw [HOFF.out (by trivial)], trivial⟩
        case measure => simp [RowKit.intOf]; omega
      · have hp2 : 2 ^ i ≤ 2 ^ 63 := Nat.pow_le_pow_right (by decide) (by omega)
        have e2 : IntKind.u64.wrap ((2 : Int) ^ i) = ((2 ^ i : Nat) : Int) := by
          rw [show ((2 : Int) ^ i) = ((2 ^ i : Nat) : Int) from (Int.natCast_pow 2 i).symm]
          exact IntWalk.u64_in _ (by omega)
        have hX2 : wordTo (onB N F Q) i < 18446744073709551616 := by omega
        have H2 := Lib.hid (show wordTo (onB N F Q) i ||| 2 ^ i = wordTo (onB N F Q) (i + 1) from HON.out (by trivial))
        obtain ⟨b2, hb2⟩ : ∃ b2, 2 ^ i = b2 := ⟨_, rfl⟩
        rw [hb2] at e2 hp2 H2
        clear hb2 hlW HON HOFF
        generalize wordTo (onB N F Q) i = X at *
        have e3 : bits .or .u64 (X : Int) (b2 : Int) = ((X ||| b2 : Nat) : Int) := by
          have := u64_or (X : Int) (b2 : Int) (by omega) (by omega) (by omega) (by omega)
          simpa using this
        go_wp2_with fail
        go_roundw
        case rel => exact ⟨i + 1, by omega, by go_num, by rw [H2.out], trivial⟩
        case measure => simp [RowKit.intOf]; omega
    · obtain rfl : i = 64 := by omega
      go_wp2_with fail
      go_ret
      exact ⟨rfl, B1⟩

set_option maxHeartbeats 1000000 in
theorem tend_any (V S C N T D R K G U Q P B : Nat) (z : Int) (w : World) (hp : FitP Q P) (hB9 : B ≤ 2199023255552) :
    Calls Tryd.prog 33 #[.agg #[.int .i64 (V : Int), .int .i64 (S : Int), .int .i64 (C : Int), .int .i64 (N : Int), .int .i64 (T : Int), .int .i64 (D : Int), .int .i64 (R : Int), .int .i64 (K : Int), .int .i64 (G : Int), .int .u64 z, .int .u64 (U : Int), .int .i64 (Q : Int), .int .i64 (P : Int), .int .i64 (B : Int)]] w fun o w' => o = .returned (.int .i64 (endN U P B : Int)) ∧ Below w.heap.size w w' := by
  obtain ⟨p1, p2⟩ : 1 ≤ P ∧ P ≤ 256 := ⟨hp.p1, hp.p2⟩
  have cS := fun W => shift_any U P (Q : Int) W p1 p2
  have hs : U % P < P := Nat.mod_lt _ (by omega)
  have hE : (((B + 1) * P : Nat) : Int) - ((U % P : Nat) : Int) = (endN U P B : Int) := by unfold endN; have := Nat.le_mul_of_pos_left P (show 0 < B + 1 by omega); omega
  have hM : (B + 1) * P ≤ 2199023255553 * 256 := Nat.mul_le_mul (by omega) p2
  have hE9 : endN U P B ≤ (B + 1) * P := by unfold endN; omega
  have e0 : IntKind.i64.wrap ((B : Int) + 1) = (B : Int) + 1 := wrap_small (by omega) (by omega)
  have e1 : ((B : Int) + 1) * (P : Int) = (((B + 1) * P : Nat) : Int) := (Int.natCast_mul (B + 1) P).symm
  generalize (B + 1) * P = M at *
  generalize endN U P B = E at *
  generalize U % P = sh at *
  have e2 : IntKind.i64.wrap (M : Int) = (M : Int) := wrap_small (by omega) (by omega)
  have e3 : IntKind.i64.wrap (E : Int) = (E : Int) := wrap_small (by omega) (by omega)
  have q := RowAt.new w 59 #[.int .i64 (V : Int), .int .i64 (S : Int), .int .i64 (C : Int), .int .i64 (N : Int), .int .i64 (T : Int), .int .i64 (D : Int), .int .i64 (R : Int), .int .i64 (K : Int), .int .i64 (G : Int), .int .u64 z, .int .u64 (U : Int), .int .i64 (Q : Int), .int .i64 (P : Int), .int .i64 (B : Int)]
  have b0 := (Below.refl w.heap.size w).alloc (Nat.le_refl _) (.cells #[.int .i64 (V : Int), .int .i64 (S : Int), .int .i64 (C : Int), .int .i64 (N : Int), .int .i64 (T : Int), .int .i64 (D : Int), .int .i64 (R : Int), .int .i64 (K : Int), .int .i64 (G : Int), .int .u64 z, .int .u64 (U : Int), .int .i64 (Q : Int), .int .i64 (P : Int), .int .i64 (B : Int)] 59)
  have y0 := q.later7 0 _ rfl
  have y1 := q.later7 1 _ rfl
  have y2 := q.later7 2 _ rfl
  have y3 := q.later7 3 _ rfl
  have y4 := q.later7 4 _ rfl
  have y5 := q.later7 5 _ rfl
  have y6 := q.later7 6 _ rfl
  have y7 := q.later7 7 _ rfl
  have y8 := q.later7 8 _ rfl
  have y9 := q.later7 9 _ rfl
  have y10 := q.later7 10 _ rfl
  have y11 := q.later7 11 _ rfl
  have y12 := q.later7 12 _ rfl
  have y13 := q.later7 13 _ rfl
  generalize hw1 : w.alloc (.cells #[.int .i64 (V : Int), .int .i64 (S : Int), .int .i64 (C : Int), .int .i64 (N : Int), .int .i64 (T : Int), .int .i64 (D : Int), .int .i64 (R : Int), .int .i64 (K : Int), .int .i64 (G : Int), .int .u64 z, .int .u64 (U : Int), .int .i64 (Q : Int), .int .i64 (P : Int), .int .i64 (B : Int)] 59) = w1 at q b0 y0 y1 y2 y3 y4 y5 y6 y7 y8 y9 y10 y11 y12 y13
  have HS : ∀ p : Later w1, Calls Tryd.prog 45 #[.agg #[.int .u64 (U : Int), .int .i64 (Q : Int), .int .i64 (P : Int)]] p.W fun e w_ => e = .returned (.int .i64 (sh : Int)) ∧ ∃ p : Later w1, w_ = p.W := fun p => later_of (cS _)
  go_enter Tryd.func33, Tryd.ntmps33
  go_upto_region 1 with (fail)
  clear hw1
  refine wp_region_later (by kernel_rfl) (by kernel_rfl) ?_
  repeat (go_big_quiet_step (first | (go_at_call 45; exact HS _)))
  refine wpQuiet_nil ?_
  intro _ hw'
  obtain ⟨pq, rfl⟩ := hw'
  go_wp2_with fail
  go_ret
  exact ⟨rfl, b0.trans (pq.h.mono b0.size)⟩
end Go.Proofs.YthlajfoipafaaaaDoor
