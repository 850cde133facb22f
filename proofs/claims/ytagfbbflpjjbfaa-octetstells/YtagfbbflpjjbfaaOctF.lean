/- octets.Join: the closure, attempt, and the call itself. -/
import Derived.Test.YtagfbbflpjjbfaaOctE
namespace Go.Proofs.Ytagfbbflpjjbfaa
open Go.RowKit

theorem join_no (f : ByteArray) (ss : List ByteArray) (v : Value) (w : World) (hv : Strs w w.heap.size v ss) (hc9 : ss.length ≤ 9223372036854775807) (hf9 : f.size ≤ 9223372036854775807) (h : ¬ (ss.length ≤ 8 ∧ f.size + 4 * ss.length + strSum ss ≤ 65536)) :
    Calls Try.prog 26 #[.string f, v] w fun e w' => e = .panicked [{ v := .iface 28 (.int .i64 4), recovered := false }] ∧ w = w' := by
  obtain ⟨A, c, rfl, hc⟩ := hv.form
  go_enter Try.func26, Try.ntmps26
  go_wp2_with fail
  with_reducible refine (demandRoom_no f ss _ _ _ hv hc9 hf9 h).mono ?_
  rintro e w1 ⟨rfl, rfl⟩
  exact ⟨rfl, rfl, rfl⟩

theorem joinFn_yes (f : ByteArray) (ss : List ByteArray) (v x : Value) (N : Nat) (w : World) (hv : Strs w w.heap.size v ss) (h8 : ss.length ≤ 8) (hs : f.size + 4 * ss.length + strSum ss ≤ 65536)
    (hN : N + 3 ≤ w.heap.size) (c0 : w.cell? ⟨N, 0, none⟩ = some (.string f)) (c1 : w.cell? ⟨N + 1, 0, none⟩ = some v) (c2 : w.cell? ⟨N + 2, 0, none⟩ = some x) (f2 : w.frozen? ⟨N + 2, 0, none⟩ = false) :
    Calls Try.prog 25 #[.pointer (some ⟨N, 0, none⟩), .pointer (some ⟨N + 1, 0, none⟩), .pointer (some ⟨N + 2, 0, none⟩)] w fun e w' =>
      e = .returned (.tuple #[]) ∧ ∃ w1, Below w.heap.size w w1 ∧ w' = w1.setCell ⟨N + 2, 0, none⟩ (.string ⟨(wholeOf f.data.toList (txts ss)).toArray⟩) := by
  obtain ⟨A, c, rfl, hc⟩ := hv.form
  go_enter Try.func25, Try.ntmps25
  go_wp2_with fail
  with_reducible refine (join_yes f ss _ _ hv h8 hs).mono ?_
  rintro e w1 ⟨rfl, hb⟩
  obtain ⟨hc, hf⟩ := bcell hb
  have d2 : w1.cell? ⟨N + 2, 0, none⟩ = some x := by rw [hc _ _ (by omega)]; exact c2
  have g2 : w1.frozen? ⟨N + 2, 0, none⟩ = false := by rw [hf _ _ (by omega)]; exact f2
  clear hc hf c0 c1 c2 f2
  go_wp2
  go_end0
  exact ⟨rfl, w1, hb, rfl⟩

theorem joinFn_no (f : ByteArray) (ss : List ByteArray) (v : Value) (N : Nat) (w : World) (hv : Strs w w.heap.size v ss) (hc9 : ss.length ≤ 9223372036854775807) (hf9 : f.size ≤ 9223372036854775807) (h : ¬ (ss.length ≤ 8 ∧ f.size + 4 * ss.length + strSum ss ≤ 65536))
    (c0 : w.cell? ⟨N, 0, none⟩ = some (.string f)) (c1 : w.cell? ⟨N + 1, 0, none⟩ = some v) :
    Calls Try.prog 25 #[.pointer (some ⟨N, 0, none⟩), .pointer (some ⟨N + 1, 0, none⟩), .pointer (some ⟨N + 2, 0, none⟩)] w fun e w' =>
      e = .panicked [{ v := .iface 28 (.int .i64 4), recovered := false }] ∧ w = w' := by
  obtain ⟨A, c, rfl, hc⟩ := hv.form
  go_enter Try.func25, Try.ntmps25
  go_wp2_with fail
  with_reducible refine (join_no f ss _ _ hv hc9 hf9 h).mono ?_
  rintro e w1 ⟨rfl, rfl⟩
  exact ⟨rfl, rfl, rfl⟩

theorem tryJoin_yes (f : ByteArray) (ss : List ByteArray) (v x : Value) (N : Nat) (w : World) (hv : Strs w w.heap.size v ss) (h8 : ss.length ≤ 8) (hs : f.size + 4 * ss.length + strSum ss ≤ 65536)
    (hN : N + 3 = w.heap.size) (c0 : w.cell? ⟨N, 0, none⟩ = some (.string f)) (c1 : w.cell? ⟨N + 1, 0, none⟩ = some v) (c2 : w.cell? ⟨N + 2, 0, none⟩ = some x) (f2 : w.frozen? ⟨N + 2, 0, none⟩ = false) :
    Calls Try.prog 20 #[.func (.func 25) #[] #[.pointer (some ⟨N, 0, none⟩), .pointer (some ⟨N + 1, 0, none⟩), .pointer (some ⟨N + 2, 0, none⟩)]] w fun e w' =>
      e = .returned (.int .i64 0) ∧ w'.cell? ⟨N + 2, 0, none⟩ = some (.string ⟨(wholeOf f.data.toList (txts ss)).toArray⟩) ∧ Below N w w' := by
  have old : ∀ p : Addr, p.block < w.heap.size → (w.alloc (.cells #[.int .i64 0] 28)).cell? p = w.cell? p := fun p hp => World.cell?_alloc_lt _ _ _ hp
  have oldf : ∀ p : Addr, p.block < w.heap.size → (w.alloc (.cells #[.int .i64 0] 28)).frozen? p = w.frozen? p := fun p hp => World.frozen?_alloc_old _ _ _ (by omega)
  have hv' : Strs (w.alloc (.cells #[.int .i64 0] 28)) (w.alloc (.cells #[.int .i64 0] 28)).heap.size v ss := (hv.keep old).more (by simp)
  refine (attempt_ok 25 _ w (fun w' => ∃ w1, Below (w.heap.size + 1) (w.alloc (.cells #[.int .i64 0] 28)) w1 ∧ w' = w1.setCell ⟨N + 2, 0, none⟩ (.string ⟨(wholeOf f.data.toList (txts ss)).toArray⟩))
    (enters_of Try.func25 (by kernel_rfl) rfl) ((joinFn_yes f ss v x N _ hv' h8 hs (by simp; omega) ((old _ (by show N < _; omega)).trans c0) ((old _ (by show N + 1 < _; omega)).trans c1) ((old _ (by show N + 2 < _; omega)).trans c2) ((oldf _ (by show N + 2 < _; omega)).trans f2)).mono ?_)).mono ?_
  · rintro e w' ⟨rfl, w1, hb, rfl⟩
    have hr := (RowAt.new w 28 #[.int .i64 0]).below hb (by simp)
    refine ⟨rfl, ⟨w1, by simpa using hb, rfl⟩, ?_, ?_⟩
    · rw [World.cell?_setCell_other _ _ _ _ (by simp <;> omega), hr.cell]; rfl
    · rw [World.frozen?_setCell, hr.frozen]
  · rintro e w' ⟨rfl, w2, ⟨w1, hb, rfl⟩, rfl⟩
    have k2 : w1.cell? ⟨N + 2, 0, none⟩ = some x := (hb.cell (p := ⟨N + 2, 0, none⟩) (by show N + 2 < _; omega)).trans ((old _ (by show N + 2 < _; omega)).trans c2)
    refine ⟨rfl, ?_, ?_⟩
    · rw [World.cell?_setCell_other _ _ _ _ (by simp <;> omega), World.cell?_setCell_same _ _ _ k2]
    · have h0 : Below N w (w.alloc (.cells #[.int .i64 0] 28)) := (Below.refl _ _).alloc (by omega) _
      exact ((h0.trans (hb.mono (by omega))).setCell (by show N ≤ N + 2; omega) _).setCell (by show N ≤ w.heap.size; omega) _

theorem tryJoin_no (f : ByteArray) (ss : List ByteArray) (v : Value) (N : Nat) (w : World) (hv : Strs w w.heap.size v ss) (hc9 : ss.length ≤ 9223372036854775807) (hf9 : f.size ≤ 9223372036854775807) (h : ¬ (ss.length ≤ 8 ∧ f.size + 4 * ss.length + strSum ss ≤ 65536))
    (hN : N + 3 = w.heap.size) (c0 : w.cell? ⟨N, 0, none⟩ = some (.string f)) (c1 : w.cell? ⟨N + 1, 0, none⟩ = some v) :
    Calls Try.prog 20 #[.func (.func 25) #[] #[.pointer (some ⟨N, 0, none⟩), .pointer (some ⟨N + 1, 0, none⟩), .pointer (some ⟨N + 2, 0, none⟩)]] w fun e w' =>
      e = .returned (.int .i64 4) ∧ Below w.heap.size w w' := by
  have old : ∀ p : Addr, p.block < w.heap.size → (w.alloc (.cells #[.int .i64 0] 28)).cell? p = w.cell? p := fun p hp => World.cell?_alloc_lt _ _ _ hp
  have hv' : Strs (w.alloc (.cells #[.int .i64 0] 28)) (w.alloc (.cells #[.int .i64 0] 28)).heap.size v ss := (hv.keep old).more (by simp)
  refine (attempt_no 25 _ 4 w (fun w' => w.alloc (.cells #[.int .i64 0] 28) = w')
    (enters_of Try.func25 (by kernel_rfl) rfl) ((joinFn_no f ss v N _ hv' hc9 hf9 h ((old _ (by show N < _; omega)).trans c0) ((old _ (by show N + 1 < _; omega)).trans c1)).mono ?_)).mono ?_
  · rintro e w' ⟨rfl, rfl⟩
    have hr := RowAt.new w 28 #[.int .i64 0]
    exact ⟨rfl, rfl, by rw [hr.cell]; rfl, hr.frozen 0⟩
  · rintro e w' ⟨rfl, w2, rfl, rfl⟩
    exact ⟨rfl, ((Below.refl _ _).alloc (Nat.le_refl _) _).setCell (Nat.le_refl _) _⟩

theorem strs_alloc {w : World} {v : Value} {ss : List ByteArray} (h : Strs w w.heap.size v ss) (o : Obj) : Strs (w.alloc o) (w.alloc o).heap.size v ss :=
  (h.keep fun p hp => World.cell?_alloc_lt _ _ _ hp).more (by simp)

set_option maxHeartbeats 1000000 in
theorem Join_yes (f : ByteArray) (ss : List ByteArray) (v : Value) (w : World) (hv : Strs w w.heap.size v ss) (h8 : ss.length ≤ 8) (hs : f.size + 4 * ss.length + strSum ss ≤ 65536) :
    Calls Try.prog 15 #[.string f, v] w fun e w' => e = .returned (.tuple #[.string ⟨(wholeOf f.data.toList (txts ss)).toArray⟩, .int .i64 0]) ∧ Below w.heap.size w w' := by
  obtain ⟨A, c, rfl, hc⟩ := hv.form
  have hmf : ∀ (fn : Fn) (first cap : Array Value) (w : World), (Instr.makeFunc fn first cap).run Try.prog w = .ok (.func fn first cap) w := fun _ _ _ _ => rfl
  go_enter Try.func15, Try.ntmps15
  go_wp2_with fail
  refine (tryJoin_yes f ss _ (.string ⟨#[]⟩) w.heap.size _ (strs_alloc (strs_alloc (strs_alloc hv _) _) _) h8 hs ?_ ?_ ?_ ?_ ?_).mono ?_
  · simp
  · simp [go_sem]
  · simp [go_sem]
  · simp [go_sem]
  · simp [go_sem]
  rintro e w1 ⟨rfl, hc2, hb⟩
  have hb' : Below w.heap.size w w1 := Below.trans ((((Below.refl _ w).alloc (by simp) _).alloc (by simp <;> omega) _).alloc (by simp <;> omega) _) hb
  clear hb
  go_wp2
  go_ret2
  exact ⟨rfl, hb'⟩

set_option maxHeartbeats 1000000 in
theorem Join_no (f : ByteArray) (ss : List ByteArray) (v : Value) (w : World) (hv : Strs w w.heap.size v ss) (hc9 : ss.length ≤ 9223372036854775807) (hf9 : f.size ≤ 9223372036854775807) (h : ¬ (ss.length ≤ 8 ∧ f.size + 4 * ss.length + strSum ss ≤ 65536)) :
    Calls Try.prog 15 #[.string f, v] w fun e w' => e = .returned (.tuple #[.string ⟨#[]⟩, .int .i64 4]) ∧ Below w.heap.size w w' := by
  obtain ⟨A, c, rfl, hc⟩ := hv.form
  have hmf : ∀ (fn : Fn) (first cap : Array Value) (w : World), (Instr.makeFunc fn first cap).run Try.prog w = .ok (.func fn first cap) w := fun _ _ _ _ => rfl
  go_enter Try.func15, Try.ntmps15
  go_wp2_with fail
  refine (tryJoin_no f ss _ w.heap.size _ (strs_alloc (strs_alloc (strs_alloc hv _) _) _) hc9 hf9 h ?_ ?_ ?_).mono ?_
  · simp
  · simp [go_sem]
  · simp [go_sem]
  rintro e w1 ⟨rfl, hb⟩
  have hc2 : w1.cell? ⟨w.heap.size + 2, 0, none⟩ = some (.string ⟨#[]⟩) := by rw [(bcell hb).1 _ _ (by simp)]; simp [go_sem]
  have hb' : Below w.heap.size w w1 := Below.trans ((((Below.refl _ w).alloc (by simp) _).alloc (by simp <;> omega) _).alloc (by simp <;> omega) _) (hb.mono (by simp <;> omega))
  clear hb
  go_wp2
  go_ret2
  exact ⟨rfl, hb'⟩

/-- What Join answers: the whole, and the error. -/
def joinOf (f : Text) (ps : List Text) : Text × Int :=
  if ps.length ≤ 8 ∧ f.length + 4 * ps.length + sumLen ps ≤ 65536 then (wholeOf f ps, 0) else ([], 4)

theorem Join_any (f : ByteArray) (ss : List ByteArray) (v : Value) (w : World) (hv : Strs w w.heap.size v ss) (hc9 : ss.length ≤ 9223372036854775807) (hf9 : f.size ≤ 9223372036854775807) :
    Calls Try.prog 15 #[.string f, v] w fun e w' => e = .returned (.tuple #[.string ⟨(joinOf f.data.toList (txts ss)).1.toArray⟩, .int .i64 (joinOf f.data.toList (txts ss)).2]) ∧ Below w.heap.size w w' := by
  unfold joinOf
  rw [size_list, txts_length]
  by_cases h : ss.length ≤ 8 ∧ f.size + 4 * ss.length + sumLen (txts ss) ≤ 65536
  · rw [if_pos h]; exact Join_yes f ss v w hv h.1 h.2
  · rw [if_neg h]; exact Join_no f ss v w hv hc9 hf9 h
end Go.Proofs.Ytagfbbflpjjbfaa
