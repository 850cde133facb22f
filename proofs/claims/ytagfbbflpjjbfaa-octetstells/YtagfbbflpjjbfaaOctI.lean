/- octets.Split: the closure, attempt, and the call itself. -/
import Derived.Test.YtagfbbflpjjbfaaOctH
namespace Go.Proofs.Ytagfbbflpjjbfaa
open Go.RowKit

/-- split ends well: the fixed text, and the parts, in new memory. -/
def SplitYes (s : ByteArray) (fixed many : Int) (hd : ByteArray) (ps : List Text) : Prop :=
  ∀ w, Calls Try.prog 28 #[.string s, .int .i64 fixed, .int .i64 many] w fun e w' => ∃ v qs, e = .returned (.tuple #[.string hd, v]) ∧ Strs w' w'.heap.size v qs ∧ FromOn w.heap.size v ∧ txts qs = ps ∧ Below w.heap.size w w'
def SplitNo (s : ByteArray) (fixed many y : Int) : Prop :=
  ∀ w, Calls Try.prog 28 #[.string s, .int .i64 fixed, .int .i64 many] w (Panics y w)

/-- What is in the two results' cells. -/
def Holds (N : Nat) (hd : ByteArray) (ps : List Text) (w w' : World) : Prop :=
  ∃ v qs, w'.cell? ⟨N + 3, 0, none⟩ = some (.string hd) ∧ w'.cell? ⟨N + 4, 0, none⟩ = some v ∧ Strs w' w'.heap.size v qs ∧ FromOn w.heap.size v ∧ txts qs = ps

theorem splitFn_yes (s : ByteArray) (fixed many : Int) (hd : ByteArray) (ps : List Text) (x y : Value) (N : Nat) (w : World) (hyes : SplitYes s fixed many hd ps)
    (hN : N + 5 ≤ w.heap.size) (c0 : w.cell? ⟨N, 0, none⟩ = some (.string s)) (c1 : w.cell? ⟨N + 1, 0, none⟩ = some (.int .i64 fixed)) (c2 : w.cell? ⟨N + 2, 0, none⟩ = some (.int .i64 many))
    (c3 : w.cell? ⟨N + 3, 0, none⟩ = some x) (c4 : w.cell? ⟨N + 4, 0, none⟩ = some y) (f3 : w.frozen? ⟨N + 3, 0, none⟩ = false) (f4 : w.frozen? ⟨N + 4, 0, none⟩ = false) :
    Calls Try.prog 27 #[.pointer (some ⟨N, 0, none⟩), .pointer (some ⟨N + 1, 0, none⟩), .pointer (some ⟨N + 2, 0, none⟩), .pointer (some ⟨N + 3, 0, none⟩), .pointer (some ⟨N + 4, 0, none⟩)] w fun e w' =>
      e = .returned (.tuple #[]) ∧ Holds N hd ps w w' ∧ ∃ w1 v, Below w.heap.size w w1 ∧ w' = (w1.setCell ⟨N + 3, 0, none⟩ (.string hd)).setCell ⟨N + 4, 0, none⟩ v := by
  go_enter Try.func27, Try.ntmps27
  go_wp2_with fail
  refine (hyes _).mono ?_
  rintro e w1 ⟨v, qs, rfl, hv, hfr, hq, hb⟩
  obtain ⟨A, c, rfl, hcc⟩ := hv.form
  obtain ⟨hc, hf⟩ := bcell hb
  have d3 : w1.cell? ⟨N + 3, 0, none⟩ = some x := by rw [hc _ _ (by omega)]; exact c3
  have d4 : w1.cell? ⟨N + 4, 0, none⟩ = some y := by rw [hc _ _ (by omega)]; exact c4
  have g3 : w1.frozen? ⟨N + 3, 0, none⟩ = false := by rw [hf _ _ (by omega)]; exact f3
  have g4 : w1.frozen? ⟨N + 4, 0, none⟩ = false := by rw [hf _ _ (by omega)]; exact f4
  have HQ := Lib.hid hq
  clear hc hf c0 c1 c2 c3 c4 f3 f4 hq
  go_wp2_with fail
  go_end0
  have hv2 := (hv.setCell hfr (p := ⟨N + 3, 0, none⟩) (by show N + 3 < _; omega) (.string hd)).setCell hfr (p := ⟨N + 4, 0, none⟩) (by show N + 4 < _; omega) (.slice A qs.length c)
  refine ⟨rfl, ⟨.slice A qs.length c, qs, ?_, ?_, ?_, hfr, HQ.out⟩, w1, _, hb, rfl⟩
  · rw [World.cell?_setCell_other _ _ _ _ (by simp), World.cell?_setCell_same _ _ _ d3]
  · exact World.cell?_setCell_same _ _ _ ((World.cell?_setCell_other _ _ _ _ (by simp)).trans d4)
  · simpa [World.setCell] using hv2

theorem splitFn_no (s : ByteArray) (fixed many y : Int) (N : Nat) (w : World) (hno : SplitNo s fixed many y)
    (c0 : w.cell? ⟨N, 0, none⟩ = some (.string s)) (c1 : w.cell? ⟨N + 1, 0, none⟩ = some (.int .i64 fixed)) (c2 : w.cell? ⟨N + 2, 0, none⟩ = some (.int .i64 many)) :
    Calls Try.prog 27 #[.pointer (some ⟨N, 0, none⟩), .pointer (some ⟨N + 1, 0, none⟩), .pointer (some ⟨N + 2, 0, none⟩), .pointer (some ⟨N + 3, 0, none⟩), .pointer (some ⟨N + 4, 0, none⟩)] w (Panics y w) := by
  go_enter Try.func27, Try.ntmps27
  go_wp2_with fail
  refine (hno _).mono ?_
  rintro e w1 ⟨rfl, hb⟩
  exact ⟨rfl, rfl, hb⟩

theorem trySplit_yes (s : ByteArray) (fixed many : Int) (hd : ByteArray) (ps : List Text) (x y : Value) (N : Nat) (w : World) (hyes : SplitYes s fixed many hd ps)
    (hN : N + 5 = w.heap.size) (c0 : w.cell? ⟨N, 0, none⟩ = some (.string s)) (c1 : w.cell? ⟨N + 1, 0, none⟩ = some (.int .i64 fixed)) (c2 : w.cell? ⟨N + 2, 0, none⟩ = some (.int .i64 many))
    (c3 : w.cell? ⟨N + 3, 0, none⟩ = some x) (c4 : w.cell? ⟨N + 4, 0, none⟩ = some y) (f3 : w.frozen? ⟨N + 3, 0, none⟩ = false) (f4 : w.frozen? ⟨N + 4, 0, none⟩ = false) :
    Calls Try.prog 20 #[.func (.func 27) #[] #[.pointer (some ⟨N, 0, none⟩), .pointer (some ⟨N + 1, 0, none⟩), .pointer (some ⟨N + 2, 0, none⟩), .pointer (some ⟨N + 3, 0, none⟩), .pointer (some ⟨N + 4, 0, none⟩)]] w fun e w' =>
      e = .returned (.int .i64 0) ∧ Holds N hd ps w w' ∧ Below N w w' := by
  have old : ∀ p : Addr, p.block < w.heap.size → (w.alloc (.cells #[.int .i64 0] 28)).cell? p = w.cell? p := fun p hp => World.cell?_alloc_lt _ _ _ hp
  have oldf : ∀ p : Addr, p.block < w.heap.size → (w.alloc (.cells #[.int .i64 0] 28)).frozen? p = w.frozen? p := fun p hp => World.frozen?_alloc_old _ _ _ (by omega)
  refine (attempt_ok 27 _ w (fun w' => Holds N hd ps (w.alloc (.cells #[.int .i64 0] 28)) w' ∧ Below N w w')
    (enters_of Try.func27 (by kernel_rfl) rfl) ((splitFn_yes s fixed many hd ps x y N _ hyes (by simp; omega) ((old _ (by show N < _; omega)).trans c0) ((old _ (by show N + 1 < _; omega)).trans c1) ((old _ (by show N + 2 < _; omega)).trans c2)
      ((old _ (by show N + 3 < _; omega)).trans c3) ((old _ (by show N + 4 < _; omega)).trans c4) ((oldf _ (by show N + 3 < _; omega)).trans f3) ((oldf _ (by show N + 4 < _; omega)).trans f4)).mono ?_)).mono ?_
  · rintro e w' ⟨rfl, hh, w1, v, hb, rfl⟩
    have hr := (RowAt.new w 28 #[.int .i64 0]).below hb (by simp)
    have h0 : Below N w (w.alloc (.cells #[.int .i64 0] 28)) := (Below.refl _ _).alloc (by omega) _
    refine ⟨rfl, ⟨hh, ((h0.trans (hb.mono (by simp; omega))).setCell (by show N ≤ N + 3; omega) _).setCell (by show N ≤ N + 4; omega) _⟩, ?_, ?_⟩
    · rw [World.cell?_setCell_other _ _ _ _ (by simp <;> omega), World.cell?_setCell_other _ _ _ _ (by simp <;> omega), hr.cell]; rfl
    · rw [World.frozen?_setCell, World.frozen?_setCell, hr.frozen]
  · rintro e w' ⟨rfl, w1, ⟨⟨v, qs, k3, k4, hv, hfr, hq⟩, hb⟩, rfl⟩
    refine ⟨rfl, ⟨v, qs, ?_, ?_, ?_, hfr.less (by simp), hq⟩, hb.setCell (by show N ≤ w.heap.size; omega) _⟩
    · rw [World.cell?_setCell_other _ _ _ _ (by simp <;> omega)]; exact k3
    · rw [World.cell?_setCell_other _ _ _ _ (by simp <;> omega)]; exact k4
    · have := hv.setCell hfr (p := ⟨w.heap.size, 0, none⟩) (by simp) (.int .i64 0)
      simpa [World.setCell] using this

theorem trySplit_no (s : ByteArray) (fixed many y : Int) (N : Nat) (w : World) (hno : SplitNo s fixed many y)
    (hN : N + 5 = w.heap.size) (c0 : w.cell? ⟨N, 0, none⟩ = some (.string s)) (c1 : w.cell? ⟨N + 1, 0, none⟩ = some (.int .i64 fixed)) (c2 : w.cell? ⟨N + 2, 0, none⟩ = some (.int .i64 many)) :
    Calls Try.prog 20 #[.func (.func 27) #[] #[.pointer (some ⟨N, 0, none⟩), .pointer (some ⟨N + 1, 0, none⟩), .pointer (some ⟨N + 2, 0, none⟩), .pointer (some ⟨N + 3, 0, none⟩), .pointer (some ⟨N + 4, 0, none⟩)]] w fun e w' =>
      e = .returned (.int .i64 y) ∧ Below w.heap.size w w' := by
  have old : ∀ p : Addr, p.block < w.heap.size → (w.alloc (.cells #[.int .i64 0] 28)).cell? p = w.cell? p := fun p hp => World.cell?_alloc_lt _ _ _ hp
  refine (attempt_no 27 _ y w (fun w' => Below w.heap.size w w')
    (enters_of Try.func27 (by kernel_rfl) rfl) ((splitFn_no s fixed many y N _ hno ((old _ (by show N < _; omega)).trans c0) ((old _ (by show N + 1 < _; omega)).trans c1) ((old _ (by show N + 2 < _; omega)).trans c2)).mono ?_)).mono ?_
  · rintro e w' ⟨rfl, hb⟩
    have hr := (RowAt.new w 28 #[.int .i64 0]).below hb (by simp)
    exact ⟨rfl, ((Below.refl _ _).alloc (Nat.le_refl _) _).trans (hb.mono (by simp)), by rw [hr.cell]; rfl, hr.frozen 0⟩
  · rintro e w' ⟨rfl, w2, hb, rfl⟩
    exact ⟨rfl, hb.setCell (Nat.le_refl _) _⟩

set_option maxHeartbeats 1000000 in
theorem Split_yes (s : ByteArray) (fixed many : Int) (hd : ByteArray) (ps : List Text) (w : World) (hyes : SplitYes s fixed many hd ps) :
    Calls Try.prog 17 #[.string s, .int .i64 fixed, .int .i64 many] w fun e w' => ∃ v qs, e = .returned (.tuple #[.string hd, v, .int .i64 0]) ∧ Strs w' w'.heap.size v qs ∧ FromOn w.heap.size v ∧ txts qs = ps ∧ Below w.heap.size w w' := by
  have hmf : ∀ (fn : Fn) (first cap : Array Value) (w : World), (Instr.makeFunc fn first cap).run Try.prog w = .ok (.func fn first cap) w := fun _ _ _ _ => rfl
  go_enter Try.func17, Try.ntmps17
  go_wp2_with fail
  refine (trySplit_yes s fixed many hd ps (.string ⟨#[]⟩) (.slice none 0 0) w.heap.size _ hyes ?_ ?_ ?_ ?_ ?_ ?_ ?_ ?_).mono ?_
  · simp
  · simp [go_sem]
  · simp [go_sem]
  · simp [go_sem]
  · simp [go_sem]
  · simp [go_sem]
  · simp [go_sem]
  · simp [go_sem]
  rintro e w1 ⟨rfl, ⟨v, qs, hc3, hc4, hv, hfr, hq⟩, hb⟩
  obtain ⟨A, c, rfl, hcc⟩ := hv.form
  have hb' : Below w.heap.size w w1 := Below.trans ((((((Below.refl _ w).alloc (by simp) _).alloc (by simp <;> omega) _).alloc (by simp <;> omega) _).alloc (by simp <;> omega) _).alloc (by simp <;> omega) _) hb
  have HQ := Lib.hid hq
  have hfr' : FromOn w.heap.size (.slice A qs.length c) := hfr.less (by simp <;> omega)
  clear hb hq hfr
  go_wp2_with fail
  go_region
  all_goals (try go_wp2)
  all_goals go_ret3
  all_goals exact ⟨_, qs, rfl, hv.below (Below.refl _ _).drew (Nat.le_refl _), hfr', HQ.out, hb'.drew⟩

set_option maxHeartbeats 1000000 in
theorem Split_no (s : ByteArray) (fixed many y : Int) (w : World) (hno : SplitNo s fixed many y) :
    Calls Try.prog 17 #[.string s, .int .i64 fixed, .int .i64 many] w fun e w' => e = .returned (.tuple #[.string ⟨#[]⟩, .slice none 0 0, .int .i64 y]) ∧ Below w.heap.size w w' := by
  have hmf : ∀ (fn : Fn) (first cap : Array Value) (w : World), (Instr.makeFunc fn first cap).run Try.prog w = .ok (.func fn first cap) w := fun _ _ _ _ => rfl
  go_enter Try.func17, Try.ntmps17
  go_wp2_with fail
  refine (trySplit_no s fixed many y w.heap.size _ hno ?_ ?_ ?_ ?_).mono ?_
  · simp
  · simp [go_sem]
  · simp [go_sem]
  · simp [go_sem]
  rintro e w1 ⟨rfl, hb⟩
  have hc3 : w1.cell? ⟨w.heap.size + 3, 0, none⟩ = some (.string ⟨#[]⟩) := by rw [(bcell hb).1 _ _ (by simp)]; simp [go_sem]
  have hc4 : w1.cell? ⟨w.heap.size + 4, 0, none⟩ = some (.slice none 0 0) := by rw [(bcell hb).1 _ _ (by simp)]; simp [go_sem]
  have hb' : Below w.heap.size w w1 := Below.trans ((((((Below.refl _ w).alloc (by simp) _).alloc (by simp <;> omega) _).alloc (by simp <;> omega) _).alloc (by simp <;> omega) _).alloc (by simp <;> omega) _) (hb.mono (by simp <;> omega))
  clear hb
  go_wp2_with fail
  go_region
  all_goals (try go_wp2)
  all_goals go_ret3
  all_goals exact ⟨rfl, hb'.drew⟩

/-- What Split answers: the fixed text, the parts, the error. -/
def splitOf (s : Text) (fixed many : Int) : Text × List Text × Int :=
  if 0 ≤ fixed ∧ fixed ≤ 65536 then
    if 0 ≤ many ∧ many ≤ 8 then
      if s.length ≤ 65536 then
        if fixed.toNat + 4 * many.toNat ≤ s.length then
          match cutBack s fixed.toNat (fixed.toNat + 4 * many.toNat) many.toNat s.length [] with
          | some ps => (s.take fixed.toNat, ps, 0)
          | none => ([], [], 2)
        else ([], [], 3)
      else ([], [], 4)
    else ([], [], 1)
  else ([], [], 1)

/-- Split's answer, in memory. -/
def SplitGives (w : World) (r : Text × List Text × Int) (e : Ending) (w' : World) : Prop :=
  ∃ v qs, e = .returned (.tuple #[.string ⟨r.1.toArray⟩, v, .int .i64 r.2.2]) ∧ Strs w' w'.heap.size v qs ∧ FromOn w.heap.size v ∧ txts qs = r.2.1 ∧ Below w.heap.size w w'

theorem fromOn_nil (lo : Nat) : FromOn lo (.slice none 0 0) := fun ad n c e => by injection e with e; cases e

theorem gives_no {s : ByteArray} {fixed many y : Int} {w : World} (hno : SplitNo s fixed many y) :
    Calls Try.prog 17 #[.string s, .int .i64 fixed, .int .i64 many] w (SplitGives w ([], [], y)) :=
  (Split_no s fixed many y w hno).mono fun _ _ ⟨he, hb⟩ => ⟨_, [], he, Strs.nil _ _, fromOn_nil _, rfl, hb⟩

theorem ext_zero (s : ByteArray) (n : Nat) : s.extract 0 n = ⟨(s.data.toList.take n).toArray⟩ := by
  apply ByteArray.ext
  apply Array.toList_inj.1
  rw [ext_list]
  simp

theorem Split_any (s : ByteArray) (fixed many : Int) (w : World) :
    Calls Try.prog 17 #[.string s, .int .i64 fixed, .int .i64 many] w (SplitGives w (splitOf s.data.toList fixed many)) := by
  unfold splitOf
  rw [size_list]
  by_cases h1 : 0 ≤ fixed ∧ fixed ≤ 65536
  · by_cases h2 : 0 ≤ many ∧ many ≤ 8
    · obtain ⟨f, rfl⟩ := Int.eq_ofNat_of_zero_le h1.1
      obtain ⟨m, rfl⟩ := Int.eq_ofNat_of_zero_le h2.1
      rw [if_pos h1, if_pos h2, Int.toNat_natCast, Int.toNat_natCast]
      by_cases h3 : s.size ≤ 65536
      · by_cases h4 : f + 4 * m ≤ s.size
        · rw [if_pos h3, if_pos h4]
          have hk : ∀ w, _ := fun w => split_ok s f m w (by omega) (by omega) h3 h4
          cases hc : cutBack s.data.toList f (f + 4 * m) m s.size [] with
          | some ps =>
            have hyes : SplitYes s f m (s.extract 0 f) ps := fun w => (hk w).mono fun e w' he => by
              unfold SplitEnds at he; rw [hc] at he; exact he
            refine (Split_yes s f m _ ps w hyes).mono fun e w' he => ?_
            obtain ⟨v, qs, he, hv, hfr, hq, hb⟩ := he
            exact ⟨v, qs, by rw [he, ext_zero], hv, hfr, hq, hb⟩
          | none =>
            exact gives_no fun w => (hk w).mono fun e w' he => by
              unfold SplitEnds at he; rw [hc] at he; exact he
        · rw [if_pos h3, if_neg h4]
          exact gives_no fun w => split_short s f m w (by omega) (by omega) h3 (by omega)
      · rw [if_neg h3]
        exact gives_no fun w => split_long s f m w (by omega) (by omega) (by omega)
    · rw [if_pos h1, if_neg h2]
      exact gives_no fun w => split_many s fixed many w h1 h2
  · rw [if_neg h1]
    exact gives_no fun w => split_fixed s fixed many w h1
end Go.Proofs.Ytagfbbflpjjbfaa
