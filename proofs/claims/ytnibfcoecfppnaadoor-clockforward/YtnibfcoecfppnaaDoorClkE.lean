/- The statements' own small functions over chains: Turned, awake; a world behind some calls, in which a chain lies. -/
import Derived.Test.YtnibfcoecfppnaaDoorClkD
namespace Go.Proofs.YtnibfcoecfppnaaDoor
open Go.RowKit

/-- Of a chain in which one number is turned nothing is known but that it is one. -/
def SomeChain (z : Int) (w : World) (e : Ending) (w' : World) : Prop := ∃ v s c n t d r k g : Int, e = .returned (.agg #[.int .i64 v, .int .i64 s, .int .i64 c, .int .i64 n, .int .i64 t, .int .i64 d, .int .i64 r, .int .i64 k, .int .i64 g, .int .u64 z]) ∧ Below w.heap.size w w'
set_option maxHeartbeats 2000000 in
set_option maxRecDepth 100000 in
theorem Turned_any (v s c n t d r k g z x y : Int) (w : World) (hy : I64 y) :
    Calls Tryd.prog 10 #[.agg #[.int .i64 v, .int .i64 s, .int .i64 c, .int .i64 n, .int .i64 t, .int .i64 d, .int .i64 r, .int .i64 k, .int .i64 g, .int .u64 z], .int .i64 y, .int .i64 x] w (SomeChain z w) := by
  have hb := cpick_bd y 9 (by omega)
  have HP := fun W => cpick_any y 9 W hy (by omega) (by omega)
  generalize cpick y 9 = m at HP hb
  have hm : m = 0 ∨ m = 1 ∨ m = 2 ∨ m = 3 ∨ m = 4 ∨ m = 5 ∨ m = 6 ∨ m = 7 ∨ m = 8 := by omega
  have hbw : ∀ o p : Obj, Below w.heap.size w ((w.alloc o).alloc p) := fun o p => ((Below.refl _ _).alloc (Nat.le_refl _) o).alloc (by simp) p
  clear hb
  rcases hm with rfl | rfl | rfl | rfl | rfl | rfl | rfl | rfl | rfl
  · go_enter Tryd.func10, Tryd.ntmps10
    go_wp2_with ((with_reducible refine (HP _).mono ?_); rintro e w_ ⟨rfl, rfl⟩)
    exact bodyPost_ret (v := .agg #[.int .i64 x, .int .i64 s, .int .i64 c, .int .i64 n, .int .i64 t, .int .i64 d, .int .i64 r, .int .i64 k, .int .i64 g, .int .u64 z]) (by simp [results, Tryd.results10, go_sem]) rfl ⟨x, s, c, n, t, d, r, k, g, rfl, hbw _ _⟩
  · go_enter Tryd.func10, Tryd.ntmps10
    go_wp2_with ((with_reducible refine (HP _).mono ?_); rintro e w_ ⟨rfl, rfl⟩)
    exact bodyPost_ret (v := .agg #[.int .i64 v, .int .i64 x, .int .i64 c, .int .i64 n, .int .i64 t, .int .i64 d, .int .i64 r, .int .i64 k, .int .i64 g, .int .u64 z]) (by simp [results, Tryd.results10, go_sem]) rfl ⟨v, x, c, n, t, d, r, k, g, rfl, hbw _ _⟩
  · go_enter Tryd.func10, Tryd.ntmps10
    go_wp2_with ((with_reducible refine (HP _).mono ?_); rintro e w_ ⟨rfl, rfl⟩)
    exact bodyPost_ret (v := .agg #[.int .i64 v, .int .i64 s, .int .i64 x, .int .i64 n, .int .i64 t, .int .i64 d, .int .i64 r, .int .i64 k, .int .i64 g, .int .u64 z]) (by simp [results, Tryd.results10, go_sem]) rfl ⟨v, s, x, n, t, d, r, k, g, rfl, hbw _ _⟩
  · go_enter Tryd.func10, Tryd.ntmps10
    go_wp2_with ((with_reducible refine (HP _).mono ?_); rintro e w_ ⟨rfl, rfl⟩)
    exact bodyPost_ret (v := .agg #[.int .i64 v, .int .i64 s, .int .i64 c, .int .i64 x, .int .i64 t, .int .i64 d, .int .i64 r, .int .i64 k, .int .i64 g, .int .u64 z]) (by simp [results, Tryd.results10, go_sem]) rfl ⟨v, s, c, x, t, d, r, k, g, rfl, hbw _ _⟩
  · go_enter Tryd.func10, Tryd.ntmps10
    go_wp2_with ((with_reducible refine (HP _).mono ?_); rintro e w_ ⟨rfl, rfl⟩)
    exact bodyPost_ret (v := .agg #[.int .i64 v, .int .i64 s, .int .i64 c, .int .i64 n, .int .i64 x, .int .i64 d, .int .i64 r, .int .i64 k, .int .i64 g, .int .u64 z]) (by simp [results, Tryd.results10, go_sem]) rfl ⟨v, s, c, n, x, d, r, k, g, rfl, hbw _ _⟩
  · go_enter Tryd.func10, Tryd.ntmps10
    go_wp2_with ((with_reducible refine (HP _).mono ?_); rintro e w_ ⟨rfl, rfl⟩)
    exact bodyPost_ret (v := .agg #[.int .i64 v, .int .i64 s, .int .i64 c, .int .i64 n, .int .i64 t, .int .i64 x, .int .i64 r, .int .i64 k, .int .i64 g, .int .u64 z]) (by simp [results, Tryd.results10, go_sem]) rfl ⟨v, s, c, n, t, x, r, k, g, rfl, hbw _ _⟩
  · go_enter Tryd.func10, Tryd.ntmps10
    go_wp2_with ((with_reducible refine (HP _).mono ?_); rintro e w_ ⟨rfl, rfl⟩)
    exact bodyPost_ret (v := .agg #[.int .i64 v, .int .i64 s, .int .i64 c, .int .i64 n, .int .i64 t, .int .i64 d, .int .i64 x, .int .i64 k, .int .i64 g, .int .u64 z]) (by simp [results, Tryd.results10, go_sem]) rfl ⟨v, s, c, n, t, d, x, k, g, rfl, hbw _ _⟩
  · go_enter Tryd.func10, Tryd.ntmps10
    go_wp2_with ((with_reducible refine (HP _).mono ?_); rintro e w_ ⟨rfl, rfl⟩)
    exact bodyPost_ret (v := .agg #[.int .i64 v, .int .i64 s, .int .i64 c, .int .i64 n, .int .i64 t, .int .i64 d, .int .i64 r, .int .i64 x, .int .i64 g, .int .u64 z]) (by simp [results, Tryd.results10, go_sem]) rfl ⟨v, s, c, n, t, d, r, x, g, rfl, hbw _ _⟩
  · go_enter Tryd.func10, Tryd.ntmps10
    go_wp2_with ((with_reducible refine (HP _).mono ?_); rintro e w_ ⟨rfl, rfl⟩)
    exact bodyPost_ret (v := .agg #[.int .i64 v, .int .i64 s, .int .i64 c, .int .i64 n, .int .i64 t, .int .i64 d, .int .i64 r, .int .i64 k, .int .i64 x, .int .u64 z]) (by simp [results, Tryd.results10, go_sem]) rfl ⟨v, s, c, n, t, d, r, k, x, rfl, hbw _ _⟩

/-- The bounds' table lies in W, all that lay in w, and a chain at block G. -/
def AtC (w W : World) (G : Nat) (L : List Value) : Prop := Spans W ∧ Below w.heap.size w W ∧ RowAt W G 24 L
theorem AtC.step {w W W' : World} {G : Nat} {L : List Value} (h : AtC w W G L) (hb : Below W.heap.size W W') : AtC w W' G L :=
  ⟨h.1.on hb, h.2.1.trans (hb.mono h.2.1.size), h.2.2.below hb h.2.2.lt⟩
theorem AtC.drew {w W : World} {G : Nat} {L : List Value} (h : AtC w W G L) : AtC w W.drew G L := h.step (Below.refl _ _).drew
theorem atc_of {f : Nat} {args : Array Value} {w W : World} {r : Value} {G : Nat} {L : List Value} (h : AtC w W G L) (c : Calls Tryd.prog f args W fun e w' => e = .returned r ∧ Below W.heap.size W w') : Calls Tryd.prog f args W fun e w' => e = .returned r ∧ AtC w w' G L :=
  c.mono fun _ _ ⟨he, hb⟩ => ⟨he, h.step hb⟩
theorem AtC.cells {w W : World} {G : Nat} {c0 c1 c2 c3 c4 c5 c6 c7 c8 c9 : Value} (h : AtC w W G [c0, c1, c2, c3, c4, c5, c6, c7, c8, c9]) :
    W.cell? ⟨G, 0, none⟩ = some c0 ∧ W.cell? ⟨G, 1, none⟩ = some c1 ∧ W.cell? ⟨G, 2, none⟩ = some c2 ∧ W.cell? ⟨G, 3, none⟩ = some c3 ∧ W.cell? ⟨G, 4, none⟩ = some c4 ∧
    W.cell? ⟨G, 5, none⟩ = some c5 ∧ W.cell? ⟨G, 6, none⟩ = some c6 ∧ W.cell? ⟨G, 7, none⟩ = some c7 ∧ W.cell? ⟨G, 8, none⟩ = some c8 ∧ W.cell? ⟨G, 9, none⟩ = some c9 :=
  ⟨by rw [h.2.2.cell]; rfl, by rw [h.2.2.cell]; rfl, by rw [h.2.2.cell]; rfl, by rw [h.2.2.cell]; rfl, by rw [h.2.2.cell]; rfl, by rw [h.2.2.cell]; rfl, by rw [h.2.2.cell]; rfl, by rw [h.2.2.cell]; rfl, by rw [h.2.2.cell]; rfl, by rw [h.2.2.cell]; rfl⟩
theorem AtC.new {w W : World} {o : Array Value} (hT : Spans W) (hb : Below w.heap.size w W) : AtC w (W.alloc (.cells o 24)) W.heap.size o.toList :=
  ⟨hT.on ((Below.refl _ _).alloc (Nat.le_refl _) _), hb.alloc hb.size _, RowAt.new W 24 o⟩

abbrev exL : List Value := [.int .i64 1, .int .i64 4, .int .i64 1, .int .i64 1, .int .i64 10, .int .i64 0, .int .i64 1, .int .i64 0, .int .i64 1, .int .u64 0]
set_option maxHeartbeats 2000000 in
set_option maxRecDepth 100000 in
theorem awake_any (w : World) (hT : Spans w) :
    Calls Tryd.prog 8 #[] w fun e w' => e = .returned (.bool true) ∧ Below w.heap.size w w' := by
  have c0 : ∀ W, AtC w W w.heap.size exL → Calls Tryd.prog 14 #[.agg #[.int .i64 1, .int .i64 4, .int .i64 1, .int .i64 1, .int .i64 10, .int .i64 0, .int .i64 1, .int .i64 0, .int .i64 1, .int .u64 0], .int .i64 39] W fun e w' => e = .returned (.tuple #[.int .i64 3, .int .i64 0]) ∧ AtC w w' w.heap.size exL := fun W h => atc_of h (SlotOf_any (v := 1) (s := 4) (c := 1) (n := 1) (t := 10) (d := 0) (r := 1) (k := 0) (g := 1) (fit := true) (by decide) 0 W h.1 39 (by decide) 3 0 (by decide))
  have c1 : ∀ W, AtC w W w.heap.size exL → Calls Tryd.prog 16 #[.agg #[.int .i64 1, .int .i64 4, .int .i64 1, .int .i64 1, .int .i64 10, .int .i64 0, .int .i64 1, .int .i64 0, .int .i64 1, .int .u64 0], .int .i64 3] W fun e w' => e = .returned (.tuple #[.int .i64 30, .int .i64 0]) ∧ AtC w w' w.heap.size exL := fun W h => atc_of h (Start_any (v := 1) (s := 4) (c := 1) (n := 1) (t := 10) (d := 0) (r := 1) (k := 0) (g := 1) (fit := true) (by decide) 0 W h.1 3 (by decide) 30 0 (by decide))
  have c2 : ∀ W, AtC w W w.heap.size exL → Calls Tryd.prog 18 #[.agg #[.int .i64 1, .int .i64 4, .int .i64 1, .int .i64 1, .int .i64 10, .int .i64 0, .int .i64 1, .int .i64 0, .int .i64 1, .int .u64 0], .int .i64 3] W fun e w' => e = .returned (.tuple #[.int .i64 0, .int .i64 0]) ∧ AtC w w' w.heap.size exL := fun W h => atc_of h (EpochOf_any (v := 1) (s := 4) (c := 1) (n := 1) (t := 10) (d := 0) (r := 1) (k := 0) (g := 1) (fit := true) (by decide) 0 W h.1 3 (by decide) 0 0 (by decide))
  have c3 : ∀ W, AtC w W w.heap.size exL → Calls Tryd.prog 20 #[.agg #[.int .i64 1, .int .i64 4, .int .i64 1, .int .i64 1, .int .i64 10, .int .i64 0, .int .i64 1, .int .i64 0, .int .i64 1, .int .u64 0], .int .i64 2] W fun e w' => e = .returned (.tuple #[.int .i64 8, .int .i64 0]) ∧ AtC w w' w.heap.size exL := fun W h => atc_of h (First_any (v := 1) (s := 4) (c := 1) (n := 1) (t := 10) (d := 0) (r := 1) (k := 0) (g := 1) (fit := true) (by decide) 0 W h.1 2 (by decide) 8 0 (by decide))
  have c4 : ∀ W, AtC w W w.heap.size exL → Calls Tryd.prog 22 #[.agg #[.int .i64 1, .int .i64 4, .int .i64 1, .int .i64 1, .int .i64 10, .int .i64 0, .int .i64 1, .int .i64 0, .int .i64 1, .int .u64 0], .int .i64 1099511627776, .int .i64 1] W fun e w' => e = .returned (.tuple #[.int .i64 0, .int .i64 8]) ∧ AtC w w' w.heap.size exL := fun W h => atc_of h (Forward_any (v := 1) (s := 4) (c := 1) (n := 1) (t := 10) (d := 0) (r := 1) (k := 0) (g := 1) (fit := true) (by decide) 0 W h.1 1099511627776 1 (by decide) (by decide) 0 8 (by decide))
  have c5 : ∀ W, AtC w W w.heap.size exL → Calls Tryd.prog 22 #[.agg #[.int .i64 1, .int .i64 4, .int .i64 1, .int .i64 1, .int .i64 10, .int .i64 0, .int .i64 1, .int .i64 0, .int .i64 1, .int .u64 0], .int .i64 5, .int .i64 6] W fun e w' => e = .returned (.tuple #[.int .i64 11, .int .i64 0]) ∧ AtC w w' w.heap.size exL := fun W h => atc_of h (Forward_any (v := 1) (s := 4) (c := 1) (n := 1) (t := 10) (d := 0) (r := 1) (k := 0) (g := 1) (fit := true) (by decide) 0 W h.1 5 6 (by decide) (by decide) 11 0 (by decide))
  have c6 : ∀ W, AtC w W w.heap.size exL → Calls Tryd.prog 16 #[.agg #[.int .i64 1, .int .i64 4, .int .i64 1, .int .i64 1, .int .i64 10, .int .i64 0, .int .i64 1, .int .i64 0, .int .i64 1, .int .u64 0], .int .i64 1099511627776] W fun e w' => e = .returned (.tuple #[.int .i64 0, .int .i64 8]) ∧ AtC w w' w.heap.size exL := fun W h => atc_of h (Start_any (v := 1) (s := 4) (c := 1) (n := 1) (t := 10) (d := 0) (r := 1) (k := 0) (g := 1) (fit := true) (by decide) 0 W h.1 1099511627776 (by decide) 0 8 (by decide))
  have c7 : ∀ W, AtC w W w.heap.size exL → Calls Tryd.prog 14 #[.agg #[.int .i64 0, .int .i64 0, .int .i64 0, .int .i64 0, .int .i64 0, .int .i64 0, .int .i64 0, .int .i64 0, .int .i64 0, .int .u64 0], .int .i64 0] W fun e w' => e = .returned (.tuple #[.int .i64 0, .int .i64 1]) ∧ AtC w w' w.heap.size exL := fun W h => atc_of h (SlotOf_any (v := 0) (s := 0) (c := 0) (n := 0) (t := 0) (d := 0) (r := 0) (k := 0) (g := 0) (fit := false) (by decide) 0 W h.1 0 (by decide) 0 1 (by decide))
  have c8 : ∀ W, AtC w W w.heap.size exL → Calls Tryd.prog 11 #[.agg #[.int .i64 1, .int .i64 4, .int .i64 1, .int .i64 1, .int .i64 10, .int .i64 0, .int .i64 1, .int .i64 0, .int .i64 1, .int .u64 0]] W fun e w' => e = .returned (.bool true) ∧ AtC w w' w.heap.size exL := fun W h => atc_of h (Fits_eq (v := 1) (s := 4) (c := 1) (n := 1) (t := 10) (d := 0) (r := 1) (k := 0) (g := 1) (by decide) 0 W h.1)
  have c9 : ∀ W, AtC w W w.heap.size exL → Calls Tryd.prog 11 #[.agg #[.int .i64 0, .int .i64 0, .int .i64 0, .int .i64 0, .int .i64 0, .int .i64 0, .int .i64 0, .int .i64 0, .int .i64 0, .int .u64 0]] W fun e w' => e = .returned (.bool false) ∧ AtC w w' w.heap.size exL := fun W h => atc_of h (Fits_eq (v := 0) (s := 0) (c := 0) (n := 0) (t := 0) (d := 0) (r := 0) (k := 0) (g := 0) (by decide) 0 W h.1)
  have A0 : AtC w (w.alloc (.cells #[.int .i64 1, .int .i64 4, .int .i64 1, .int .i64 1, .int .i64 10, .int .i64 0, .int .i64 1, .int .i64 0, .int .i64 1, .int .u64 0] 24)) w.heap.size exL := AtC.new hT (Below.refl _ _)
  go_enter Tryd.func8, Tryd.ntmps8
  go_wp2_with (first
    | ((with_reducible refine (c0 _ (by assumption)).mono ?_); rintro e w1 ⟨rfl, A1⟩; obtain ⟨q0, q1, q2, q3, q4, q5, q6, q7, q8, q9⟩ := A1.cells)
    | ((with_reducible refine (c1 _ (by assumption)).mono ?_); rintro e w1 ⟨rfl, A1⟩; obtain ⟨q0, q1, q2, q3, q4, q5, q6, q7, q8, q9⟩ := A1.cells)
    | ((with_reducible refine (c2 _ (by assumption)).mono ?_); rintro e w1 ⟨rfl, A1⟩; obtain ⟨q0, q1, q2, q3, q4, q5, q6, q7, q8, q9⟩ := A1.cells)
    | ((with_reducible refine (c3 _ (by assumption)).mono ?_); rintro e w1 ⟨rfl, A1⟩; obtain ⟨q0, q1, q2, q3, q4, q5, q6, q7, q8, q9⟩ := A1.cells)
    | ((with_reducible refine (c4 _ (by assumption)).mono ?_); rintro e w1 ⟨rfl, A1⟩; obtain ⟨q0, q1, q2, q3, q4, q5, q6, q7, q8, q9⟩ := A1.cells)
    | ((with_reducible refine (c5 _ (by assumption)).mono ?_); rintro e w1 ⟨rfl, A1⟩; obtain ⟨q0, q1, q2, q3, q4, q5, q6, q7, q8, q9⟩ := A1.cells)
    | ((with_reducible refine (c6 _ (by assumption)).mono ?_); rintro e w1 ⟨rfl, A1⟩; obtain ⟨q0, q1, q2, q3, q4, q5, q6, q7, q8, q9⟩ := A1.cells)
    | ((with_reducible refine (c7 _ (by assumption)).mono ?_); rintro e w1 ⟨rfl, A1⟩; obtain ⟨q0, q1, q2, q3, q4, q5, q6, q7, q8, q9⟩ := A1.cells)
    | ((with_reducible refine (c8 _ (by assumption)).mono ?_); rintro e w1 ⟨rfl, A1⟩; obtain ⟨q0, q1, q2, q3, q4, q5, q6, q7, q8, q9⟩ := A1.cells)
    | ((with_reducible refine (c9 _ (by assumption)).mono ?_); rintro e w1 ⟨rfl, A1⟩; obtain ⟨q0, q1, q2, q3, q4, q5, q6, q7, q8, q9⟩ := A1.cells))
  go_ret
  exact ⟨rfl, (by assumption : AtC w _ _ _).2.1⟩
end Go.Proofs.YtnibfcoecfppnaaDoor
