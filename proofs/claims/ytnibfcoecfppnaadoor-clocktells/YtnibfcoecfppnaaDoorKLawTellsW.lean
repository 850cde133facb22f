/- The walk of the law ClockTells. -/
import Derived.Test.YtnibfcoecfppnaaDoorKLawSlotsW
import Derived.Test.YtnibfcoecfppnaaDoorLagL
import Derived.Deep.RegionHeld3
import Derived.Deep.QuietTactic
import Derived.BigQuiet
import Derived.Deep.CutRange
import Derived.Deep.LoopGhost
namespace Go.Proofs.YtnibfcoecfppnaaDoor
open Go.RowKit

/-- The bounds' table, all that lay in w, and some blocks known whole. -/
def Keeps (w W : World) (rows : List (Nat × TypeId × List Value)) : Prop := Spans W ∧ Below w.heap.size w W ∧ ∀ r ∈ rows, RowAt W r.1 r.2.1 r.2.2
theorem Keeps.step {w W W' : World} {rows : List (Nat × TypeId × List Value)} (h : Keeps w W rows) (hb : Below W.heap.size W W') : Keeps w W' rows :=
  ⟨h.1.on hb, h.2.1.trans (hb.mono h.2.1.size), fun r hr => (h.2.2 r hr).below hb (h.2.2 r hr).lt⟩
theorem Keeps.spans {w W : World} {rows : List (Nat × TypeId × List Value)} (h : Keeps w W rows) : Spans W := h.1
theorem Keeps.alloc {w W : World} {rows : List (Nat × TypeId × List Value)} (h : Keeps w W rows) (cs : Array Value) (t : TypeId) : Keeps w (W.alloc (.cells cs t)) ((W.heap.size, t, cs.toList) :: rows) :=
  have h' := h.step ((Below.refl _ _).alloc (Nat.le_refl _) (.cells cs t))
  ⟨h'.1, h'.2.1, fun r hr => by rcases List.mem_cons.1 hr with rfl | hr; exact RowAt.new W t cs; exact h'.2.2 r hr⟩
theorem keeps_of {f : Nat} {args : Array Value} {w W : World} {r : Value} {rows : List (Nat × TypeId × List Value)} (h : Keeps w W rows) (c : Calls Tryd.prog f args W fun e w' => e = .returned r ∧ Below W.heap.size W w') : Calls Tryd.prog f args W fun e w' => e = .returned r ∧ Keeps w w' rows :=
  c.mono fun _ _ ⟨he, hb⟩ => ⟨he, h.step hb⟩
theorem ten_cells {W : World} {G : Nat} {t : TypeId} {c0 c1 c2 c3 c4 c5 c6 c7 c8 c9 : Value} (h : RowAt W G t [c0, c1, c2, c3, c4, c5, c6, c7, c8, c9]) :
    W.cell? ⟨G, 0, none⟩ = some c0 ∧ W.cell? ⟨G, 1, none⟩ = some c1 ∧ W.cell? ⟨G, 2, none⟩ = some c2 ∧ W.cell? ⟨G, 3, none⟩ = some c3 ∧ W.cell? ⟨G, 4, none⟩ = some c4 ∧
    W.cell? ⟨G, 5, none⟩ = some c5 ∧ W.cell? ⟨G, 6, none⟩ = some c6 ∧ W.cell? ⟨G, 7, none⟩ = some c7 ∧ W.cell? ⟨G, 8, none⟩ = some c8 ∧ W.cell? ⟨G, 9, none⟩ = some c9 :=
  ⟨by rw [h.cell]; rfl, by rw [h.cell]; rfl, by rw [h.cell]; rfl, by rw [h.cell]; rfl, by rw [h.cell]; rfl, by rw [h.cell]; rfl, by rw [h.cell]; rfl, by rw [h.cell]; rfl, by rw [h.cell]; rfl, by rw [h.cell]; rfl⟩
theorem ten_later {W : World} {G : Nat} {t : TypeId} {c0 c1 c2 c3 c4 c5 c6 c7 c8 c9 : Value} (h : RowAt W G t [c0, c1, c2, c3, c4, c5, c6, c7, c8, c9]) :
    (∀ p : Later W, p.W.cell? ⟨G, 0, none⟩ = some c0) ∧ (∀ p : Later W, p.W.cell? ⟨G, 1, none⟩ = some c1) ∧ (∀ p : Later W, p.W.cell? ⟨G, 2, none⟩ = some c2) ∧ (∀ p : Later W, p.W.cell? ⟨G, 3, none⟩ = some c3) ∧ (∀ p : Later W, p.W.cell? ⟨G, 4, none⟩ = some c4) ∧
    (∀ p : Later W, p.W.cell? ⟨G, 5, none⟩ = some c5) ∧ (∀ p : Later W, p.W.cell? ⟨G, 6, none⟩ = some c6) ∧ (∀ p : Later W, p.W.cell? ⟨G, 7, none⟩ = some c7) ∧ (∀ p : Later W, p.W.cell? ⟨G, 8, none⟩ = some c8) ∧ (∀ p : Later W, p.W.cell? ⟨G, 9, none⟩ = some c9) :=
  have q := fun p : Later W => ten_cells (h.below p.h h.lt)
  ⟨fun p => (q p).1, fun p => (q p).2.1, fun p => (q p).2.2.1, fun p => (q p).2.2.2.1, fun p => (q p).2.2.2.2.1, fun p => (q p).2.2.2.2.2.1, fun p => (q p).2.2.2.2.2.2.1, fun p => (q p).2.2.2.2.2.2.2.1, fun p => (q p).2.2.2.2.2.2.2.2.1, fun p => (q p).2.2.2.2.2.2.2.2.2⟩
theorem Keeps.first {w W : World} {g : Nat} {t : TypeId} {l : List Value} {rows : List (Nat × TypeId × List Value)} (h : Keeps w W ((g, t, l) :: rows)) : RowAt W g t l := h.2.2 _ (List.mem_cons_self)
theorem Keeps.second {w W : World} {r : Nat × TypeId × List Value} {g : Nat} {t : TypeId} {l : List Value} {rows : List (Nat × TypeId × List Value)} (h : Keeps w W (r :: (g, t, l) :: rows)) : RowAt W g t l := h.2.2 _ (List.mem_cons_of_mem _ (List.mem_cons_self))
theorem Keeps.tail {w W : World} {r : Nat × TypeId × List Value} {rows : List (Nat × TypeId × List Value)} (h : Keeps w W (r :: rows)) : Keeps w W rows := ⟨h.1, h.2.1, fun q hq => h.2.2 q (List.mem_cons_of_mem _ hq)⟩
theorem three_cells {W : World} {q : Nat} {t : TypeId} {a0 a1 a2 a3 a4 a5 a6 a7 a8 za d0 d1 d2 d3 d4 d5 d6 d7 d8 zd e0 e1 e2 e3 e4 e5 e6 e7 e8 ze : Int}
    (h : RowAt W q t [.int .i64 a0, .int .i64 a1, .int .i64 a2, .int .i64 a3, .int .i64 a4, .int .i64 a5, .int .i64 a6, .int .i64 a7, .int .i64 a8, .int .u64 za, .int .i64 d0, .int .i64 d1, .int .i64 d2, .int .i64 d3, .int .i64 d4, .int .i64 d5, .int .i64 d6, .int .i64 d7, .int .i64 d8, .int .u64 zd, .int .i64 e0, .int .i64 e1, .int .i64 e2, .int .i64 e3, .int .i64 e4, .int .i64 e5, .int .i64 e6, .int .i64 e7, .int .i64 e8, .int .u64 ze]) (m : Nat) (hm : m < 3) :
    ∃ x0 x1 x2 x3 x4 x5 x6 x7 x8 z : Int, W.cell? ⟨q, m * 10, none⟩ = some (.int .i64 x0) ∧ W.cell? ⟨q, m * 10 + 1, none⟩ = some (.int .i64 x1) ∧ W.cell? ⟨q, m * 10 + 2, none⟩ = some (.int .i64 x2) ∧ W.cell? ⟨q, m * 10 + 3, none⟩ = some (.int .i64 x3) ∧ W.cell? ⟨q, m * 10 + 4, none⟩ = some (.int .i64 x4) ∧
      W.cell? ⟨q, m * 10 + 5, none⟩ = some (.int .i64 x5) ∧ W.cell? ⟨q, m * 10 + 6, none⟩ = some (.int .i64 x6) ∧ W.cell? ⟨q, m * 10 + 7, none⟩ = some (.int .i64 x7) ∧ W.cell? ⟨q, m * 10 + 8, none⟩ = some (.int .i64 x8) ∧ W.cell? ⟨q, m * 10 + 9, none⟩ = some (.int .u64 z) := by
  have hm3 : m = 0 ∨ m = 1 ∨ m = 2 := by omega
  rcases hm3 with rfl | rfl | rfl
  · exact ⟨a0, a1, a2, a3, a4, a5, a6, a7, a8, za, by rw [h.cell]; rfl, by rw [h.cell]; rfl, by rw [h.cell]; rfl, by rw [h.cell]; rfl, by rw [h.cell]; rfl, by rw [h.cell]; rfl, by rw [h.cell]; rfl, by rw [h.cell]; rfl, by rw [h.cell]; rfl, by rw [h.cell]; rfl⟩
  · exact ⟨d0, d1, d2, d3, d4, d5, d6, d7, d8, zd, by rw [h.cell]; rfl, by rw [h.cell]; rfl, by rw [h.cell]; rfl, by rw [h.cell]; rfl, by rw [h.cell]; rfl, by rw [h.cell]; rfl, by rw [h.cell]; rfl, by rw [h.cell]; rfl, by rw [h.cell]; rfl, by rw [h.cell]; rfl⟩
  · exact ⟨e0, e1, e2, e3, e4, e5, e6, e7, e8, ze, by rw [h.cell]; rfl, by rw [h.cell]; rfl, by rw [h.cell]; rfl, by rw [h.cell]; rfl, by rw [h.cell]; rfl, by rw [h.cell]; rfl, by rw [h.cell]; rfl, by rw [h.cell]; rfl, by rw [h.cell]; rfl, by rw [h.cell]; rfl⟩
theorem five_cells {W : World} {q : Nat} {t : TypeId} {a0 a1 a2 a3 a4 : Int} (h : RowAt W q t [.int .i64 a0, .int .i64 a1, .int .i64 a2, .int .i64 a3, .int .i64 a4]) (h0 : I64 a0) (h1 : I64 a1) (h2 : I64 a2) (h3 : I64 a3) (h4 : I64 a4) (j : Nat) (hj : j < 5) :
    ∃ x : Int, I64 x ∧ W.cell? ⟨q, j, none⟩ = some (.int .i64 x) := by
  have hj5 : j = 0 ∨ j = 1 ∨ j = 2 ∨ j = 3 ∨ j = 4 := by omega
  rcases hj5 with rfl | rfl | rfl | rfl | rfl
  · exact ⟨a0, h0, by rw [h.cell]; rfl⟩
  · exact ⟨a1, h1, by rw [h.cell]; rfl⟩
  · exact ⟨a2, h2, by rw [h.cell]; rfl⟩
  · exact ⟨a3, h3, by rw [h.cell]; rfl⟩
  · exact ⟨a4, h4, by rw [h.cell]; rfl⟩
/-- A new slice of five numbers. -/
def Five (w wx : World) (sl : Value) (rows : List (Nat × TypeId × List Value)) : Prop := ∃ (h : Nat) (a0 a1 a2 a3 a4 : Int), sl = .slice (some ⟨h, 0, none⟩) 5 5 ∧ I64 a0 ∧ I64 a1 ∧ I64 a2 ∧ I64 a3 ∧ I64 a4 ∧ Keeps w wx ((h, 3, [.int .i64 a0, .int .i64 a1, .int .i64 a2, .int .i64 a3, .int .i64 a4]) :: rows)
/-- A new slice of three chains, the first two of which are known. -/
def Three (w wx : World) (sl : Value) (L : List Value) : Prop := ∃ (q : Nat) (v' s' c' n' t' d' r' k' g' : Int), sl = .slice (some ⟨q, 0, none⟩) 3 3 ∧ Keeps w wx [(q, 24, L ++ [.int .i64 v', .int .i64 s', .int .i64 c', .int .i64 n', .int .i64 t', .int .i64 d', .int .i64 r', .int .i64 k', .int .i64 g', .int .u64 0])]
set_option maxHeartbeats 8000000 in
set_option maxRecDepth 100000 in
theorem tells_walk {n0 n1 n2 n3 n4 n5 v s c n t d r k g : Int} (hch : ChainOf n0 n1 n2 n3 n4 n5 v s c n t d r k g) (w : World) (hT : Spans w) (b0 : I64 n0) (b1 : I64 n1) (b2 : I64 n2) (b3 : I64 n3) (b4 : I64 n4) (b5 : I64 n5)
    (vw sw cw nw tw dw rw kw gw zw y x a b : Int) (hy : I64 y) (ha : I64 a) (hb9 : I64 b) :
    Calls Tryd.prog 3 #[.agg #[.int .i64 vw, .int .i64 sw, .int .i64 cw, .int .i64 nw, .int .i64 tw, .int .i64 dw, .int .i64 rw, .int .i64 kw, .int .i64 gw, .int .u64 zw], .agg #[.int .i64 n0, .int .i64 n1, .int .i64 n2, .int .i64 n3, .int .i64 n4, .int .i64 n5], .int .i64 y, .int .i64 x, .int .i64 a, .int .i64 b] w fun e w' => e = .returned (.bool true) ∧ Below w.heap.size w w' := by
  have K0 : Keeps w ((w.alloc (.cells #[.int .i64 vw, .int .i64 sw, .int .i64 cw, .int .i64 nw, .int .i64 tw, .int .i64 dw, .int .i64 rw, .int .i64 kw, .int .i64 gw, .int .u64 zw] 24)).alloc (.cells #[.int .i64 n0, .int .i64 n1, .int .i64 n2, .int .i64 n3, .int .i64 n4, .int .i64 n5] 25)) [(w.heap.size + 1, 25, [.int .i64 n0, .int .i64 n1, .int .i64 n2, .int .i64 n3, .int .i64 n4, .int .i64 n5]), (w.heap.size, 24, [.int .i64 vw, .int .i64 sw, .int .i64 cw, .int .i64 nw, .int .i64 tw, .int .i64 dw, .int .i64 rw, .int .i64 kw, .int .i64 gw, .int .u64 zw])] := by
    have := ((show Keeps w w [] from ⟨hT, Below.refl _ _, fun _ h => by cases h⟩).alloc #[.int .i64 vw, .int .i64 sw, .int .i64 cw, .int .i64 nw, .int .i64 tw, .int .i64 dw, .int .i64 rw, .int .i64 kw, .int .i64 gw, .int .u64 zw] 24).alloc #[.int .i64 n0, .int .i64 n1, .int .i64 n2, .int .i64 n3, .int .i64 n4, .int .i64 n5] 25
    simpa using this
  go_enter Tryd.func3, Tryd.ntmps3
  go_wp2_with fail
  with_reducible refine (keeps_of K0 (awake_any _ K0.spans)).mono ?_
  rintro e w1 ⟨rfl, K1⟩
  have r0 := (K1.2.2 _ (List.mem_cons_self)).cell
  have N0 := r0 0
  have N1 := r0 1
  have N2 := r0 2
  have N3 := r0 3
  have N4 := r0 4
  have N5 := r0 5
  simp only [List.getElem?_cons_succ, List.getElem?_cons_zero] at N0 N1 N2 N3 N4 N5
  clear r0 K0
  go_wp2_with fail
  with_reducible refine (keeps_of K1 (Chain_any hch 0 _ b0 b1 b2 b3 b4 b5)).mono ?_
  rintro e w2 ⟨rfl, K2⟩
  have K3 := K2.alloc #[.int .i64 v, .int .i64 s, .int .i64 c, .int .i64 n, .int .i64 t, .int .i64 d, .int .i64 r, .int .i64 k, .int .i64 g, .int .u64 0] 24
  clear N0 N1 N2 N3 N4 N5 K1 hch b0 b1 b2 b3 b4 b5
  go_upto_region 3 with (fail)
  have R1 := K3.2.2 (w.heap.size, 24, [.int .i64 vw, .int .i64 sw, .int .i64 cw, .int .i64 nw, .int .i64 tw, .int .i64 dw, .int .i64 rw, .int .i64 kw, .int .i64 gw, .int .u64 zw]) (by simp)
  have R2 := K3.2.2 (w2.heap.size, 24, [.int .i64 v, .int .i64 s, .int .i64 c, .int .i64 n, .int .i64 t, .int .i64 d, .int .i64 r, .int .i64 k, .int .i64 g, .int .u64 0]) (by simp)
  have K4 : Keeps w (w2.alloc (.cells #[.int .i64 v, .int .i64 s, .int .i64 c, .int .i64 n, .int .i64 t, .int .i64 d, .int .i64 r, .int .i64 k, .int .i64 g, .int .u64 0] 24)) [] := ⟨K3.1, K3.2.1, fun _ h => by cases h⟩
  clear K2 K3
  generalize (w2.alloc (.cells #[.int .i64 v, .int .i64 s, .int .i64 c, .int .i64 n, .int .i64 t, .int .i64 d, .int .i64 r, .int .i64 k, .int .i64 g, .int .u64 0] 24)) = w3 at R1 R2 K4 ⊢
  generalize w2.heap.size = G at R2 ⊢
  have l1 := R1.lt
  have l2 := R2.lt
  obtain ⟨f0, f1, f2, f3, f4, f5, f6, f7, f8, f9⟩ := ten_cells R1
  obtain ⟨g0, g1, g2, g3, g4, g5, g6, g7, g8, g9⟩ := ten_cells R2
  go_cut [48, 49, 50] from 42 to 50 (fun sl ln i0 wx => ln = .int .i64 3 ∧ i0 = .int .i64 0 ∧ Three w wx sl [.int .i64 vw, .int .i64 sw, .int .i64 cw, .int .i64 nw, .int .i64 tw, .int .i64 dw, .int .i64 rw, .int .i64 kw, .int .i64 gw, .int .u64 zw, .int .i64 v, .int .i64 s, .int .i64 c, .int .i64 n, .int .i64 t, .int .i64 d, .int .i64 r, .int .i64 k, .int .i64 g, .int .u64 0])
  case first =>
    have HTu := fun W => Turned_any v s c n t d r k g 0 x y W hy
    go_region_held3 (fun w' => w'.cell? ⟨w.heap.size, 0, none⟩ = some (.int .i64 vw) ∧ w'.cell? ⟨w.heap.size, 1, none⟩ = some (.int .i64 sw) ∧ w'.cell? ⟨w.heap.size, 2, none⟩ = some (.int .i64 cw) ∧ w'.cell? ⟨w.heap.size, 3, none⟩ = some (.int .i64 nw) ∧ w'.cell? ⟨w.heap.size, 4, none⟩ = some (.int .i64 tw) ∧ w'.cell? ⟨w.heap.size, 5, none⟩ = some (.int .i64 dw) ∧ w'.cell? ⟨w.heap.size, 6, none⟩ = some (.int .i64 rw) ∧ w'.cell? ⟨w.heap.size, 7, none⟩ = some (.int .i64 kw) ∧ w'.cell? ⟨w.heap.size, 8, none⟩ = some (.int .i64 gw) ∧ w'.cell? ⟨w.heap.size, 9, none⟩ = some (.int .u64 zw) ∧ w'.cell? ⟨G, 0, none⟩ = some (.int .i64 v) ∧ w'.cell? ⟨G, 1, none⟩ = some (.int .i64 s) ∧ w'.cell? ⟨G, 2, none⟩ = some (.int .i64 c) ∧ w'.cell? ⟨G, 3, none⟩ = some (.int .i64 n) ∧ w'.cell? ⟨G, 4, none⟩ = some (.int .i64 t) ∧ w'.cell? ⟨G, 5, none⟩ = some (.int .i64 d) ∧ w'.cell? ⟨G, 6, none⟩ = some (.int .i64 r) ∧ w'.cell? ⟨G, 7, none⟩ = some (.int .i64 k) ∧ w'.cell? ⟨G, 8, none⟩ = some (.int .i64 g) ∧ w'.cell? ⟨G, 9, none⟩ = some (.int .u64 0)) (first | exact ⟨f0, f1, f2, f3, f4, f5, f6, f7, f8, f9, g0, g1, g2, g3, g4, g5, g6, g7, g8, g9⟩ | go_keep) (first | ((with_reducible refine (HTu _).mono ?_); rintro e w4 ⟨v', s', c', n', t', d', r', k', g', rfl, hb4_⟩; have hb4 : Below w3.heap.size w3 w4 := ((Below.refl _ w3).drew).trans hb4_; obtain ⟨f0, f1, f2, f3, f4, f5, f6, f7, f8, f9⟩ := ten_cells (R1.below hb4 l1); obtain ⟨g0, g1, g2, g3, g4, g5, g6, g7, g8, g9⟩ := ten_cells (R2.below hb4 l2)))
    all_goals
      go_wp2_with fail
      go_meet
      exact ⟨rfl, rfl, w4.heap.size, v', s', c', n', t', d', r', k', g', rfl, (K4.step hb4).alloc #[.int .i64 vw, .int .i64 sw, .int .i64 cw, .int .i64 nw, .int .i64 tw, .int .i64 dw, .int .i64 rw, .int .i64 kw, .int .i64 gw, .int .u64 zw, .int .i64 v, .int .i64 s, .int .i64 c, .int .i64 n, .int .i64 t, .int .i64 d, .int .i64 r, .int .i64 k, .int .i64 g, .int .u64 0, .int .i64 v', .int .i64 s', .int .i64 c', .int .i64 n', .int .i64 t', .int .i64 d', .int .i64 r', .int .i64 k', .int .i64 g', .int .u64 0] 24⟩
  case rest =>
    obtain ⟨wx, hwx⟩ : ∃ wx, wx = wc := ⟨_, rfl⟩
    subst hwx
    clear f0 f1 f2 f3 f4 f5 f6 f7 f8 f9 g0 g1 g2 g3 g4 g5 g6 g7 g8 g9 R1 R2 K4 l1 l2
    obtain ⟨rfl, rfl, q, v', s', c', n', t', d', r', k', g', rfl, K5⟩ := hcut
    go_wp2_with fail
    go_loopg [50] 3 (fun gk i wr => ∃ m : Nat, m + gk = 3 ∧ i = .int .i64 m ∧ Keeps w wr [(q, 24, [.int .i64 vw, .int .i64 sw, .int .i64 cw, .int .i64 nw, .int .i64 tw, .int .i64 dw, .int .i64 rw, .int .i64 kw, .int .i64 gw, .int .u64 zw, .int .i64 v, .int .i64 s, .int .i64 c, .int .i64 n, .int .i64 t, .int .i64 d, .int .i64 r, .int .i64 k, .int .i64 g, .int .u64 0, .int .i64 v', .int .i64 s', .int .i64 c', .int .i64 n', .int .i64 t', .int .i64 d', .int .i64 r', .int .i64 k', .int .i64 g', .int .u64 0])])
    case atStart => exact ⟨0, rfl, rfl, K5⟩
    case round =>
      obtain ⟨m, hm, rfl, K6⟩ := hrel
      cases gk with
      | succ gko =>
        have hlt : m < 3 := by omega
        obtain ⟨ve, se, ce, ne, te, de, re, ke, ge, ze, e0, e1, e2, e3, e4, e5, e6, e7, e8, e9⟩ := three_cells K6.first m hlt
        go_upto_region 6 with (fail)
        clear e0 e1 e2 e3 e4 e5 e6 e7 e8 e9
        have K7 := K6.alloc #[.int .i64 ve, .int .i64 se, .int .i64 ce, .int .i64 ne, .int .i64 te, .int .i64 de, .int .i64 re, .int .i64 ke, .int .i64 ge, .int .u64 ze] 24
        clear K6
        have R7 := K7.first
        have B7 := K7.2.1
        have T7 := K7.1
        generalize wr.heap.size = G7 at K7 R7 ⊢
        generalize wr.alloc (.cells #[.int .i64 ve, .int .i64 se, .int .i64 ce, .int .i64 ne, .int .i64 te, .int .i64 de, .int .i64 re, .int .i64 ke, .int .i64 ge, .int .u64 ze] 24) = w7 at K7 R7 B7 T7 ⊢
        obtain ⟨fit, hf⟩ : ∃ fit, fitsC ve se ce ne te de re ke ge = fit := ⟨_, rfl⟩
        have HF := Lib.hid hf
        obtain ⟨l0, l1, l2, l3, l4, l5, l6, l7, l8, l9⟩ := ten_later R7
        have HF1 := fun p : Later w7 => later_of (Fits_eq hf ze p.W (T7.on p.h))
        have HF2 := fun p : Later w7 => later_of (p := p) (rFits_eq hf ze p.W)
        clear hf
        refine wp_region_later (by kernel_rfl) (by kernel_rfl) ?_
        repeat (go_big_quiet_step (first | with_reducible exact HF1 _ | with_reducible exact HF2 _))
        refine wpQuiet_nil ?_
        intro _ hw'
        obtain ⟨pq, rfl⟩ := hw'
        have K8 := K7.step pq.h
        generalize pq.W = w8 at K8 ⊢
        clear pq l0 l1 l2 l3 l4 l5 l6 l7 l8 l9 HF1 HF2 K7 R7 B7 T7
        have p0 := cpick_bd a 1000 (by omega)
        have p1 := cpick_bd b 9 (by omega)
        have p2 := cpick_bd a 40 (by omega)
        have p3 := cpick_bd b 5 (by omega)
        have P0 := fun W => cpick_any a 1000 W ha (by omega) (by omega)
        have P1 := fun W => cpick_any b 9 W hb9 (by omega) (by omega)
        have P2 := fun W => cpick_any a 40 W ha (by omega) (by omega)
        have P3 := fun W => cpick_any b 5 W hb9 (by omega) (by omega)
        generalize cpick a 1000 = i0 at p0 P0
        generalize cpick b 9 = i1 at p1 P1
        generalize cpick a 40 = i2 at p2 P2
        generalize cpick b 5 = i3 at p3 P3
        have hd := div_bd (a := 1099511627776) (b := 1 + i2) (by omega) (by omega) (by omega)
        have hd1 : (1099511627776 : Int) / (1 + i2) ≤ 1099511627776 := Int.ediv_le_self _ (by omega)
        go_upto_region 8 with (fail)
        go_cut [50, 75, 76, 77] from 50 to 192 (fun ii sl ln j0 wx => ii = .int .i64 m ∧ ln = .int .i64 5 ∧ j0 = .int .i64 0 ∧ Five w wx sl ((G7, 24, [.int .i64 ve, .int .i64 se, .int .i64 ce, .int .i64 ne, .int .i64 te, .int .i64 de, .int .i64 re, .int .i64 ke, .int .i64 ge, .int .u64 ze]) :: (q, 24, [.int .i64 vw, .int .i64 sw, .int .i64 cw, .int .i64 nw, .int .i64 tw, .int .i64 dw, .int .i64 rw, .int .i64 kw, .int .i64 gw, .int .u64 zw, .int .i64 v, .int .i64 s, .int .i64 c, .int .i64 n, .int .i64 t, .int .i64 d, .int .i64 r, .int .i64 k, .int .i64 g, .int .u64 0, .int .i64 v', .int .i64 s', .int .i64 c', .int .i64 n', .int .i64 t', .int .i64 d', .int .i64 r', .int .i64 k', .int .i64 g', .int .u64 0]) :: []))
        case first =>
          have q0 : IntKind.i64.wrap (1099511627776 + i1) = 1099511627776 + i1 := IntWalk.i64_in _ (by omega)
          have q1 : IntKind.i64.wrap (1099511627776 + i1 - 4) = 1099511627776 + i1 - 4 := IntWalk.i64_in _ (by omega)
          have q2 : IntKind.i64.wrap (1 + i2) = 1 + i2 := IntWalk.i64_in _ (by omega)
          have q3 : IntKind.i64.wrap ((1099511627776 : Int).tdiv (1 + i2)) = 1099511627776 / (1 + i2) := by rw [Int.tdiv_eq_ediv_of_nonneg (by omega)]; exact IntWalk.i64_in _ (by omega)
          have q4 : IntKind.i64.wrap (1099511627776 / (1 + i2) + i3) = 1099511627776 / (1 + i2) + i3 := IntWalk.i64_in _ (by omega)
          have q5 : IntKind.i64.wrap (1099511627776 / (1 + i2) + i3 - 2) = 1099511627776 / (1 + i2) + i3 - 2 := IntWalk.i64_in _ (by omega)
          have q6 : (1 + i2 == 0) = false := by simp; omega
          have q7 : ¬ (1 + i2 = 0) := by omega
          have o4 : I64 (1099511627776 / (1 + i2) + i3 - 2) := ⟨by omega, by omega⟩
          have o3 : I64 (1099511627776 + i1 - 4) := ⟨by omega, by omega⟩
          have o2 : I64 i0 := ⟨by omega, by omega⟩
          go_region_held3 (fun _ => True) (trivial) (first | ((with_reducible refine (P0 _).mono ?_); rintro e w_ ⟨rfl, rfl⟩) | ((with_reducible refine (P1 _).mono ?_); rintro e w_ ⟨rfl, rfl⟩) | ((with_reducible refine (P2 _).mono ?_); rintro e w_ ⟨rfl, rfl⟩) | ((with_reducible refine (P3 _).mono ?_); rintro e w_ ⟨rfl, rfl⟩))
          all_goals
            go_wp2_with fail
            go_meet
            exact ⟨rfl, rfl, rfl, w8.heap.size, a, b, i0, _, _, rfl, ha, hb9, o2, o3, o4, (K8.alloc #[.int .i64 a, .int .i64 b, .int .i64 i0, .int .i64 (1099511627776 + i1 - 4), .int .i64 (1099511627776 / (1 + i2) + i3 - 2)] 3).step (Below.refl _ _).drew⟩
        case rest =>
          clear K8 P0 P1 P2 P3 p0 p1 p2 p3 hd hd1
          obtain ⟨wo, hwo⟩ : ∃ wo, wo = wr := ⟨_, rfl⟩
          subst hwo
          obtain ⟨wz, hwz⟩ : ∃ wz, wz = wc := ⟨_, rfl⟩
          subst hwz
          obtain ⟨rfl, rfl, rfl, h5, a0, a1, a2, a3, a4, rfl, y0, y1, y2, y3, y4, K9⟩ := hcut
          go_wp2_with fail
          go_loopg [77] 5 (fun g2 i wr => ∃ j : Nat, j + g2 = 5 ∧ i = .int .i64 j ∧ Keeps w wr ((h5, 3, [.int .i64 a0, .int .i64 a1, .int .i64 a2, .int .i64 a3, .int .i64 a4]) :: (G7, 24, [.int .i64 ve, .int .i64 se, .int .i64 ce, .int .i64 ne, .int .i64 te, .int .i64 de, .int .i64 re, .int .i64 ke, .int .i64 ge, .int .u64 ze]) :: (q, 24, [.int .i64 vw, .int .i64 sw, .int .i64 cw, .int .i64 nw, .int .i64 tw, .int .i64 dw, .int .i64 rw, .int .i64 kw, .int .i64 gw, .int .u64 zw, .int .i64 v, .int .i64 s, .int .i64 c, .int .i64 n, .int .i64 t, .int .i64 d, .int .i64 r, .int .i64 k, .int .i64 g, .int .u64 0, .int .i64 v', .int .i64 s', .int .i64 c', .int .i64 n', .int .i64 t', .int .i64 d', .int .i64 r', .int .i64 k', .int .i64 g', .int .u64 0]) :: []))
          case atStart => exact ⟨0, rfl, rfl, K9⟩
          case round =>
            clear K9
            obtain ⟨j, hj, rfl, KA⟩ := hrel
            cases gk with
            | succ g2 =>
              have hlj : j < 5 := by omega
              obtain ⟨z, hz, hzc⟩ := five_cells KA.first y0 y1 y2 y3 y4 j hlj
              obtain ⟨m0, m1, m2, m3, m4, m5, m6, m7, m8, m9⟩ := ten_cells KA.second
              obtain ⟨R0, E0, hR0⟩ : ∃ R E, slotA fit te z = (R, E) := ⟨_, _, rfl⟩
              have c0 : ∀ W, Keeps w W ((h5, 3, [.int .i64 a0, .int .i64 a1, .int .i64 a2, .int .i64 a3, .int .i64 a4]) :: (G7, 24, [.int .i64 ve, .int .i64 se, .int .i64 ce, .int .i64 ne, .int .i64 te, .int .i64 de, .int .i64 re, .int .i64 ke, .int .i64 ge, .int .u64 ze]) :: (q, 24, [.int .i64 vw, .int .i64 sw, .int .i64 cw, .int .i64 nw, .int .i64 tw, .int .i64 dw, .int .i64 rw, .int .i64 kw, .int .i64 gw, .int .u64 zw, .int .i64 v, .int .i64 s, .int .i64 c, .int .i64 n, .int .i64 t, .int .i64 d, .int .i64 r, .int .i64 k, .int .i64 g, .int .u64 0, .int .i64 v', .int .i64 s', .int .i64 c', .int .i64 n', .int .i64 t', .int .i64 d', .int .i64 r', .int .i64 k', .int .i64 g', .int .u64 0]) :: []) → Calls Tryd.prog 14 #[.agg #[.int .i64 ve, .int .i64 se, .int .i64 ce, .int .i64 ne, .int .i64 te, .int .i64 de, .int .i64 re, .int .i64 ke, .int .i64 ge, .int .u64 ze], .int .i64 z] W fun e w' => e = .returned (.tuple #[.int .i64 R0, .int .i64 E0]) ∧ Keeps w w' ((h5, 3, [.int .i64 a0, .int .i64 a1, .int .i64 a2, .int .i64 a3, .int .i64 a4]) :: (G7, 24, [.int .i64 ve, .int .i64 se, .int .i64 ce, .int .i64 ne, .int .i64 te, .int .i64 de, .int .i64 re, .int .i64 ke, .int .i64 ge, .int .u64 ze]) :: (q, 24, [.int .i64 vw, .int .i64 sw, .int .i64 cw, .int .i64 nw, .int .i64 tw, .int .i64 dw, .int .i64 rw, .int .i64 kw, .int .i64 gw, .int .u64 zw, .int .i64 v, .int .i64 s, .int .i64 c, .int .i64 n, .int .i64 t, .int .i64 d, .int .i64 r, .int .i64 k, .int .i64 g, .int .u64 0, .int .i64 v', .int .i64 s', .int .i64 c', .int .i64 n', .int .i64 t', .int .i64 d', .int .i64 r', .int .i64 k', .int .i64 g', .int .u64 0]) :: []) := fun W h => keeps_of h (SlotOf_any HF.out ze W h.spans z hz R0 E0 hR0)
              have c1 : ∀ W, Keeps w W ((h5, 3, [.int .i64 a0, .int .i64 a1, .int .i64 a2, .int .i64 a3, .int .i64 a4]) :: (G7, 24, [.int .i64 ve, .int .i64 se, .int .i64 ce, .int .i64 ne, .int .i64 te, .int .i64 de, .int .i64 re, .int .i64 ke, .int .i64 ge, .int .u64 ze]) :: (q, 24, [.int .i64 vw, .int .i64 sw, .int .i64 cw, .int .i64 nw, .int .i64 tw, .int .i64 dw, .int .i64 rw, .int .i64 kw, .int .i64 gw, .int .u64 zw, .int .i64 v, .int .i64 s, .int .i64 c, .int .i64 n, .int .i64 t, .int .i64 d, .int .i64 r, .int .i64 k, .int .i64 g, .int .u64 0, .int .i64 v', .int .i64 s', .int .i64 c', .int .i64 n', .int .i64 t', .int .i64 d', .int .i64 r', .int .i64 k', .int .i64 g', .int .u64 0]) :: []) → Calls Tryd.prog 15 #[.agg #[.int .i64 ve, .int .i64 se, .int .i64 ce, .int .i64 ne, .int .i64 te, .int .i64 de, .int .i64 re, .int .i64 ke, .int .i64 ge, .int .u64 ze], .int .i64 z] W fun e w' => e = .returned (.tuple #[.int .i64 R0, .int .i64 E0]) ∧ Keeps w w' ((h5, 3, [.int .i64 a0, .int .i64 a1, .int .i64 a2, .int .i64 a3, .int .i64 a4]) :: (G7, 24, [.int .i64 ve, .int .i64 se, .int .i64 ce, .int .i64 ne, .int .i64 te, .int .i64 de, .int .i64 re, .int .i64 ke, .int .i64 ge, .int .u64 ze]) :: (q, 24, [.int .i64 vw, .int .i64 sw, .int .i64 cw, .int .i64 nw, .int .i64 tw, .int .i64 dw, .int .i64 rw, .int .i64 kw, .int .i64 gw, .int .u64 zw, .int .i64 v, .int .i64 s, .int .i64 c, .int .i64 n, .int .i64 t, .int .i64 d, .int .i64 r, .int .i64 k, .int .i64 g, .int .u64 0, .int .i64 v', .int .i64 s', .int .i64 c', .int .i64 n', .int .i64 t', .int .i64 d', .int .i64 r', .int .i64 k', .int .i64 g', .int .u64 0]) :: []) := fun W h => keeps_of h (rSlotOf_any HF.out ze W z hz R0 E0 hR0)
              obtain ⟨R1, E1, hR1⟩ : ∃ R E, startA fit te z = (R, E) := ⟨_, _, rfl⟩
              have c2 : ∀ W, Keeps w W ((h5, 3, [.int .i64 a0, .int .i64 a1, .int .i64 a2, .int .i64 a3, .int .i64 a4]) :: (G7, 24, [.int .i64 ve, .int .i64 se, .int .i64 ce, .int .i64 ne, .int .i64 te, .int .i64 de, .int .i64 re, .int .i64 ke, .int .i64 ge, .int .u64 ze]) :: (q, 24, [.int .i64 vw, .int .i64 sw, .int .i64 cw, .int .i64 nw, .int .i64 tw, .int .i64 dw, .int .i64 rw, .int .i64 kw, .int .i64 gw, .int .u64 zw, .int .i64 v, .int .i64 s, .int .i64 c, .int .i64 n, .int .i64 t, .int .i64 d, .int .i64 r, .int .i64 k, .int .i64 g, .int .u64 0, .int .i64 v', .int .i64 s', .int .i64 c', .int .i64 n', .int .i64 t', .int .i64 d', .int .i64 r', .int .i64 k', .int .i64 g', .int .u64 0]) :: []) → Calls Tryd.prog 16 #[.agg #[.int .i64 ve, .int .i64 se, .int .i64 ce, .int .i64 ne, .int .i64 te, .int .i64 de, .int .i64 re, .int .i64 ke, .int .i64 ge, .int .u64 ze], .int .i64 z] W fun e w' => e = .returned (.tuple #[.int .i64 R1, .int .i64 E1]) ∧ Keeps w w' ((h5, 3, [.int .i64 a0, .int .i64 a1, .int .i64 a2, .int .i64 a3, .int .i64 a4]) :: (G7, 24, [.int .i64 ve, .int .i64 se, .int .i64 ce, .int .i64 ne, .int .i64 te, .int .i64 de, .int .i64 re, .int .i64 ke, .int .i64 ge, .int .u64 ze]) :: (q, 24, [.int .i64 vw, .int .i64 sw, .int .i64 cw, .int .i64 nw, .int .i64 tw, .int .i64 dw, .int .i64 rw, .int .i64 kw, .int .i64 gw, .int .u64 zw, .int .i64 v, .int .i64 s, .int .i64 c, .int .i64 n, .int .i64 t, .int .i64 d, .int .i64 r, .int .i64 k, .int .i64 g, .int .u64 0, .int .i64 v', .int .i64 s', .int .i64 c', .int .i64 n', .int .i64 t', .int .i64 d', .int .i64 r', .int .i64 k', .int .i64 g', .int .u64 0]) :: []) := fun W h => keeps_of h (Start_any HF.out ze W h.spans z hz R1 E1 hR1)
              have c3 : ∀ W, Keeps w W ((h5, 3, [.int .i64 a0, .int .i64 a1, .int .i64 a2, .int .i64 a3, .int .i64 a4]) :: (G7, 24, [.int .i64 ve, .int .i64 se, .int .i64 ce, .int .i64 ne, .int .i64 te, .int .i64 de, .int .i64 re, .int .i64 ke, .int .i64 ge, .int .u64 ze]) :: (q, 24, [.int .i64 vw, .int .i64 sw, .int .i64 cw, .int .i64 nw, .int .i64 tw, .int .i64 dw, .int .i64 rw, .int .i64 kw, .int .i64 gw, .int .u64 zw, .int .i64 v, .int .i64 s, .int .i64 c, .int .i64 n, .int .i64 t, .int .i64 d, .int .i64 r, .int .i64 k, .int .i64 g, .int .u64 0, .int .i64 v', .int .i64 s', .int .i64 c', .int .i64 n', .int .i64 t', .int .i64 d', .int .i64 r', .int .i64 k', .int .i64 g', .int .u64 0]) :: []) → Calls Tryd.prog 17 #[.agg #[.int .i64 ve, .int .i64 se, .int .i64 ce, .int .i64 ne, .int .i64 te, .int .i64 de, .int .i64 re, .int .i64 ke, .int .i64 ge, .int .u64 ze], .int .i64 z] W fun e w' => e = .returned (.tuple #[.int .i64 R1, .int .i64 E1]) ∧ Keeps w w' ((h5, 3, [.int .i64 a0, .int .i64 a1, .int .i64 a2, .int .i64 a3, .int .i64 a4]) :: (G7, 24, [.int .i64 ve, .int .i64 se, .int .i64 ce, .int .i64 ne, .int .i64 te, .int .i64 de, .int .i64 re, .int .i64 ke, .int .i64 ge, .int .u64 ze]) :: (q, 24, [.int .i64 vw, .int .i64 sw, .int .i64 cw, .int .i64 nw, .int .i64 tw, .int .i64 dw, .int .i64 rw, .int .i64 kw, .int .i64 gw, .int .u64 zw, .int .i64 v, .int .i64 s, .int .i64 c, .int .i64 n, .int .i64 t, .int .i64 d, .int .i64 r, .int .i64 k, .int .i64 g, .int .u64 0, .int .i64 v', .int .i64 s', .int .i64 c', .int .i64 n', .int .i64 t', .int .i64 d', .int .i64 r', .int .i64 k', .int .i64 g', .int .u64 0]) :: []) := fun W h => keeps_of h (rStart_any HF.out ze W z hz R1 E1 hR1)
              obtain ⟨R2, E2, hR2⟩ : ∃ R E, epochA fit se z = (R, E) := ⟨_, _, rfl⟩
              have c4 : ∀ W, Keeps w W ((h5, 3, [.int .i64 a0, .int .i64 a1, .int .i64 a2, .int .i64 a3, .int .i64 a4]) :: (G7, 24, [.int .i64 ve, .int .i64 se, .int .i64 ce, .int .i64 ne, .int .i64 te, .int .i64 de, .int .i64 re, .int .i64 ke, .int .i64 ge, .int .u64 ze]) :: (q, 24, [.int .i64 vw, .int .i64 sw, .int .i64 cw, .int .i64 nw, .int .i64 tw, .int .i64 dw, .int .i64 rw, .int .i64 kw, .int .i64 gw, .int .u64 zw, .int .i64 v, .int .i64 s, .int .i64 c, .int .i64 n, .int .i64 t, .int .i64 d, .int .i64 r, .int .i64 k, .int .i64 g, .int .u64 0, .int .i64 v', .int .i64 s', .int .i64 c', .int .i64 n', .int .i64 t', .int .i64 d', .int .i64 r', .int .i64 k', .int .i64 g', .int .u64 0]) :: []) → Calls Tryd.prog 18 #[.agg #[.int .i64 ve, .int .i64 se, .int .i64 ce, .int .i64 ne, .int .i64 te, .int .i64 de, .int .i64 re, .int .i64 ke, .int .i64 ge, .int .u64 ze], .int .i64 z] W fun e w' => e = .returned (.tuple #[.int .i64 R2, .int .i64 E2]) ∧ Keeps w w' ((h5, 3, [.int .i64 a0, .int .i64 a1, .int .i64 a2, .int .i64 a3, .int .i64 a4]) :: (G7, 24, [.int .i64 ve, .int .i64 se, .int .i64 ce, .int .i64 ne, .int .i64 te, .int .i64 de, .int .i64 re, .int .i64 ke, .int .i64 ge, .int .u64 ze]) :: (q, 24, [.int .i64 vw, .int .i64 sw, .int .i64 cw, .int .i64 nw, .int .i64 tw, .int .i64 dw, .int .i64 rw, .int .i64 kw, .int .i64 gw, .int .u64 zw, .int .i64 v, .int .i64 s, .int .i64 c, .int .i64 n, .int .i64 t, .int .i64 d, .int .i64 r, .int .i64 k, .int .i64 g, .int .u64 0, .int .i64 v', .int .i64 s', .int .i64 c', .int .i64 n', .int .i64 t', .int .i64 d', .int .i64 r', .int .i64 k', .int .i64 g', .int .u64 0]) :: []) := fun W h => keeps_of h (EpochOf_any HF.out ze W h.spans z hz R2 E2 hR2)
              have c5 : ∀ W, Keeps w W ((h5, 3, [.int .i64 a0, .int .i64 a1, .int .i64 a2, .int .i64 a3, .int .i64 a4]) :: (G7, 24, [.int .i64 ve, .int .i64 se, .int .i64 ce, .int .i64 ne, .int .i64 te, .int .i64 de, .int .i64 re, .int .i64 ke, .int .i64 ge, .int .u64 ze]) :: (q, 24, [.int .i64 vw, .int .i64 sw, .int .i64 cw, .int .i64 nw, .int .i64 tw, .int .i64 dw, .int .i64 rw, .int .i64 kw, .int .i64 gw, .int .u64 zw, .int .i64 v, .int .i64 s, .int .i64 c, .int .i64 n, .int .i64 t, .int .i64 d, .int .i64 r, .int .i64 k, .int .i64 g, .int .u64 0, .int .i64 v', .int .i64 s', .int .i64 c', .int .i64 n', .int .i64 t', .int .i64 d', .int .i64 r', .int .i64 k', .int .i64 g', .int .u64 0]) :: []) → Calls Tryd.prog 19 #[.agg #[.int .i64 ve, .int .i64 se, .int .i64 ce, .int .i64 ne, .int .i64 te, .int .i64 de, .int .i64 re, .int .i64 ke, .int .i64 ge, .int .u64 ze], .int .i64 z] W fun e w' => e = .returned (.tuple #[.int .i64 R2, .int .i64 E2]) ∧ Keeps w w' ((h5, 3, [.int .i64 a0, .int .i64 a1, .int .i64 a2, .int .i64 a3, .int .i64 a4]) :: (G7, 24, [.int .i64 ve, .int .i64 se, .int .i64 ce, .int .i64 ne, .int .i64 te, .int .i64 de, .int .i64 re, .int .i64 ke, .int .i64 ge, .int .u64 ze]) :: (q, 24, [.int .i64 vw, .int .i64 sw, .int .i64 cw, .int .i64 nw, .int .i64 tw, .int .i64 dw, .int .i64 rw, .int .i64 kw, .int .i64 gw, .int .u64 zw, .int .i64 v, .int .i64 s, .int .i64 c, .int .i64 n, .int .i64 t, .int .i64 d, .int .i64 r, .int .i64 k, .int .i64 g, .int .u64 0, .int .i64 v', .int .i64 s', .int .i64 c', .int .i64 n', .int .i64 t', .int .i64 d', .int .i64 r', .int .i64 k', .int .i64 g', .int .u64 0]) :: []) := fun W h => keeps_of h (rEpochOf_any HF.out ze W z hz R2 E2 hR2)
              obtain ⟨R3, E3, hR3⟩ : ∃ R E, firstA fit se te z = (R, E) := ⟨_, _, rfl⟩
              have c6 : ∀ W, Keeps w W ((h5, 3, [.int .i64 a0, .int .i64 a1, .int .i64 a2, .int .i64 a3, .int .i64 a4]) :: (G7, 24, [.int .i64 ve, .int .i64 se, .int .i64 ce, .int .i64 ne, .int .i64 te, .int .i64 de, .int .i64 re, .int .i64 ke, .int .i64 ge, .int .u64 ze]) :: (q, 24, [.int .i64 vw, .int .i64 sw, .int .i64 cw, .int .i64 nw, .int .i64 tw, .int .i64 dw, .int .i64 rw, .int .i64 kw, .int .i64 gw, .int .u64 zw, .int .i64 v, .int .i64 s, .int .i64 c, .int .i64 n, .int .i64 t, .int .i64 d, .int .i64 r, .int .i64 k, .int .i64 g, .int .u64 0, .int .i64 v', .int .i64 s', .int .i64 c', .int .i64 n', .int .i64 t', .int .i64 d', .int .i64 r', .int .i64 k', .int .i64 g', .int .u64 0]) :: []) → Calls Tryd.prog 20 #[.agg #[.int .i64 ve, .int .i64 se, .int .i64 ce, .int .i64 ne, .int .i64 te, .int .i64 de, .int .i64 re, .int .i64 ke, .int .i64 ge, .int .u64 ze], .int .i64 z] W fun e w' => e = .returned (.tuple #[.int .i64 R3, .int .i64 E3]) ∧ Keeps w w' ((h5, 3, [.int .i64 a0, .int .i64 a1, .int .i64 a2, .int .i64 a3, .int .i64 a4]) :: (G7, 24, [.int .i64 ve, .int .i64 se, .int .i64 ce, .int .i64 ne, .int .i64 te, .int .i64 de, .int .i64 re, .int .i64 ke, .int .i64 ge, .int .u64 ze]) :: (q, 24, [.int .i64 vw, .int .i64 sw, .int .i64 cw, .int .i64 nw, .int .i64 tw, .int .i64 dw, .int .i64 rw, .int .i64 kw, .int .i64 gw, .int .u64 zw, .int .i64 v, .int .i64 s, .int .i64 c, .int .i64 n, .int .i64 t, .int .i64 d, .int .i64 r, .int .i64 k, .int .i64 g, .int .u64 0, .int .i64 v', .int .i64 s', .int .i64 c', .int .i64 n', .int .i64 t', .int .i64 d', .int .i64 r', .int .i64 k', .int .i64 g', .int .u64 0]) :: []) := fun W h => keeps_of h (First_any HF.out ze W h.spans z hz R3 E3 hR3)
              have c7 : ∀ W, Keeps w W ((h5, 3, [.int .i64 a0, .int .i64 a1, .int .i64 a2, .int .i64 a3, .int .i64 a4]) :: (G7, 24, [.int .i64 ve, .int .i64 se, .int .i64 ce, .int .i64 ne, .int .i64 te, .int .i64 de, .int .i64 re, .int .i64 ke, .int .i64 ge, .int .u64 ze]) :: (q, 24, [.int .i64 vw, .int .i64 sw, .int .i64 cw, .int .i64 nw, .int .i64 tw, .int .i64 dw, .int .i64 rw, .int .i64 kw, .int .i64 gw, .int .u64 zw, .int .i64 v, .int .i64 s, .int .i64 c, .int .i64 n, .int .i64 t, .int .i64 d, .int .i64 r, .int .i64 k, .int .i64 g, .int .u64 0, .int .i64 v', .int .i64 s', .int .i64 c', .int .i64 n', .int .i64 t', .int .i64 d', .int .i64 r', .int .i64 k', .int .i64 g', .int .u64 0]) :: []) → Calls Tryd.prog 21 #[.agg #[.int .i64 ve, .int .i64 se, .int .i64 ce, .int .i64 ne, .int .i64 te, .int .i64 de, .int .i64 re, .int .i64 ke, .int .i64 ge, .int .u64 ze], .int .i64 z] W fun e w' => e = .returned (.tuple #[.int .i64 R3, .int .i64 E3]) ∧ Keeps w w' ((h5, 3, [.int .i64 a0, .int .i64 a1, .int .i64 a2, .int .i64 a3, .int .i64 a4]) :: (G7, 24, [.int .i64 ve, .int .i64 se, .int .i64 ce, .int .i64 ne, .int .i64 te, .int .i64 de, .int .i64 re, .int .i64 ke, .int .i64 ge, .int .u64 ze]) :: (q, 24, [.int .i64 vw, .int .i64 sw, .int .i64 cw, .int .i64 nw, .int .i64 tw, .int .i64 dw, .int .i64 rw, .int .i64 kw, .int .i64 gw, .int .u64 zw, .int .i64 v, .int .i64 s, .int .i64 c, .int .i64 n, .int .i64 t, .int .i64 d, .int .i64 r, .int .i64 k, .int .i64 g, .int .u64 0, .int .i64 v', .int .i64 s', .int .i64 c', .int .i64 n', .int .i64 t', .int .i64 d', .int .i64 r', .int .i64 k', .int .i64 g', .int .u64 0]) :: []) := fun W h => keeps_of h (rFirst_any HF.out ze W z hz R3 E3 hR3)
              obtain ⟨R4, E4, hR4⟩ : ∃ R E, forwardA fit z b = (R, E) := ⟨_, _, rfl⟩
              have c8 : ∀ W, Keeps w W ((h5, 3, [.int .i64 a0, .int .i64 a1, .int .i64 a2, .int .i64 a3, .int .i64 a4]) :: (G7, 24, [.int .i64 ve, .int .i64 se, .int .i64 ce, .int .i64 ne, .int .i64 te, .int .i64 de, .int .i64 re, .int .i64 ke, .int .i64 ge, .int .u64 ze]) :: (q, 24, [.int .i64 vw, .int .i64 sw, .int .i64 cw, .int .i64 nw, .int .i64 tw, .int .i64 dw, .int .i64 rw, .int .i64 kw, .int .i64 gw, .int .u64 zw, .int .i64 v, .int .i64 s, .int .i64 c, .int .i64 n, .int .i64 t, .int .i64 d, .int .i64 r, .int .i64 k, .int .i64 g, .int .u64 0, .int .i64 v', .int .i64 s', .int .i64 c', .int .i64 n', .int .i64 t', .int .i64 d', .int .i64 r', .int .i64 k', .int .i64 g', .int .u64 0]) :: []) → Calls Tryd.prog 22 #[.agg #[.int .i64 ve, .int .i64 se, .int .i64 ce, .int .i64 ne, .int .i64 te, .int .i64 de, .int .i64 re, .int .i64 ke, .int .i64 ge, .int .u64 ze], .int .i64 z, .int .i64 b] W fun e w' => e = .returned (.tuple #[.int .i64 R4, .int .i64 E4]) ∧ Keeps w w' ((h5, 3, [.int .i64 a0, .int .i64 a1, .int .i64 a2, .int .i64 a3, .int .i64 a4]) :: (G7, 24, [.int .i64 ve, .int .i64 se, .int .i64 ce, .int .i64 ne, .int .i64 te, .int .i64 de, .int .i64 re, .int .i64 ke, .int .i64 ge, .int .u64 ze]) :: (q, 24, [.int .i64 vw, .int .i64 sw, .int .i64 cw, .int .i64 nw, .int .i64 tw, .int .i64 dw, .int .i64 rw, .int .i64 kw, .int .i64 gw, .int .u64 zw, .int .i64 v, .int .i64 s, .int .i64 c, .int .i64 n, .int .i64 t, .int .i64 d, .int .i64 r, .int .i64 k, .int .i64 g, .int .u64 0, .int .i64 v', .int .i64 s', .int .i64 c', .int .i64 n', .int .i64 t', .int .i64 d', .int .i64 r', .int .i64 k', .int .i64 g', .int .u64 0]) :: []) := fun W h => keeps_of h (Forward_any HF.out ze W h.spans z b hz hb9 R4 E4 hR4)
              have c9 : ∀ W, Keeps w W ((h5, 3, [.int .i64 a0, .int .i64 a1, .int .i64 a2, .int .i64 a3, .int .i64 a4]) :: (G7, 24, [.int .i64 ve, .int .i64 se, .int .i64 ce, .int .i64 ne, .int .i64 te, .int .i64 de, .int .i64 re, .int .i64 ke, .int .i64 ge, .int .u64 ze]) :: (q, 24, [.int .i64 vw, .int .i64 sw, .int .i64 cw, .int .i64 nw, .int .i64 tw, .int .i64 dw, .int .i64 rw, .int .i64 kw, .int .i64 gw, .int .u64 zw, .int .i64 v, .int .i64 s, .int .i64 c, .int .i64 n, .int .i64 t, .int .i64 d, .int .i64 r, .int .i64 k, .int .i64 g, .int .u64 0, .int .i64 v', .int .i64 s', .int .i64 c', .int .i64 n', .int .i64 t', .int .i64 d', .int .i64 r', .int .i64 k', .int .i64 g', .int .u64 0]) :: []) → Calls Tryd.prog 23 #[.agg #[.int .i64 ve, .int .i64 se, .int .i64 ce, .int .i64 ne, .int .i64 te, .int .i64 de, .int .i64 re, .int .i64 ke, .int .i64 ge, .int .u64 ze], .int .i64 z, .int .i64 b] W fun e w' => e = .returned (.tuple #[.int .i64 R4, .int .i64 E4]) ∧ Keeps w w' ((h5, 3, [.int .i64 a0, .int .i64 a1, .int .i64 a2, .int .i64 a3, .int .i64 a4]) :: (G7, 24, [.int .i64 ve, .int .i64 se, .int .i64 ce, .int .i64 ne, .int .i64 te, .int .i64 de, .int .i64 re, .int .i64 ke, .int .i64 ge, .int .u64 ze]) :: (q, 24, [.int .i64 vw, .int .i64 sw, .int .i64 cw, .int .i64 nw, .int .i64 tw, .int .i64 dw, .int .i64 rw, .int .i64 kw, .int .i64 gw, .int .u64 zw, .int .i64 v, .int .i64 s, .int .i64 c, .int .i64 n, .int .i64 t, .int .i64 d, .int .i64 r, .int .i64 k, .int .i64 g, .int .u64 0, .int .i64 v', .int .i64 s', .int .i64 c', .int .i64 n', .int .i64 t', .int .i64 d', .int .i64 r', .int .i64 k', .int .i64 g', .int .u64 0]) :: []) := fun W h => keeps_of h (rForward_any HF.out ze W z b hz hb9 R4 E4 hR4)
              clear hR0 hR1 hR2 hR3 hR4
              go_wp2_with (first
                | ((with_reducible refine (c0 _ (by assumption)).mono ?_); rintro e w9 ⟨rfl, KB⟩; clear m0 m1 m2 m3 m4 m5 m6 m7 m8 m9 KA; have KA := KB; clear KB; obtain ⟨m0, m1, m2, m3, m4, m5, m6, m7, m8, m9⟩ := ten_cells KA.second)
                | ((with_reducible refine (c1 _ (by assumption)).mono ?_); rintro e w9 ⟨rfl, KB⟩; clear m0 m1 m2 m3 m4 m5 m6 m7 m8 m9 KA; have KA := KB; clear KB; obtain ⟨m0, m1, m2, m3, m4, m5, m6, m7, m8, m9⟩ := ten_cells KA.second)
                | ((with_reducible refine (c2 _ (by assumption)).mono ?_); rintro e w9 ⟨rfl, KB⟩; clear m0 m1 m2 m3 m4 m5 m6 m7 m8 m9 KA; have KA := KB; clear KB; obtain ⟨m0, m1, m2, m3, m4, m5, m6, m7, m8, m9⟩ := ten_cells KA.second)
                | ((with_reducible refine (c3 _ (by assumption)).mono ?_); rintro e w9 ⟨rfl, KB⟩; clear m0 m1 m2 m3 m4 m5 m6 m7 m8 m9 KA; have KA := KB; clear KB; obtain ⟨m0, m1, m2, m3, m4, m5, m6, m7, m8, m9⟩ := ten_cells KA.second)
                | ((with_reducible refine (c4 _ (by assumption)).mono ?_); rintro e w9 ⟨rfl, KB⟩; clear m0 m1 m2 m3 m4 m5 m6 m7 m8 m9 KA; have KA := KB; clear KB; obtain ⟨m0, m1, m2, m3, m4, m5, m6, m7, m8, m9⟩ := ten_cells KA.second)
                | ((with_reducible refine (c5 _ (by assumption)).mono ?_); rintro e w9 ⟨rfl, KB⟩; clear m0 m1 m2 m3 m4 m5 m6 m7 m8 m9 KA; have KA := KB; clear KB; obtain ⟨m0, m1, m2, m3, m4, m5, m6, m7, m8, m9⟩ := ten_cells KA.second)
                | ((with_reducible refine (c6 _ (by assumption)).mono ?_); rintro e w9 ⟨rfl, KB⟩; clear m0 m1 m2 m3 m4 m5 m6 m7 m8 m9 KA; have KA := KB; clear KB; obtain ⟨m0, m1, m2, m3, m4, m5, m6, m7, m8, m9⟩ := ten_cells KA.second)
                | ((with_reducible refine (c7 _ (by assumption)).mono ?_); rintro e w9 ⟨rfl, KB⟩; clear m0 m1 m2 m3 m4 m5 m6 m7 m8 m9 KA; have KA := KB; clear KB; obtain ⟨m0, m1, m2, m3, m4, m5, m6, m7, m8, m9⟩ := ten_cells KA.second)
                | ((with_reducible refine (c8 _ (by assumption)).mono ?_); rintro e w9 ⟨rfl, KB⟩; clear m0 m1 m2 m3 m4 m5 m6 m7 m8 m9 KA; have KA := KB; clear KB; obtain ⟨m0, m1, m2, m3, m4, m5, m6, m7, m8, m9⟩ := ten_cells KA.second)
                | ((with_reducible refine (c9 _ (by assumption)).mono ?_); rintro e w9 ⟨rfl, KB⟩; clear m0 m1 m2 m3 m4 m5 m6 m7 m8 m9 KA; have KA := KB; clear KB; obtain ⟨m0, m1, m2, m3, m4, m5, m6, m7, m8, m9⟩ := ten_cells KA.second))
              go_roundg g2
              case measure => omega
              case rel => exact ⟨j + 1, by omega, by first | rfl | simp, by assumption⟩
            | zero =>
              obtain rfl : j = 5 := by omega
              go_wp2_with fail
              go_roundg gko
              case measure => omega
              case rel => exact ⟨m + 1, by omega, by first | rfl | simp, KA.tail.tail⟩
      | zero =>
        obtain rfl : m = 3 := by omega
        go_wp2_with fail
        go_ret
        exact ⟨rfl, K6.2.1⟩
theorem tells_calls (vw sw cw nw tw dw rw kw gw zw : Int) {n0 n1 n2 n3 n4 n5 : Int} (b0 : I64 n0) (b1 : I64 n1) (b2 : I64 n2) (b3 : I64 n3) (b4 : I64 n4) (b5 : I64 n5) (y : Int) (hy : I64 y) (x : Int) (_hx : I64 x) (a : Int) (ha : I64 a) (b : Int) (hb : I64 b) (w : World) (hT : Spans w) :
    Calls Tryd.prog 3 #[.agg #[.int .i64 vw, .int .i64 sw, .int .i64 cw, .int .i64 nw, .int .i64 tw, .int .i64 dw, .int .i64 rw, .int .i64 kw, .int .i64 gw, .int .u64 zw], .agg #[.int .i64 n0, .int .i64 n1, .int .i64 n2, .int .i64 n3, .int .i64 n4, .int .i64 n5], .int .i64 y, .int .i64 x, .int .i64 a, .int .i64 b] w fun e w' => e = .returned (.bool true) ∧ Below w.heap.size w w' := by
  obtain ⟨v, s, c, n, t, d, r, k, g, hch⟩ := chain_of n0 n1 n2 n3 n4 n5
  exact tells_walk hch w hT b0 b1 b2 b3 b4 b5 vw sw cw nw tw dw rw kw gw zw y x a b hy ha hb
end Go.Proofs.YtnibfcoecfppnaaDoor
