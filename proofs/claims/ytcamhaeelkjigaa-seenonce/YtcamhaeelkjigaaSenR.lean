/- Layer 13, the program: order, Right. -/
import Derived.Test.YtcamhaeelkjigaaSenO
namespace Go.Proofs.Ytcamhaeelkjigaa
open Go.RowKit

set_option maxHeartbeats 1000000 in
theorem sorder_any (a1 a2 a3 b1 b2 b3 : Int) (w : World) :
    Calls Try.prog 30 #[.agg #[.int .i64 a1, .int .i64 a2, .int .i64 a3], .agg #[.int .i64 b1, .int .i64 b2, .int .i64 b3]] w fun e w' => e = .returned (.int .i64 (cmpM (a1, a2, a3) (b1, b2, b3))) ∧ Below w.heap.size w w' := by
  have hA := (Below.refl w.heap.size w).alloc (Nat.le_refl _) (.cells #[.int .i64 a1, .int .i64 a2, .int .i64 a3] 25)
  have q1 := RowAt.new w 25 #[.int .i64 a1, .int .i64 a2, .int .i64 a3]
  go_enter Try.func30, Try.ntmps30
  go_upto_region 1 with (fail)
  obtain ⟨w1, hw1⟩ : ∃ w1, w1 = w.alloc (.cells #[.int .i64 a1, .int .i64 a2, .int .i64 a3] 25) := ⟨_, rfl⟩
  rw [← hw1] at hA q1 ⊢
  have hs1 : w1.heap.size = w.heap.size + 1 := by rw [hw1]; simp
  have hB := hA.alloc hA.size (.cells #[.int .i64 b1, .int .i64 b2, .int .i64 b3] 25)
  have q2 := RowAt.new w1 25 #[.int .i64 b1, .int .i64 b2, .int .i64 b3]
  replace q1 := q1.on ((Below.refl _ w1).alloc (Nat.le_refl _) (.cells #[.int .i64 b1, .int .i64 b2, .int .i64 b3] 25))
  generalize w1.alloc (.cells #[.int .i64 b1, .int .i64 b2, .int .i64 b3] 25) = w2 at *
  rw [hs1] at q2
  clear hw1 hA hs1
  obtain ⟨x0, x1, x2⟩ : w2.cell? ⟨w.heap.size, 0, none⟩ = some (.int .i64 a1) ∧ w2.cell? ⟨w.heap.size, 1, none⟩ = some (.int .i64 a2) ∧ w2.cell? ⟨w.heap.size, 2, none⟩ = some (.int .i64 a3) := ⟨q1.cell 0, q1.cell 1, q1.cell 2⟩
  obtain ⟨y0, y1, y2⟩ : w2.cell? ⟨w.heap.size + 1, 0, none⟩ = some (.int .i64 b1) ∧ w2.cell? ⟨w.heap.size + 1, 1, none⟩ = some (.int .i64 b2) ∧ w2.cell? ⟨w.heap.size + 1, 2, none⟩ = some (.int .i64 b3) := ⟨q2.cell 0, q2.cell 1, q2.cell 2⟩
  have qF := RowAt.new w2 63 #[.func (.func 35) #[] #[], .func (.func 36) #[] #[], .func (.func 37) #[] #[]]
  have hC := hB.alloc hB.size (.cells #[.func (.func 35) #[] #[], .func (.func 36) #[] #[], .func (.func 37) #[] #[]] 63)
  have cC := fun c => scompare_any a1 a2 a3 b1 b2 b3 w2.heap.size c _ _ qF
  clear q1 q2 hB
  go_wp2_with fail
  with_reducible refine (cC _).mono ?_
  rintro e w3 ⟨rfl, hb⟩
  go_wp2_with fail
  go_ret
  exact ⟨rfl, hC.trans (hb.mono hC.size)⟩
theorem sorder_at (a b : Mk) (w : World) :
    Calls Try.prog 30 #[.agg #[.int .i64 a.1, .int .i64 a.2.1, .int .i64 a.2.2], .agg #[.int .i64 b.1, .int .i64 b.2.1, .int .i64 b.2.2]] w fun e w' => e = .returned (.int .i64 (cmpM a b)) ∧ Below w.heap.size w w' := sorder_any a.1 a.2.1 a.2.2 b.1 b.2.1 b.2.2 w
end Go.Proofs.Ytcamhaeelkjigaa
