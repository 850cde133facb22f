/- bits.alike, bits.shared and the iterator that it hands back. -/
import Derived.Test.YtpojpikndlcbkaaBitC
namespace Go.Proofs.Ytpojpikndlcbkaa
open Go.RowKit Go.Shelf
attribute [local go_sem] Oper.semAt_some

def alikeB (n : Int) (a : List Int) (m : Int) (b : List Int) : Bool := rightB n a && rightB m b && decide (n = m)

set_option maxHeartbeats 1000000 in
theorem alike_any (x y : Value) (n m : Int) (a b : List Int) (w : World) (hx : Bt w x n a) (hy : Bt w y m b) (h9 : a.length ≤ maxLen) (h9b : b.length ≤ maxLen) :
    Calls Try.prog 36 #[x, y] w fun e w' => e = .returned (.bool (alikeB n a m b)) ∧ Below w.heap.size w w' := by
  obtain ⟨A, c, rfl, hc, hv⟩ := hx.form
  obtain ⟨A', c', rfl, hc', hv'⟩ := hy.form
  have hx1 := (hx.alloc (.cells #[.int .i64 n, .slice A a.length c] 24)).alloc (.cells #[.int .i64 m, .slice A' b.length c'] 24)
  have hy1 := (hy.alloc (.cells #[.int .i64 n, .slice A a.length c] 24)).alloc (.cells #[.int .i64 m, .slice A' b.length c'] 24)
  have hb0 : Below w.heap.size w ((w.alloc (.cells #[.int .i64 n, .slice A a.length c] 24)).alloc (.cells #[.int .i64 m, .slice A' b.length c'] 24)) := ((Below.refl _ w).alloc (Nat.le_refl _) _).alloc (by simp) _
  have p0 : RowAt ((w.alloc (.cells #[.int .i64 n, .slice A a.length c] 24)).alloc (.cells #[.int .i64 m, .slice A' b.length c'] 24)) w.heap.size 24 [.int .i64 n, .slice A a.length c] := (RowAt.new w 24 #[.int .i64 n, .slice A a.length c]).alloc _
  have p1 : RowAt ((w.alloc (.cells #[.int .i64 n, .slice A a.length c] 24)).alloc (.cells #[.int .i64 m, .slice A' b.length c'] 24)) (w.heap.size + 1) 24 [.int .i64 m, .slice A' b.length c'] := by
    have := RowAt.new (w.alloc (.cells #[.int .i64 n, .slice A a.length c] 24)) 24 #[.int .i64 m, .slice A' b.length c']
    rw [World.size_alloc] at this
    exact this
  have HR := Right_any _ _ _ _ hx1 h9
  unfold alikeB
  cases hr : rightB n a
  · rw [hr] at HR
    go_enter Try.func36, Try.ntmps36
    go_wp2_with fail
    with_reducible refine HR.mono ?_
    rintro e w1 ⟨rfl, hb1⟩
    have hw1 := hb0.trans (hb1.mono hb0.size)
    clear HR hr
    go_wp2_with fail
    go_ret
    exact ⟨rfl, hw1⟩
  · rw [hr] at HR
    cases hr2 : rightB m b
    · go_enter Try.func36, Try.ntmps36
      go_wp2_with fail
      with_reducible refine HR.mono ?_
      rintro e w1 ⟨rfl, hb1⟩
      have hw1 := hb0.trans (hb1.mono hb0.size)
      have q1 := p1.below hb1 p1.lt
      have c10 := q1.cell 0
      have c11 := q1.cell 1
      simp only [List.getElem?_cons_zero, List.getElem?_cons_succ] at c10 c11
      have HR2 := Right_any _ _ _ _ (hy1.on hb1) h9b
      rw [hr2] at HR2
      clear HR hr hr2
      go_wp2_with fail
      with_reducible refine HR2.mono ?_
      rintro e w2 ⟨rfl, hb2⟩
      have hw2 := hw1.trans (hb2.mono hw1.size)
      clear HR2
      go_wp2_with fail
      go_ret
      exact ⟨rfl, hw2⟩
    · go_enter Try.func36, Try.ntmps36
      go_wp2_with fail
      with_reducible refine HR.mono ?_
      rintro e w1 ⟨rfl, hb1⟩
      have hw1 := hb0.trans (hb1.mono hb0.size)
      have q0 := p0.below hb1 p0.lt
      have q1 := p1.below hb1 p1.lt
      have c10 := q1.cell 0
      have c11 := q1.cell 1
      simp only [List.getElem?_cons_zero, List.getElem?_cons_succ] at c10 c11
      have HR2 := Right_any _ _ _ _ (hy1.on hb1) h9b
      rw [hr2] at HR2
      clear HR hr hr2
      go_wp2_with fail
      with_reducible refine HR2.mono ?_
      rintro e w2 ⟨rfl, hb2⟩
      have hw2 := hw1.trans (hb2.mono hw1.size)
      have r0 := q0.below hb2 q0.lt
      have r1 := q1.below hb2 q1.lt
      have d00 := r0.cell 0
      have d10 := r1.cell 0
      simp only [List.getElem?_cons_zero, List.getElem?_cons_succ] at d00 d10
      clear HR2
      go_wp2_with fail
      go_ret
      refine ⟨?_, hw2⟩
      show Ending.returned (Value.bool (n == m)) = _
      congr 2
end Go.Proofs.Ytpojpikndlcbkaa
