/- Layer 13, the program: where a mark stands: sort.Search and its closure. -/
import Derived.Test.YtcamhaeelkjigaaSenT
namespace Go.Proofs.Ytcamhaeelkjigaa
open Go.RowKit

set_option maxHeartbeats 1000000 in
theorem splace1_any (ba bx : Nat) (l : List Mk) (q : Mk) (A : Option Addr) (c i : Nat) (w : World) (hv : Mks w w.heap.size (.slice A l.length c) l) (hi : i < l.length) (h9 : l.length ≤ 1000000)
    (ha : w.cell? ⟨ba, 0, none⟩ = some (.slice A l.length c)) (hla : ba < w.heap.size) {t : TypeId} (hq : RowAt w bx t [.int .i64 q.1, .int .i64 q.2.1, .int .i64 q.2.2]) :
    Calls Try.prog 32 #[.int .i64 (i : Int), .pointer (some ⟨ba, 0, none⟩), .pointer (some ⟨bx, 0, none⟩)] w fun e w' => e = .returned (.bool (!aheadMB l[i] q)) ∧ Below w.heap.size w w' := by
  have g1 : ((i : Int) < (l.length : Int)) = True := eq_true (by omega)
  have g2 : (i < l.length) = True := eq_true hi
  obtain ⟨ad, rfl, hc1, hc2, hc3⟩ := hv.cells (Below.refl _ w) hi
  have hL : ∀ p : Later w, p.W.cell? ⟨ba, 0, none⟩ = some (.slice (some ad) l.length c) := fun p => (p.h.cell hla).trans ha
  have x1 := row_later hq 0 _ rfl
  have x2 := row_later hq 1 _ rfl
  have x3 := row_later hq 2 _ rfl
  have cA := fun W => sorder_at l[i] q W
  have HE := Lib.hid (show decide (0 ≤ cmpM l[i] q) = !aheadMB l[i] q from by
    rw [← decide_not, decide_eq_decide, ← cmpM_neg]; omega)
  generalize cmpM l[i] q = r at *
  clear hq ha
  go_enter Try.func32, Try.ntmps32
  go_upto_region 1 with (fail)
  refine wp_region_later (by kernel_rfl) (by kernel_rfl) ?_
  repeat (go_big_quiet_step (first | (go_at_call 30; exact later_of (cA _))))
  refine wpQuiet_nil ?_
  intro _ hw'
  obtain ⟨pq, rfl⟩ := hw'
  go_wp2_with fail
  go_ret
  exact ⟨by rw [← HE.out]; rfl, pq.h⟩

set_option maxHeartbeats 4000000 in
set_option maxRecDepth 100000 in
theorem ssearch_any (cb : Array Value) (n : Nat) (p : Nat → Bool) (w : World) (hn : n ≤ 1000000)
    (hf : ∀ (i : Nat) (W : World), i < n → Below w.heap.size w W → Calls Try.prog 32 (#[.int .i64 (i : Int)] ++ cb) W fun e w' => e = .returned (.bool (p i)) ∧ Below W.heap.size W w')
    (hmono : ∀ a b, a ≤ b → b < n → p a = true → p b = true) :
    Calls Try.prog 31 #[.int .i64 (n : Int), .func (.func 32) #[] cb] w fun e w' => ∃ k : Nat, e = .returned (.int .i64 (k : Int)) ∧ (k ≤ n ∧ (∀ i, i < k → p i = false) ∧ (∀ i, k ≤ i → i < n → p i = true)) ∧ Below w.heap.size w w' := by
  have HF := Lib.hid hf
  have M := Lib.hid hmono
  clear hf hmono
  go_enter Try.func31, Try.ntmps31
  go_wp2_with fail
  go_loopg [5, 6] n (fun kx s5 s6 wr => ∃ (lo hi : Nat), s5 = .int .i64 (lo : Int) ∧ s6 = .int .i64 (hi : Int) ∧ lo ≤ hi ∧ hi ≤ n ∧ hi - lo ≤ kx ∧ Below w.heap.size w wr ∧
    Aside ((∀ t, t < lo → p t = false) ∧ (∀ t, hi ≤ t → t < n → p t = true)))
  case atStart => exact ⟨0, n, rfl, rfl, Nat.zero_le _, Nat.le_refl _, by omega, Below.refl _ _, (⟨fun t ht => absurd ht (Nat.not_lt_zero _), fun t h1 h2 => by omega⟩ : (∀ t, t < 0 → p t = false) ∧ (∀ t, n ≤ t → t < n → p t = true))⟩
  case round =>
    obtain ⟨lo, hi, rfl, rfl, hlh, hin, hg, hb, I⟩ := hrel
    by_cases hlt : lo < hi
    · have hc := HF.out ((lo + hi) / 2) wr (by omega) hb
      rw [show (((lo + hi) / 2 : Nat) : Int) = ((lo : Int) + (hi : Int)) / 2 by omega] at hc
      cases hp : p ((lo + hi) / 2) <;> rw [hp] at hc
      · have HP : Aside (p ((lo + hi) / 2) = false) := hp
        clear hp
        go_upto_region 4 with (fail)
        go_wp2_with fail
        with_reducible refine hc.mono ?_
        rintro e w' ⟨rfl, hb2⟩
        clear hc
        go_wp2_with fail
        go_roundg (hi - ((lo + hi) / 2 + 1))
        case measure => omega
        case rel =>
          have I2 : Aside ((∀ t, t < (lo + hi) / 2 + 1 → p t = false) ∧ (∀ t, hi ≤ t → t < n → p t = true)) := ⟨fun t ht => (by
            cases h : p t with
            | false => rfl
            | true => have := M.out t ((lo + hi) / 2) (by omega) (by omega) h; rw [HP.out] at this; cases this), I.out.2⟩
          exact ⟨(lo + hi) / 2 + 1, hi, by rw [show ((lo : Int) + (hi : Int)) / 2 + 1 = (((lo + hi) / 2 + 1 : Nat) : Int) by omega], rfl, by omega, hin, Nat.le_refl _, hb.trans (hb2.mono hb.size), I2⟩
      · have HP : Aside (p ((lo + hi) / 2) = true) := hp
        clear hp
        go_upto_region 4 with (fail)
        go_wp2_with fail
        with_reducible refine hc.mono ?_
        rintro e w' ⟨rfl, hb2⟩
        clear hc
        go_wp2_with fail
        go_roundg ((lo + hi) / 2 - lo)
        case measure => omega
        case rel =>
          have I2 : Aside ((∀ t, t < lo → p t = false) ∧ (∀ t, (lo + hi) / 2 ≤ t → t < n → p t = true)) := ⟨I.out.1, fun t ht htn => M.out ((lo + hi) / 2) t ht htn HP.out⟩
          exact ⟨lo, (lo + hi) / 2, rfl, by rw [show ((lo : Int) + (hi : Int)) / 2 = (((lo + hi) / 2 : Nat) : Int) by omega], by omega, by omega, Nat.le_refl _, hb.trans (hb2.mono hb.size), I2⟩
    · obtain rfl : hi = lo := by omega
      go_wp2_with fail
      go_ret
      exact ⟨hi, rfl, ⟨hin, I.out⟩, hb⟩
end Go.Proofs.Ytcamhaeelkjigaa
