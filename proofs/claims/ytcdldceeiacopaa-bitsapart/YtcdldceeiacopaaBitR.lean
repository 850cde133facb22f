/- The statements' own set: how many bits of bytes are set; a region that draws its order, whose callees only lay new blocks. -/
import Derived.Test.YtcdldceeiacopaaBitU
namespace Go.Proofs.Ytcdldceeiacopaa
open Go.RowKit Go.Shelf

/-- A world later than w: all that lay lies as it lay. -/
structure Later (w : World) where
  W : World
  h : Below w.heap.size w W

instance (w : World) : Inhabited (Later w) := ⟨⟨w, Below.refl _ _⟩⟩

theorem wp_region_later {P : Program} {id : Nat} {Q : Exit → Act → World → Prop} {a : Act} {w : World} {l : List Oper} (hm : P.follows .mixedOrders = true) (hB : Region.lexB .any l.toArray = true)
    (h : wpQuiet P l.toArray (fun w' => ∃ p : Later w, w' = p.W) (fun a' => ∀ w', (∃ p : Later w, w' = p.W) → Q .normal a' w') l a) : (Code.region id l.toArray true).wp P Q a w :=
  wp_region_quiet (C := fun w' => ∃ p : Later w, w' = p.W) hm hB ⟨⟨w.drew, (Below.refl _ w).drew⟩, rfl⟩ (by simpa using h)
theorem later_of {P : Program} {f : FuncId} {args : Array Value} {w : World} {p : Later w} {v : Value}
    (h : Calls P f args p.W fun e w' => e = .returned v ∧ Below p.W.heap.size p.W w') : Calls P f args p.W fun e w'' => e = .returned v ∧ ∃ p : Later w, w'' = p.W :=
  h.mono fun _ w' ⟨he, hb⟩ => ⟨he, ⟨w', p.h.trans (hb.mono p.h.size)⟩, rfl⟩
theorem later_same {P : Program} {f : FuncId} {args : Array Value} {w : World} {p : Later w} {v : Value}
    (h : Calls P f args p.W fun e w' => e = .returned v ∧ p.W = w') : Calls P f args p.W fun e w'' => e = .returned v ∧ ∃ p : Later w, w'' = p.W :=
  h.mono fun _ w' ⟨he, hb⟩ => ⟨he, p, hb.symm⟩
theorem RowAt.later {w : World} {g : Nat} {t : TypeId} {l : List Value} (h : RowAt w g t l) (i : Nat) (x : Value) (hi : l[i]? = some x) : ∀ p : Later w, p.W.cell? ⟨g, i, none⟩ = some x := fun p => ((h.on p.h).cell i).trans hi

theorem bit_mod (b : UInt8) (r : Nat) : ((b.toNat : Int) / 2 ^ r).tmod 2 = if b.toNat.testBit r then 1 else 0 := by
  have e : ((b.toNat : Int) / 2 ^ r) = ((b.toNat / 2 ^ r : Nat) : Int) := by rw [Int.natCast_ediv, Int.natCast_pow]; rfl
  rw [e, Nat.testBit_eq_decide_div_mod_eq]
  generalize b.toNat / 2 ^ r = y
  rw [Int.tmod_eq_emod_of_nonneg (Int.natCast_nonneg y)]
  by_cases h : y % 2 = 1
  · simp [h]; omega
  · simp [h]; omega
theorem onsTo_len_step (l : List UInt8) (k : Nat) : ((onsTo l (k + 1)).length : Int) = (onsTo l k).length + (if bitAt l k then 1 else 0) := by
  cases h : bitAt l k
  · rw [onsTo_succ_off h]; simp
  · rw [onsTo_succ_on h]; simp

set_option maxHeartbeats 1000000 in
theorem set_any (s : ByteArray) (w : World) (hs : s.size ≤ 1000000) :
    Calls Try.prog 32 #[.string s] w fun e w' => e = .returned (.int .i64 ((onsOf s.data.toList).length : Int)) ∧ w = w' := by
  go_enter Try.func32, Try.ntmps32
  go_wp2_with fail
  go_loop [3, 4] (fun nv iv => ∃ i : Nat, i ≤ s.size ∧ iv = .int .i64 i ∧ nv = .int .i64 ((onsTo s.data.toList (8 * i)).length : Int)) (fun _ iv => s.size - (intOf iv).toNat)
  case atStart => exact ⟨0, Nat.zero_le _, rfl, rfl⟩
  case round =>
    obtain ⟨i, hi, rfl, rfl⟩ := hrel
    by_cases hlt : i < s.size
    · generalize hN : (onsTo s.data.toList (8 * i)).length = N at *
      have HN := Lib.hid hN
      have hNl : N ≤ 8 * i := by rw [← hN]; exact onsTo_length _ _
      clear hN
      go_wp2_with fail
      go_loop [3, 5] (fun nv kv => ∃ k M : Nat, k ≤ 8 ∧ kv = .int .i64 k ∧ nv = .int .i64 (M : Int) ∧ Hid ((onsTo s.data.toList (8 * i + k)).length = M) ∧ M ≤ 8 * i + k) (fun _ kv => 8 - (intOf kv).toNat)
      case atStart => exact ⟨0, N, by omega, rfl, rfl, HN.out, by omega⟩
      case round =>
        obtain ⟨k, M, hk, rfl, rfl, HM, hM⟩ := hrel
        by_cases hk8 : k < 8
        · have hbit : s[i].toNat.testBit k = bitAt s.data.toList (8 * i + k) := by
            unfold bitAt
            rw [byte_getD, show (8 * i + k) / 8 = i by omega, show (8 * i + k) % 8 = k by omega]
          have hmod := bit_mod s[i] k
          rw [hbit] at hmod
          have HS := Lib.hid (onsTo_len_step s.data.toList (8 * i + k))
          generalize bitAt s.data.toList (8 * i + k) = t at *
          clear hbit
          cases t
          · simp only [Bool.false_eq_true, if_false] at hmod
            go_wp2_with fail
            go_round
            case rel => exact ⟨k + 1, M, by omega, by go_num, by go_num, by have := HS.out; rw [HM.out] at this; simp only [Bool.false_eq_true, if_false] at this; show (onsTo s.data.toList (8 * i + k + 1)).length = M; omega, by omega⟩
            case measure => simp [intOf]; omega
          · simp only [if_true] at hmod
            go_wp2_with fail
            go_round
            case rel => exact ⟨k + 1, M + 1, by omega, by go_num, by go_num, by have := HS.out; rw [HM.out] at this; simp only [if_true] at this; show (onsTo s.data.toList (8 * i + k + 1)).length = M + 1; omega, by omega⟩
            case measure => simp [intOf]; omega
        · obtain rfl : k = 8 := by omega
          go_wp2_with fail
          go_round
          case rel => exact ⟨i + 1, by omega, by go_num, by rw [show 8 * (i + 1) = 8 * i + 8 by omega, HM.out]⟩
          case measure => simp [intOf]; omega
    · obtain rfl : i = s.size := by omega
      have HE : Hid ((onsOf s.data.toList).length = (onsTo s.data.toList (8 * s.size)).length) := by unfold onsOf; rw [bytes_length]; rfl
      go_wp2_with fail
      go_ret
      exact ⟨by rw [HE.out]; rfl, rfl⟩
end Go.Proofs.Ytcdldceeiacopaa
