/- Steps of the rows' proofs that the law over wire's table reads: what came in, opened. -/
import Derived.Test.YtieheieiolobaaaGreatDoorRows
import Derived.Test.YtieheieiolobaaaGreatDoorChuX
import Derived.Test.YtieheieiolobaaaGreatDoorTokL
import Derived.Test.YtieheieiolobaaaGreatDoorTokQ
import Derived.WalkKit
import Derived.ProofKit
import Derived.LaidMore
import Derived.Lib.LaidTab
import Derived.OpenShut
import Derived.ShutString
import Derived.ChangeOld
import Derived.ChangeSlices
import Derived.Below
import Derived.Stop.Joined
import Derived.Deep.Fields
import Derived.Lib.SmallJoins
namespace Go.Proofs.YtieheieiolobaaaGreatDoor
open Go.ChangeAt Go.ChangeShapes Go.Joins Go.RowKit Go.WideShapes

theorem own : ownKnob Tryz.prog.godebug = none := by kernel_rfl
theorem laidOut : laidOutB Tryz.prog = true := by kernel_rfl
abbrev laidT : List (String × DataW Unit) := [("mootbell/churn.table", Rows.laid_mootbell_churn_table)]
theorem gTable : Tryz.prog.globalNamed "mootbell/churn.table" = some 0 := by kernel_rfl
theorem tTable : (Tryz.prog.globals[0]?).map (·.type) = some 112 := by kernel_rfl
/-- The heap that the variables' own initialisers leave meets the condition. -/
theorem door_met (os : Os) (args : Array Value) : laidMetH Tryz.prog laidT ((World.doorLaid Tryz.prog 14 os).forCall (fun _ _ => 0) ⟨#[], args, []⟩).memory :=
  laidMetH_of_parts3 (fuel := 8) (laidMet_of_run' 8 (by kernel_rfl) (by kernel_rfl)) (by kernel_rfl) (by kernel_rfl)
/-- What the condition gives the walks: the table's three cells. -/
theorem tab_of_laid {W : World} (h : laidMetH Tryz.prog laidT W) : Tab W := by
  rw [MakeChecks.laidMetH_plain _ _ _ (by kernel_rfl)] at h
  have hT : Lib.TabIs Tryz.prog W "mootbell/churn.table" .u64 [14695981039346656037, 1099511628211, 14886173955864302971] :=
    Lib.tabIs_of_head gTable tTable Tryz.underlying112 Tryz.underlying22 (by kernel_rfl) (by kernel_rfl) h
  exact ⟨hT.cell gTable 0 (by decide), hT.cell gTable 1 (by decide), hT.cell gTable 2 (by decide)⟩
theorem one_cell {α : Type} {l : List α} {j : Nat} {c : α} (h : l[j]? = some c) : (l.drop j).take 1 = [c] := by
  obtain ⟨hj, rfl⟩ := List.getElem?_eq_some_iff.1 h
  rw [List.drop_eq_getElem_cons hj]; rfl
theorem array5 {α : Type} {cs : Array α} (h : cs.size = 5) : ∃ c0 c1 c2 c3 c4, cs = #[c0, c1, c2, c3, c4] := by
  obtain ⟨l⟩ := cs
  match l, h with
  | [c0, c1, c2, c3, c4], _ => exact ⟨c0, c1, c2, c3, c4, rfl⟩
/-- Data that came in by value, opened. -/
theorem data_of_trod {H : Type} {enc : TypeId × Value → H} {P : Program} {W : World} {r : Reach} {b0 : Nat} {t tu : TypeId} {fs : Array Field} {v : Value} {d : DataW H} {ps : List MemPlace}
    (ht : P.underlying t = some (.struct fs)) (hone : Go.Deep.oneCellFields P fs = true) (hn : fs.size = 5) (hC : P.cellsOf t = 5) (uu : P.underlying tu = some (.int .u64)) (htu : ∀ (i : Nat) (f : Field), i < 5 → fs[i]? = some f → f.type = tu)
    (hv : Value.okWide P W r b0 t v) (h : DataW.Trod enc P W 0 (fun _ => true) true t v d ps) :
    ∃ n0 n1 n2 n3 n4 : Nat, v = .agg #[.int .u64 (n0 : Int), .int .u64 (n1 : Int), .int .u64 (n2 : Int), .int .u64 (n3 : Int), .int .u64 (n4 : Int)] ∧ n0 < 18446744073709551616 ∧ n1 < 18446744073709551616 ∧ n2 < 18446744073709551616 ∧ n3 < 18446744073709551616 ∧ n4 < 18446744073709551616 := by
  obtain ⟨cs, rfl, hsz⟩ := okWide_struct ht hv
  obtain ⟨c0, c1, c2, c3, c4, rfl⟩ := array5 (hsz.trans hC)
  obtain ⟨fuel, hf⟩ := h
  obtain ⟨xs, m, -, -, -, hl, hr⟩ := DataW.trod_struct ht hf
  have one : ∀ (j : Nat) (c : Value), j < 5 → (#[c0, c1, c2, c3, c4] : Array Value).toList[j]? = some c → ∃ n : Nat, c = .int .u64 (n : Int) ∧ n < 18446744073709551616 := by
    intro j c hj hc
    have hfi : fs[j]? = some (fs[j]'(by omega)) := Array.getElem?_eq_getElem (by omega)
    obtain ⟨ho, hcl⟩ := Go.Deep.hone_of hone j _ hfi
    have h1 := hr j _ hfi
    have hy : xs[j]? = some (xs[j]'(by omega)) := List.getElem?_eq_getElem (by omega)
    rw [hy, ho, hcl, one_cell (show (Value.agg #[c0, c1, c2, c3, c4]).cells.toList[j]? = some c from hc), htu j _ hj hfi] at h1
    obtain ⟨n, e, -, w⟩ := DataW.trod_int uu h1
    simp at e
    have := bounds_u64 w
    exact ⟨n.toNat, by rw [e, Int.toNat_of_nonneg this.1], by omega⟩
  obtain ⟨n0, rfl, g0⟩ := one 0 c0 (by omega) rfl
  obtain ⟨n1, rfl, g1⟩ := one 1 c1 (by omega) rfl
  obtain ⟨n2, rfl, g2⟩ := one 2 c2 (by omega) rfl
  obtain ⟨n3, rfl, g3⟩ := one 3 c3 (by omega) rfl
  obtain ⟨n4, rfl, g4⟩ := one 4 c4 (by omega) rfl
  exact ⟨n0, n1, n2, n3, n4, rfl, g0, g1, g2, g3, g4⟩
theorem ints_of_trod {H : Type} {enc : TypeId × Value → H} {P : Program} {W : World} {t e : TypeId} {A : Option Addr} {len cap : Nat} {d : DataW H} {ps : List MemPlace}
    (ht : P.underlying t = some (.slice e)) (he : P.underlying e = some (.int .i64)) (hc : P.cellsOf e = 1)
    (h : DataW.Trod enc P W 0 (fun _ => true) true t (.slice A len cap) d ps) : ∃ xs : List Int, Ints W W.heap.size (.slice A len cap) xs ∧ (∀ x ∈ xs, -9223372036854775808 ≤ x ∧ x ≤ 9223372036854775807) ∧ xs.length ≤ maxLen := by
  obtain ⟨fuel, hf⟩ := h
  rcases open_ints ht he hc hf with ⟨hcs, _⟩ | ⟨x, l, c, zs, hcs, _, hl, hm, hz, _, hcell, hws⟩
  · simp [Value.cells] at hcs
    obtain ⟨rfl, rfl, rfl⟩ := hcs
    exact ⟨[], Elems.nil _ _ _, fun s hs => absurd hs (by simp), by simp⟩
  · simp [Value.cells] at hcs
    obtain ⟨rfl, rfl, rfl⟩ := hcs
    simp only [if_true] at hz
    have hlen : (zs.take len).length = len := by rw [List.length_take]; omega
    refine ⟨zs.take len, ⟨some x, cap, by rw [hlen], by omega, fun h0 => ⟨x, rfl, ?_, fun j s hs => ?_⟩⟩, fun s hs => bounds_i64 (hws s (List.mem_of_mem_take hs)), by omega⟩
    · have := World.block_lt_of_cell? W _ (hcell 0 (by omega))
      rw [add_block] at this
      exact this
    · have hj : j < len := by
        rcases Nat.lt_or_ge j (zs.take len).length with k | k
        · omega
        · rw [List.getElem?_eq_none k] at hs; cases hs
      rw [hcell j (by omega)]
      rw [List.getElem?_take_of_lt hj] at hs
      simp [List.getD, hs]
theorem array9 {α : Type} {cs : Array α} (h : cs.size = 9) : ∃ c0 c1 c2 c3 c4 c5 c6 c7 c8, cs = #[c0, c1, c2, c3, c4, c5, c6, c7, c8] := by
  obtain ⟨l⟩ := cs
  match l, h with
  | [c0, c1, c2, c3, c4, c5, c6, c7, c8], _ => exact ⟨c0, c1, c2, c3, c4, c5, c6, c7, c8, rfl⟩
section
variable {H : Type} {enc : TypeId × Value → H} {P : Program} {w : World} {base : Nat} {spare : Nat → Bool} {held : Bool}
theorem trod_five {t : TypeId} {f0 f1 f2 f3 f4 : Field} {fuel : Nat} {cs : List Value} {x : DataW H × List MemPlace} (ht : P.underlying t = some (.struct #[f0, f1, f2, f3, f4])) (h : DataW.trod enc P w base spare held fuel t cs = some x) :
    ∃ y0 y1 y2 y3 y4 n, x = (.agg [y0.1, y1.1, y2.1, y3.1, y4.1], y0.2 ++ (y1.2 ++ (y2.2 ++ (y3.2 ++ y4.2)))) ∧ cs.length = P.cellsOf t ∧ DataW.trod enc P w base spare held n f0.type ((cs.drop f0.offset).take (P.cellsOf f0.type)) = some y0 ∧
      DataW.trod enc P w base spare held n f1.type ((cs.drop f1.offset).take (P.cellsOf f1.type)) = some y1 ∧ DataW.trod enc P w base spare held n f2.type ((cs.drop f2.offset).take (P.cellsOf f2.type)) = some y2 ∧
      DataW.trod enc P w base spare held n f3.type ((cs.drop f3.offset).take (P.cellsOf f3.type)) = some y3 ∧ DataW.trod enc P w base spare held n f4.type ((cs.drop f4.offset).take (P.cellsOf f4.type)) = some y4 := by
  obtain ⟨xs, n, _, rfl, hl, hlen, hf⟩ := DataW.trod_struct ht h
  match xs, hlen with
  | [y0, y1, y2, y3, y4], _ => exact ⟨y0, y1, y2, y3, y4, n, by simp, hl, by simpa using hf 0 f0 rfl, by simpa using hf 1 f1 rfl, by simpa using hf 2 f2 rfl, by simpa using hf 3 f3 rfl, by simpa using hf 4 f4 rfl⟩
theorem trod_array5 {t e : TypeId} {fuel : Nat} {c0 c1 c2 c3 c4 : Value} {x : DataW H × List MemPlace} (ht : P.underlying t = some (.array 5 e)) (hce : P.cellsOf e = 1)
    (h : DataW.trod enc P w base spare held fuel t [c0, c1, c2, c3, c4] = some x) :
    ∃ y0 y1 y2 y3 y4 n, x = (.agg [y0.1, y1.1, y2.1, y3.1, y4.1], y0.2 ++ (y1.2 ++ (y2.2 ++ (y3.2 ++ y4.2)))) ∧ DataW.trod enc P w base spare held n e [c0] = some y0 ∧ DataW.trod enc P w base spare held n e [c1] = some y1 ∧ DataW.trod enc P w base spare held n e [c2] = some y2 ∧ DataW.trod enc P w base spare held n e [c3] = some y3 ∧ DataW.trod enc P w base spare held n e [c4] = some y4 := by
  cases fuel with
  | zero => simp [DataW.trod] at h
  | succ n =>
    unfold DataW.trod at h
    rw [ht] at h
    have r5 : List.range 5 = [0, 1, 2, 3, 4] := rfl
    simp [r5, hce] at h
    obtain ⟨_, h⟩ := h
    cases h0 : DataW.trod enc P w base spare held n e [c0] with
    | none => simp [h0] at h
    | some y0 =>
      cases h1 : DataW.trod enc P w base spare held n e [c1] with
      | none => simp [h0, h1] at h
      | some y1 =>
        cases h2 : DataW.trod enc P w base spare held n e [c2] with
        | none => simp [h0, h1, h2] at h
        | some y2 =>
          cases h3 : DataW.trod enc P w base spare held n e [c3] with
          | none => simp [h0, h1, h2, h3] at h
          | some y3 =>
            cases h4 : DataW.trod enc P w base spare held n e [c4] with
            | none => simp [h0, h1, h2, h3, h4] at h
            | some y4 =>
              simp [h0, h1, h2, h3, h4] at h
              exact ⟨y0, y1, y2, y3, y4, n, h.symm, h0, h1, h2, h3, h4⟩
end
theorem int_one {H : Type} {enc : TypeId × Value → H} {P : Program} {W : World} {t : TypeId} {c : Value} {y : DataW H × List MemPlace} {m : Nat} (ht : P.underlying t = some (.int .i64)) (h : DataW.trod enc P W 0 (fun _ => true) true m t [c] = some y) : ∃ n : Int, c = .int .i64 n ∧ I64 n := by
  obtain ⟨n, e, -, w⟩ := DataW.trod_int ht h
  simp at e
  exact ⟨n, e, bounds_i64 w⟩
theorem word_one {H : Type} {enc : TypeId × Value → H} {P : Program} {W : World} {t : TypeId} {c : Value} {y : DataW H × List MemPlace} {m : Nat} (ht : P.underlying t = some (.int .u64)) (h : DataW.trod enc P W 0 (fun _ => true) true m t [c] = some y) : ∃ n : Nat, c = .int .u64 (n : Int) ∧ n < 18446744073709551616 := by
  obtain ⟨n, e, -, w⟩ := DataW.trod_int ht h
  simp at e
  have := bounds_u64 w
  exact ⟨n.toNat, by rw [e, Int.toNat_of_nonneg this.1], by omega⟩
theorem ints_one {H : Type} {enc : TypeId × Value → H} {P : Program} {W : World} {t e : TypeId} {c : Value} {y : DataW H × List MemPlace} {m : Nat} (hs : P.underlying t = some (.slice e)) (he : P.underlying e = some (.int .i64)) (hc : P.cellsOf e = 1) (h : DataW.trod enc P W 0 (fun _ => true) true m t [c] = some y) :
    ∃ (xs : List Int) (A : Option Addr) (cap : Nat), c = .slice A xs.length cap ∧ Ints W W.heap.size (.slice A xs.length cap) xs ∧ (∀ x ∈ xs, I64 x) ∧ xs.length ≤ maxLen := by
  have key : ∀ (A : Option Addr) (len cap : Nat), c = .slice A len cap → ∃ (xs : List Int) (A : Option Addr) (cap : Nat), c = .slice A xs.length cap ∧ Ints W W.heap.size (.slice A xs.length cap) xs ∧ (∀ x ∈ xs, I64 x) ∧ xs.length ≤ maxLen := by
    intro A len cap hc1
    subst hc1
    obtain ⟨xs, hx, hb, hm⟩ := ints_of_trod (d := y.1) (ps := y.2) hs he hc ⟨m, h⟩
    obtain ⟨A', c', he', -⟩ := hx.form
    simp only [Value.slice.injEq] at he'
    obtain ⟨rfl, hlen, rfl⟩ := he'
    subst hlen
    exact ⟨xs, A, cap, rfl, hx, hb, hm⟩
  rcases open_ints hs he hc h with ⟨hcs, _⟩ | ⟨x, l, c', zs, hcs, _⟩
  · simp at hcs
    exact key none 0 0 hcs
  · simp at hcs
    exact key (some x) l c' hcs
theorem raw_of_trod {H : Type} {enc : TypeId × Value → H} {P : Program} {W : World} {r : Reach} {b0 : Nat} {t i e2 e3 : TypeId} {f0 f1 f2 f3 f4 : Field} {v : Value} {d : DataW H} {ps : List MemPlace}
    (ht : P.underlying t = some (.struct #[f0, f1, f2, f3, f4])) (hC : P.cellsOf t = 9) (o0 : f0.offset = 0) (o1 : f1.offset = 5) (o2 : f2.offset = 6) (o3 : f3.offset = 7) (o4 : f4.offset = 8)
    (k0 : P.cellsOf f0.type = 5) (k1 : P.cellsOf f1.type = 1) (k2 : P.cellsOf f2.type = 1) (k3 : P.cellsOf f3.type = 1) (k4 : P.cellsOf f4.type = 1)
    (ha : P.underlying f0.type = some (.array 5 i)) (ci : P.cellsOf i = 1) (ui : P.underlying i = some (.int .i64)) (u1 : P.underlying f1.type = some (.int .i64)) (u2 : P.underlying f2.type = some (.slice e2)) (ue2 : P.underlying e2 = some (.int .i64)) (ce2 : P.cellsOf e2 = 1)
    (u3 : P.underlying f3.type = some (.slice e3)) (ue3 : P.underlying e3 = some (.int .i64)) (ce3 : P.cellsOf e3 = 1) (u4 : P.underlying f4.type = some .bool)
    (hv : Value.okWide P W r b0 t v) (h : DataW.Trod enc P W 0 (fun _ => true) true t v d ps) :
    ∃ (x0 x1 x2 x3 x4 n : Int) (on pr : List Int) (A B : Option Addr) (c k : Nat) (b : Bool), v = .agg #[.int .i64 x0, .int .i64 x1, .int .i64 x2, .int .i64 x3, .int .i64 x4, .int .i64 n, .slice A on.length c, .slice B pr.length k, .bool b] ∧ I64 x0 ∧ I64 x1 ∧ I64 x2 ∧ I64 x3 ∧ I64 x4 ∧ I64 n ∧
      Ints W W.heap.size (.slice A on.length c) on ∧ (∀ x ∈ on, I64 x) ∧ on.length ≤ maxLen ∧ Ints W W.heap.size (.slice B pr.length k) pr ∧ (∀ x ∈ pr, I64 x) ∧ pr.length ≤ maxLen := by
  obtain ⟨cs, rfl, hsz⟩ := okWide_struct ht hv
  obtain ⟨c0, c1, c2, c3, c4, c5, c6, c7, c8, rfl⟩ := array9 (hsz.trans hC)
  obtain ⟨fuel, hf⟩ := h
  obtain ⟨y0, y1, y2, y3, y4, m, -, -, h0, h1, h2, h3, h4⟩ := trod_five ht hf
  have h0' : DataW.trod enc P W 0 (fun _ => true) true m f0.type [c0, c1, c2, c3, c4] = some y0 := by simpa [Value.cells, o0, k0] using h0
  have h1' : DataW.trod enc P W 0 (fun _ => true) true m f1.type [c5] = some y1 := by simpa [Value.cells, o1, k1] using h1
  have h2' : DataW.trod enc P W 0 (fun _ => true) true m f2.type [c6] = some y2 := by simpa [Value.cells, o2, k2] using h2
  have h3' : DataW.trod enc P W 0 (fun _ => true) true m f3.type [c7] = some y3 := by simpa [Value.cells, o3, k3] using h3
  have h4' : DataW.trod enc P W 0 (fun _ => true) true m f4.type [c8] = some y4 := by simpa [Value.cells, o4, k4] using h4
  obtain ⟨z0, z1, z2, z3, z4, m2, -, g0, g1, g2, g3, g4⟩ := trod_array5 ha ci h0'
  obtain ⟨x0, rfl, b0⟩ := int_one ui g0
  obtain ⟨x1, rfl, b1⟩ := int_one ui g1
  obtain ⟨x2, rfl, b2⟩ := int_one ui g2
  obtain ⟨x3, rfl, b3⟩ := int_one ui g3
  obtain ⟨x4, rfl, b4⟩ := int_one ui g4
  obtain ⟨n, rfl, bn⟩ := int_one u1 h1'
  obtain ⟨on, A, c, rfl, s2, t2, l2⟩ := ints_one u2 ue2 ce2 h2'
  obtain ⟨pr, B, k, rfl, s3, t3, l3⟩ := ints_one u3 ue3 ce3 h3'
  obtain ⟨b, eb, -⟩ := DataW.trod_bool u4 h4'
  simp at eb
  subst eb
  exact ⟨x0, x1, x2, x3, x4, n, on, pr, A, B, c, k, b, rfl, b0, b1, b2, b3, b4, bn, s2, t2, l2, s3, t3, l3⟩
theorem record_of_trod {H : Type} {enc : TypeId × Value → H} {P : Program} {W : World} {r : Reach} {b0 : Nat} {t : TypeId} {f0 f1 f2 : Field} {v : Value} {d : DataW H} {ps : List MemPlace}
    (ht : P.underlying t = some (.struct #[f0, f1, f2])) (hone : Go.Deep.oneCellFields P #[f0, f1, f2] = true) (hC : P.cellsOf t = 3) (u0 : P.underlying f0.type = some (.int .u64)) (u1 : P.underlying f1.type = some (.int .u64)) (u2 : P.underlying f2.type = some (.int .u64))
    (hv : Value.okWide P W r b0 t v) (h : DataW.Trod enc P W 0 (fun _ => true) true t v d ps) :
    ∃ a b c : Nat, v = .agg #[.int .u64 (a : Int), .int .u64 (b : Int), .int .u64 (c : Int)] ∧ a < 18446744073709551616 ∧ b < 18446744073709551616 ∧ c < 18446744073709551616 := by
  obtain ⟨v0, v1, v2, y0, y1, y2, m, rfl, -, -, h0, h1, h2⟩ := open_agg3 ht hone hC hv h
  obtain ⟨a, rfl, ha⟩ := word_one u0 h0
  obtain ⟨b, rfl, hb⟩ := word_one u1 h1
  obtain ⟨c, rfl, hc⟩ := word_one u2 h2
  exact ⟨a, b, c, rfl, ha, hb, hc⟩
end Go.Proofs.YtieheieiolobaaaGreatDoor
