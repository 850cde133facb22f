/- bits.shared, and the iterator that it hands back. -/
import Derived.Test.YtpojpikndlcbkaaBitI
namespace Go.Proofs.Ytpojpikndlcbkaa
open Go.RowKit Go.Shelf
attribute [local go_sem] Oper.semAt_some

def sliceLen : Value → Nat | .slice _ n _ => n | _ => 0
theorem shared_in (F : Fence) (n : Nat) (hF : F.fn 37) (hro : F.round = none) (na nb : Int) (A A' : Option Addr) (la lb' ca cb : Nat) (w : World) :
    CallsIn F n Try.prog 37 #[.agg #[.int .i64 na, .slice A la ca], .agg #[.int .i64 nb, .slice A' lb' cb]] w fun e w' =>
      e = .returned (.func (.func 43) #[] #[.pointer (some ⟨w.heap.size + 1, 0, none⟩), .pointer (some ⟨w.heap.size, 0, none⟩)]) ∧
      w' = (w.alloc (.cells #[.int .i64 na, .slice A la ca] 24)).alloc (.cells #[.int .i64 nb, .slice A' lb' cb] 24) := by
  refine callsIn_of_wp Try.func37 rfl hF ?_ hro
  simp only [Try.ntmps37, List.size_toArray, List.length_cons, List.length_nil, Nat.reduceAdd, Nat.reduceSub, Array.replicate_succ, Array.replicate_zero, List.push_toArray, List.append_toArray, List.nil_append, List.cons_append]
  gi_wp2
  go_ret
  exact ⟨rfl, rfl⟩

/-- What is in both. -/
def bothOf (a b : List Int) : List Int := a.filter fun x => decide (x ∈ b)
theorem bothOf_step (a b : List Int) (k : Nat) (hk : k < a.length) : bothOf (a.take (k + 1)) b = if a[k] ∈ b then bothOf (a.take k) b ++ [a[k]] else bothOf (a.take k) b := by
  unfold bothOf
  rw [List.take_succ_eq_append_getElem hk, List.filter_append]
  by_cases h : a[k] ∈ b
  · simp [h]
  · simp [h]
theorem bothOf_prefix (a b : List Int) (k : Nat) : bothOf (a.take k) b <+: bothOf a b := by
  unfold bothOf
  conv => rhs; rw [← List.take_append_drop k a, List.filter_append]
  exact List.prefix_append _ _
theorem bothOf_length (a b : List Int) : (bothOf a b).length ≤ a.length := List.length_filter_le _ _

/-- Of a rising list in two parts, the first one's all below x: is x in it? -/
theorem mem_rest {b q r : List Int} {x : Int} (hb : b = q ++ r) (hr : b.Pairwise (· < ·)) (hq : ∀ y ∈ q, y < x) (hh : ∀ y, r.head? = some y → x ≤ y) : x ∈ b ↔ r.head? = some x := by
  subst hb
  rw [List.pairwise_append] at hr
  constructor
  · intro h
    rw [List.mem_append] at h
    rcases h with h | h
    · have := hq x h; omega
    · cases r with
      | nil => cases h
      | cons y r =>
        have h1 := hh y rfl
        rw [List.mem_cons] at h
        rcases h with rfl | h
        · rfl
        · have := (List.pairwise_cons.1 hr.2.1).1 x h; omega
  · intro h
    rw [List.mem_append]
    exact .inr (List.mem_of_mem_head? h)

set_option maxRecDepth 100000 in
set_option maxHeartbeats 2000000 in
theorem shared1_in (F : Fence) (n : Nat) (hF : F.fn 43) (hro : F.round = none) (hn : 1 ≤ n) (l Ba Bb : Nat) (K : Nat → Prop) (na nb : Int) (va vb : Value) (a b : List Int) (J Jx : List Int → World → Prop)
    (hY : ∀ pre x W, J pre W → pre.length < a.length → YieldAt F (n - 1) Try.prog l #[.int .i64 x] W fun e W' =>
      (e = .returned (.bool true) ∧ J (pre ++ [x]) W' ∧ Kept K W W') ∨ (e = .returned (.bool false) ∧ Jx (pre ++ [x]) W'))
    (W : World) (B : Nat) (hKa : K Ba) (hKb : K Bb) (ra : RowAt W Ba 24 [.int .i64 na, va]) (rb : RowAt W Bb 24 [.int .i64 nb, vb])
    (hva : Ints W B va a) (hvb : Ints W B vb b) (hKva : 0 < a.length → ∀ ad n c, va = .slice (some ad) n c → K ad.block) (hKvb : 0 < b.length → ∀ ad n c, vb = .slice (some ad) n c → K ad.block)
    (h9 : a.length ≤ maxLen) (h9b : b.length ≤ maxLen) (hra : a.Pairwise (· < ·)) (hrb : b.Pairwise (· < ·)) (h0 : J [] W) :
    CallsIn F n Try.prog 43 #[.func (.yield l) #[] #[], .pointer (some ⟨Bb, 0, none⟩), .pointer (some ⟨Ba, 0, none⟩)] W fun e W' => (∃ v, e = .returned v) ∧
      ((∃ ys, ys = bothOf a b ∧ J ys W') ∨ (∃ pre, pre <+: bothOf a b ∧ Jx pre W')) := by
  obtain ⟨Aa, ca, rfl, hca⟩ := hva.form
  obtain ⟨Ab, cb, rfl, hcb⟩ := hvb.form
  have h9' : a.length ≤ 9223372036854775807 := h9
  have h9b' : b.length ≤ 9223372036854775807 := h9b
  have c1 := rb.cell 1
  have c2 := ra.cell 1
  simp only [List.getElem?_cons_zero, List.getElem?_cons_succ] at c1 c2
  refine callsIn_of_wp Try.func43 rfl hF ?_ hro
  simp only [Try.ntmps43, List.size_toArray, List.length_cons, List.length_nil, Nat.reduceAdd, Nat.reduceSub, Array.replicate_succ, Array.replicate_zero, List.push_toArray, List.append_toArray, List.nil_append, List.cons_append]
  gi_wp2
  gi_loopw [4, 12] (fun rv i wr => ∃ (k : Nat) (q r : List Int), k ≤ a.length ∧ i = .int .i64 k ∧ Hid (b = q ++ r ∧ ∀ y ∈ q, ∀ x ∈ a.drop k, y < x) ∧ (Ints wr B rv r ∧ (0 < r.length → ∀ ad n c, rv = .slice (some ad) n c → K ad.block)) ∧ r.length ≤ b.length ∧ J (bothOf (a.take k) b) wr ∧ Kept K W wr) (fun _ i _ => a.length - (intOf i).toNat)
  case atStart => exact ⟨0, [], b, Nat.zero_le _, rfl, ⟨rfl, by simp⟩, ⟨hvb, hKvb⟩, Nat.le_refl _, h0, Kept.refl _ _⟩
  case round =>
    obtain ⟨k, q, r, hk, rfl, HB, ⟨hr, hKr⟩, hrl, hJ, hkept⟩ := hrel
    by_cases hlt : k < a.length
    · obtain ⟨ad, rfl, hbl, hcell⟩ := (hva.kept hkept hKva).at_ hlt
      have HS := Lib.hid (bothOf_step a b k hlt)
      have HD := Lib.hid (show a.drop k = a[k] :: a.drop (k + 1) from List.drop_eq_getElem_cons hlt)
      have HA := Lib.hid (fun x (hx : x ∈ a.drop (k + 1)) => (List.pairwise_cons.1 (by rw [← List.drop_eq_getElem_cons hlt]; exact List.Pairwise.drop hra)).1 x hx : ∀ x ∈ a.drop (k + 1), a[k] < x)
      generalize hy : a[k] = y at *
      clear hy
      obtain ⟨wo, hwo⟩ : ∃ wo, wo = wr := ⟨_, rfl⟩
      subst hwo
      gi_wp2
      gi_loopw [4] (fun rv wi => ∃ (q r : List Int), wi = wo ∧ Hid (b = q ++ r ∧ ∀ y' ∈ q, ∀ x ∈ a.drop k, y' < x) ∧ (Ints wo B rv r ∧ (0 < r.length → ∀ ad n c, rv = .slice (some ad) n c → K ad.block)) ∧ r.length ≤ b.length) (fun rv _ => sliceLen rv)
      case atStart => exact ⟨q, r, rfl, HB, ⟨hr, hKr⟩, hrl⟩
      case round =>
        clear HB hr hKr hrl
        obtain ⟨q, r, rfl, HB, ⟨hr, hKr⟩, hrl⟩ := hrel
        obtain ⟨Ar, cr, rfl, hcr⟩ := hr.form
        cases r with
        | nil =>
          have hmem : ¬ y ∈ b := by
            intro h
            rw [HB.out.1, List.append_nil] at h
            have := HB.out.2 y h y (by rw [HD.out]; simp)
            omega
          have HM := Lib.hid hmem
          clear hmem
          gi_wp2
          refine ⟨fun _ h => (by cases h), ?_⟩
          gi_wp2
          go_roundw
          case rel =>
            refine ⟨k + 1, q, [], by omega, by go_num, ⟨HB.out.1, fun y' hy' x hx => HB.out.2 y' hy' x (by rw [HD.out]; simp [hx])⟩, ⟨hr, hKr⟩, hrl, ?_, hkept⟩
            rw [HS.out, if_neg HM.out]; exact hJ
          case measure => simp [intOf]; omega
        | cons z r =>
          obtain ⟨ad2, rfl, hbl2, hz0⟩ := hr.at_ (k := 0) (by simp)
          have hz : wr.cell? ad2 = some (.int .i64 z) := hz0
          have hrest := hr.rest_if (by simp)
          have hKad : K ad2.block := hKr (by simp) ad2 _ _ rfl
          simp only [List.length_cons, List.drop_succ_cons, List.drop_zero, Nat.add_sub_cancel] at hrest hcr hrl
          clear hz0
          by_cases hzy : z < y
          · gi_wp2
            go_roundw
            case rel =>
              refine ⟨q ++ [z], r, trivial, ⟨by rw [HB.out.1]; simp, fun y' hy' x hx => ?_⟩, ⟨hrest, fun _ ad3 n3 c3 e => ?_⟩, by omega⟩
              · simp only [List.mem_append, List.mem_singleton] at hy'
                rcases hy' with hy' | rfl
                · exact HB.out.2 y' hy' x hx
                · rw [HD.out, List.mem_cons] at hx
                  rcases hx with rfl | hx
                  · exact hzy
                  · have := HA.out x hx; omega
              · injection e with e1 _ _
                by_cases hc1 : cr = 1
                · rw [if_pos hc1] at e1
                  injection e1 with e1
                  subst e1
                  exact hKad
                · rw [if_neg hc1] at e1
                  injection e1 with e1
                  subst e1
                  exact hKad
            case measure => simp [sliceLen]
          · have hmem : y ∈ b ↔ z = y := by
              have := mem_rest (x := y) HB.out.1 hrb (fun y' hy' => HB.out.2 y' hy' y (by rw [HD.out]; simp)) (fun y' hy' => by simp at hy'; omega)
              rw [this]; simp
            have HM := Lib.hid hmem
            clear hmem
            by_cases hzy2 : z = y
            · subst hzy2
              obtain ⟨fn, tmps, assign, body, hy, hR⟩ := hY (bothOf (a.take k) b) z wr hJ (by have := bothOf_length (a.take k) b; rw [List.length_take] at this; omega)
              have HHR := Lib.hid hr
              gi_wp2
              refine hR.mono ?_
              rintro e W3 (⟨rfl, hJ3, hk3⟩ | ⟨rfl, hJx3⟩)
              · gi_wp2
                go_roundw
                case rel =>
                  refine ⟨k + 1, q, z :: r, by omega, by go_num, ⟨HB.out.1, fun y' hy' x hx => HB.out.2 y' hy' x (by rw [HD.out]; simp [hx])⟩, ⟨HHR.out.kept hk3 hKr, hKr⟩, by simp; omega, ?_, hkept.trans hk3⟩
                  rw [HS.out, if_pos (HM.out.2 (by trivial))]; exact hJ3
                case measure => simp [intOf]; omega
              · gi_wp2
                refine bodyPost_ret (results_none rfl _ _ _) rfl ?_
                refine ⟨⟨_, rfl⟩, .inr ⟨_, ?_, hJx3⟩⟩
                have := bothOf_prefix a b (k + 1)
                rw [HS.out, if_pos (HM.out.2 (by trivial))] at this
                exact this
            · have hb2 : (z == y) = false := by simpa using hzy2
              have hzy3 : ¬ y ∈ b := fun h => hzy2 (HM.out.1 h)
              have HM2 := Lib.hid hzy3
              clear hzy2 hzy3 HM
              gi_wp2
              refine ⟨fun _ h => (by cases h), ?_⟩
              gi_wp2
              go_roundw
              case rel =>
                refine ⟨k + 1, q, z :: r, by omega, by go_num, ⟨HB.out.1, fun y' hy' x hx => HB.out.2 y' hy' x (by rw [HD.out]; simp [hx])⟩, ⟨hr, hKr⟩, by simp; omega, ?_, hkept⟩
                rw [HS.out, if_neg HM2.out]; exact hJ
              case measure => simp [intOf]; omega
    · obtain rfl : k = a.length := by omega
      rw [List.take_length] at hJ
      gi_wp2
      go_end0
      exact ⟨⟨_, rfl⟩, .inl ⟨_, rfl, hJ⟩⟩

theorem shared_stops (F : Fence) (n : Nat) (hF : F.fn 43) (hro : F.round = none) (hn : 1 ≤ n) (Ba Bb : Nat) (K : Nat → Prop) (na nb : Int) (va vb : Value) (a b : List Int) (w : World) (hKs : ∀ k, K k → k < w.heap.size)
    (hKa : K Ba) (hKb : K Bb) (ra : RowAt w Ba 24 [.int .i64 na, va]) (rb : RowAt w Bb 24 [.int .i64 nb, vb])
    (hva : Ints w w.heap.size va a) (hvb : Ints w w.heap.size vb b) (hKva : 0 < a.length → ∀ ad n c, va = .slice (some ad) n c → K ad.block) (hKvb : 0 < b.length → ∀ ad n c, vb = .slice (some ad) n c → K ad.block)
    (h9 : a.length ≤ maxLen) (h9b : b.length ≤ maxLen) (hra : a.Pairwise (· < ·)) (hrb : b.Pairwise (· < ·)) :
    SeqStopsK F n Try.prog 43 #[.pointer (some ⟨Bb, 0, none⟩), .pointer (some ⟨Ba, 0, none⟩)] (fun x : Int => #[Value.int .i64 x]) (Kept K) (fun ys => ys = bothOf a b) (fun pre => pre <+: bothOf a b) a.length w := fun l J Jx W hW _ _ hY h0 =>
  shared1_in F n hF hro hn l Ba Bb K na nb va vb a b J Jx hY W w.heap.size hKa hKb (ra.below hW (hKs _ hKa)) (rb.below hW (hKs _ hKb)) (hva.below hW (Nat.le_refl _)) (hvb.below hW (Nat.le_refl _)) hKva hKvb h9 h9b hra hrb h0
end Go.Proofs.Ytpojpikndlcbkaa
