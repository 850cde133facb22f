/- The statements' own Token: of raw numbers, a token that is right. -/
import Derived.Test.YtjipibpcnheniaaDoorTokL
import Derived.Test.YtjipibpcnheniaaDoorAppA
import Derived.Test.YtjipibpcnheniaaDoorRegE
import Derived.Deep.RegionHeld3
import Derived.Deep.AppendLies
import Derived.Deep.CutBlock
import Derived.IntWalk
namespace Go.Proofs.YtjipibpcnheniaaDoor
open Go.RowKit

/-- A raw number's pair. -/
def rawP (r : Int) : Pr := (pickN r 12, pickN (r.tdiv 16) 3)
def tokTo (raw : List Int) (k : Nat) : List Pr := (raw.take k).foldl (fun l r => ins (rawP r) l) []
/-- The pairs of raw numbers: those of at most thirty of them. -/
def tokL (raw : List Int) : List Pr := tokTo raw 30
theorem tokTo_snoc (raw : List Int) (k : Nat) (h : k < raw.length) : tokTo raw (k + 1) = ins (rawP raw[k]) (tokTo raw k) := by
  unfold tokTo
  rw [List.take_succ_eq_append_getElem h, List.foldl_append]; rfl
theorem fold_srt : ∀ (l : List Int) (a : List Pr), srt a = true → srt (l.foldl (fun l r => ins (rawP r) l) a) = true
  | [], _, h => h
  | _ :: l, _, h => fold_srt l _ (ins_srt h)
theorem tokTo_srt (raw : List Int) (k : Nat) : srt (tokTo raw k) = true := fold_srt _ _ rfl
theorem fold_length : ∀ (l : List Int) (a : List Pr), (l.foldl (fun l r => ins (rawP r) l) a).length = a.length + l.length
  | [], a => by simp
  | _ :: l, _ => by rw [List.foldl_cons, fold_length l, ins_length, List.length_cons]; omega
theorem tokTo_length (raw : List Int) (k : Nat) : (tokTo raw k).length = min k raw.length := by
  unfold tokTo; rw [fold_length, List.length_take]; simp
theorem tokL_length (raw : List Int) : (tokL raw).length ≤ 30 := by unfold tokL; rw [tokTo_length]; omega
def Small (p : Pr) : Prop := p.1 < 12 ∧ p.2 < 3
theorem fold_small : ∀ (l : List Int) (a : List Pr), (∀ p ∈ a, Small p) → ∀ p ∈ l.foldl (fun l r => ins (rawP r) l) a, Small p
  | [], _, h => h
  | r :: l, a, h => by
    refine fold_small l _ fun p hp => ?_
    rcases List.mem_cons.1 ((ins_perm _ _).mem_iff.1 hp) with rfl | hp
    · have h1 := pickN_lt r 12 (by decide)
      have h2 := pickN_lt (r.tdiv 16) 3 (by decide)
      exact ⟨by show pickN r 12 < 12; omega, by show pickN (r.tdiv 16) 3 < 3; omega⟩
    · exact h p hp
theorem tokL_small (raw : List Int) : ∀ p ∈ tokL raw, Small p := fold_small _ _ (by simp)
theorem tokL_srt (raw : List Int) : srt (tokL raw) = true := tokTo_srt raw 30
theorem tokL_fit (raw : List Int) : Fit (tokL raw) := fun p hp => by
  have := tokL_small raw p hp
  exact ⟨by have := this.1; omega, by have := this.2; omega⟩
theorem tokL_right (raw : List Int) : rightT (tokL raw) = true := by
  unfold rightT
  rw [tokL_srt, Bool.true_and, decide_eq_true_iff]
  have := tokL_length raw
  omega

theorem wrap_u64 {n : Nat} (h : n < 18446744073709551616) : IntKind.u64.wrap (n : Int) = (n : Int) := by
  rw [IntWalk.u64_in _ (by omega)]
theorem tdiv16 {a : Int} (h : I64 a) : I64 (a.tdiv 16) := by
  unfold I64 at *
  rcases Int.le_total 0 a with k | k
  · rw [Int.tdiv_eq_ediv_of_nonneg k]; omega
  · have e : a.tdiv 16 = -((-a) / 16) := by rw [← Int.tdiv_eq_ediv_of_nonneg (by omega), Int.neg_tdiv, Int.neg_neg]
    rw [e]; omega

theorem news_pair {W : World} {g : Nat} {t : TypeId} {x y : Value} (r : RowAt W g t [x, y]) : ∀ j u, [x, y][j]? = some u → W.cell? ((⟨g, 0, none⟩ : Addr).add j) = some u := by
  intro j u hj
  rw [addr0, r.cell]; exact hj
theorem news_first {wy W : World} {O : Option Addr} {oc n : Nat} {l : List Pr} (hP : Prs wy wy.heap.size (.slice O l.length oc) l) (hb : Below wy.heap.size wy W) (hn : n ≤ l.length) :
    0 < n → ∃ ad, O = some ad ∧ ∀ j u, ((l.take n).flatMap pairCells)[j]? = some u → W.cell? (ad.add j) = some u := by
  intro h0
  have h1 := (hP.below hb (Nat.le_refl _)).first n hn
  obtain ⟨ad, rfl, _⟩ := h1.at_ (k := 0) (by rw [List.length_take]; omega)
  refine ⟨ad, rfl, fun j u hj => ?_⟩
  have := pairs_from h1 0 j u (by simpa using hj)
  rwa [add_add, Nat.zero_mul, Nat.zero_add] at this
theorem news_rest {wy W : World} {od : Addr} {oc n : Nat} {l : List Pr} (hP : Prs wy wy.heap.size (.slice (some od) l.length oc) l) (hb : Below wy.heap.size wy W) :
    0 < l.length - n → ∃ ad, some (od.add (n * 2)) = some ad ∧ ∀ j u, ((l.drop n).flatMap pairCells)[j]? = some u → W.cell? (ad.add j) = some u :=
  fun _ => ⟨_, rfl, pairs_from (hP.below hb (Nat.le_refl _)) n⟩

theorem tok_end {wa wy w3 : World} {G n m cap : Nat} {S : Option Addr} {l : List Pr} {p1 p2 : Nat} {f : Bool} {o : Value} (hm : n + m = l.length)
    (own : w3.ownsRow wy.heap.size 53 2 (.slice S (n + 1 + m) cap) (n + 1 + m) (((l.take n).flatMap pairCells ++ [.int .u64 (p1 : Int), .int .u64 (p2 : Int)]) ++ (l.drop n).flatMap pairCells)) (hB : Below wy.heap.size wy w3)
    (q : RowAt wy G 28 [.bool f, o]) (hG : G < wy.heap.size) (haz : wa.heap.size ≤ wy.heap.size) (hbw : Below G wa wy) (hin : l.take n ++ (p1, p2) :: l.drop n = ins (p1, p2) l) :
    RowAt (w3.setCell ⟨G, 1, none⟩ (.slice S (n + 1 + m) cap)) G 28 [.bool f, .slice S (n + 1 + m) cap] ∧ Prs (w3.setCell ⟨G, 1, none⟩ (.slice S (n + 1 + m) cap)) (w3.setCell ⟨G, 1, none⟩ (.slice S (n + 1 + m) cap)).heap.size (.slice S (n + 1 + m) cap) (ins (p1, p2) l) ∧ FromOn wa.heap.size (.slice S (n + 1 + m) cap) ∧ Below G wa (w3.setCell ⟨G, 1, none⟩ (.slice S (n + 1 + m) cap)) := by
  have e : n + 1 + m = (ins (p1, p2) l).length := by rw [ins_length]; omega
  have R : w3.ownsRow wy.heap.size 53 2 (.slice S (n + 1 + m) cap) (ins (p1, p2) l).length ((ins (p1, p2) l).flatMap pairCells) := by
    rw [← e, ← hin, List.flatMap_append, List.flatMap_cons]
    rw [List.append_assoc] at own
    exact own
  have hne : (Value.slice S (n + 1 + m) cap).ownBlock ≠ some G := fun h => by have := (own.lt G h).1; omega
  have R2 := ownsRow_setCell_other R (a := ⟨G, 1, none⟩) hne (.slice S (n + 1 + m) cap)
  exact ⟨(q.on hB).set 1 _, Prs.own R2, (from_own own).less haz, (hbw.trans (hB.mono (Nat.le_of_lt hG))).setCell (p := ⟨G, 1, none⟩) (Nat.le_refl _) _⟩

theorem Newer.of {lo : Nat} {h v : Value} (hf : FromOn lo v) : Newer lo (.agg #[h, v]) := fun h' ad n c he => by
  injection he with he
  have e2 : #[h, v].toList = #[h', Value.slice (Option.some ad) n c].toList := by rw [he]
  simp at e2
  obtain ⟨_, rfl⟩ := e2
  exact hf _ _ _ rfl
set_option maxHeartbeats 2000000 in
set_option maxRecDepth 100000 in
theorem Token_new (v : Value) (raw : List Int) (f : Bool) (w : World) (hv : Ints w w.heap.size v raw) (hI : ∀ r ∈ raw, I64 r) (h9 : raw.length ≤ maxLen) :
    Calls Tryd.prog 21 #[v, .bool f] w fun e w' => ∃ x, e = .returned x ∧ Tk w' x f (tokL raw) ∧ Below w.heap.size w w' ∧ Newer w.heap.size x := by
  obtain ⟨A, c, rfl, hc⟩ := hv.form
  have h9' : raw.length ≤ 9223372036854775807 := h9
  obtain ⟨i0, hi, hz0, hz1, hz2⟩ := info_parts info_pair
  obtain ⟨wa, hwa⟩ : ∃ wa, wa = (w.alloc (.cells #[.bool false, .slice none 0 0] 28)).alloc (.cells #[.bool f, .slice none 0 0] 28) := ⟨_, rfl⟩
  have hb0 : Below w.heap.size w wa := by rw [hwa]; exact (boxed _ _ _).alloc (by simp) _
  have r0 : RowAt wa w.heap.size 28 [.bool false, .slice none 0 0] := by rw [hwa]; exact (RowAt.new w 28 #[.bool false, .slice none 0 0]).alloc _
  have r1 : RowAt wa (w.heap.size + 1) 28 [.bool f, .slice none 0 0] := by
    have := RowAt.new (w.alloc (.cells #[.bool false, .slice none 0 0] 28)) 28 #[.bool f, .slice none 0 0]
    rw [World.size_alloc] at this
    rw [hwa]; exact this
  have hsz : wa.heap.size = w.heap.size + 1 + 1 := by rw [hwa, World.size_alloc, World.size_alloc]
  have HSZ := Lib.hid hsz
  have HW := Lib.hid hwa
  clear hwa hsz
  go_enter Tryd.func21, Tryd.ntmps21
  go_wp2_with fail
  try rw [← HW.out]
  go_loopw [6] (fun i wr => ∃ (k : Nat) (o : Value), k ≤ raw.length ∧ k ≤ 30 ∧ i = .int .i64 k ∧ RowAt wr (w.heap.size + 1) 28 [.bool f, o] ∧ Prs wr wr.heap.size o (tokTo raw k) ∧ FromOn wa.heap.size o ∧ Below (w.heap.size + 1) wa wr) (fun i _ => 30 - (intOf i).toNat)
  case atStart => exact ⟨0, _, Nat.zero_le _, Nat.zero_le _, rfl, r1, Prs.nil _ _, (fun ad n c e => by cases e), Below.refl _ _⟩
  case round =>
    obtain ⟨k, o, hk, hk30, rfl, q, hP, hF, hb⟩ := hrel
    have hbw := hb0.trans (hb.mono (Nat.le_succ _))
    have hz := hb.size
    have hzq := q.lt
    by_cases hlt : k < raw.length
    · by_cases hlt30 : k < 30
      · have hi1 : ((k : Int) < (raw.length : Int)) = True := eq_true (by omega)
        have hi1n : (k < raw.length) = True := eq_true hlt
        have hi6 : ((k : Int) < 30) = True := eq_true (by omega)
        have hi6n : (k < 30) = True := eq_true hlt30
        obtain ⟨ad, rfl, _, hcell⟩ := (hv.below hbw (Nat.le_refl _)).at_ hlt
        have hrI := hI _ (List.getElem_mem hlt)
        have hrI2 : I64 ((raw[k]).tdiv 16) := tdiv16 hrI
        have cP1 := fun W => pick5_any raw[k] 12 W hrI (by decide) (by decide)
        have cP2 := fun W => pick5_any ((raw[k]).tdiv 16) 3 W hrI2 (by decide) (by decide)
        have HTS := Lib.hid (tokTo_snoc raw k hlt)
        have HSR := Lib.hid (tokTo_srt raw k)
        have hlen := tokTo_length raw k
        have HLE := Lib.hid (show (tokTo raw k).length = k by omega)
        have hpb1 := pickN_lt raw[k] 12 (by decide)
        have hpb2 := pickN_lt ((raw[k]).tdiv 16) 3 (by decide)
        clear hlen
        go_upto_region 5 with (fail)
        unfold I64 at hrI hrI2
        generalize hpp : rawP raw[k] = p at *
        have e12 : p.1 = pickN raw[k] 12 := by rw [← hpp]; rfl
        have e3 : p.2 = pickN ((raw[k]).tdiv 16) 3 := by rw [← hpp]; rfl
        have HPP := Lib.hid hpp
        rw [← e12] at cP1 hpb1
        rw [← e3] at cP2 hpb2
        generalize raw[k] = r at *
        clear hpp e12 e3
        obtain ⟨p1, p2⟩ := p
        simp only at cP1 cP2 hpb1 hpb2
        have hwr : IntKind.i64.wrap (r.tdiv 16) = r.tdiv 16 := IntWalk.i64_in _ (by omega)
        have hwp1 : IntKind.u64.wrap (p1 : Int) = (p1 : Int) := wrap_u64 (by omega)
        have hwp2 : IntKind.u64.wrap (p2 : Int) = (p2 : Int) := wrap_u64 (by omega)
        go_cut [7] from 21 to 34 (fun pv wx => pv = .pointer (some ⟨wr.heap.size, 0, none⟩) ∧ RowAt wx wr.heap.size 53 [.int .u64 (p1 : Int), .int .u64 (p2 : Int)] ∧ Below wr.heap.size wr wx)
        case first =>
          go_region_held3 (fun w' => w'.cell? (ad.add k) = some (.int .i64 r)) (first | go_keep) (first | ((with_reducible refine (cP1 _).mono ?_); rintro e w1 ⟨rfl, rfl⟩) | ((with_reducible refine (cP2 _).mono ?_); rintro e w1 ⟨rfl, rfl⟩))
          all_goals
            go_simp
            go_wp2_with fail
            go_meet
            exact ⟨rfl, RowAt.new wr 53 #[.int .u64 (p1 : Int), .int .u64 (p2 : Int)], ((Below.refl _ wr).alloc (Nat.le_refl _) (.cells #[.int .u64 (p1 : Int), .int .u64 (p2 : Int)] 53)).drew⟩
        case rest =>
          clear hcell cP1 cP2 hwr hwp1 hwp2
          obtain ⟨wx, hwx⟩ : ∃ wx, wx = wc := ⟨_, rfl⟩
          subst hwx
          obtain ⟨rfl, px, hbx⟩ := hcut
          obtain ⟨wo, hwo⟩ : ∃ wo, wo = wr := ⟨_, rfl⟩
          subst hwo
          have qx := q.on hbx
          have hPx := hP.on hbx
          have hbwx := hb.trans (hbx.mono (by omega))
          have hzx := hbx.size
          generalize hl : tokTo raw k = l at *
          have hl30 : l.length ≤ 30 := by have := HLE.out; omega
          have HLL := Lib.hid hl
          clear hl q hP hb hpb1 hpb2
          obtain ⟨O, oc, rfl, hoc⟩ := hPx.form
          obtain ⟨x0, x1⟩ := qx.two
          go_wp2_with fail
          go_loopw [8] (fun a wr2 => ∃ n : Nat, n ≤ l.length ∧ a = .int .i64 n ∧ (∀ i (hi : i < l.length), n ≤ i → aheadB (p1, p2) l[i] = true) ∧ Below wx.heap.size wx wr2) (fun a _ => (intOf a).toNat)
          case atStart => exact ⟨l.length, Nat.le_refl _, rfl, fun i hi h => by omega, Below.refl _ _⟩
          case round =>
            obtain ⟨n, hn, rfl, hab, hbi⟩ := hrel
            obtain ⟨wi, hwi⟩ : ∃ wi, wi = wr := ⟨_, rfl⟩
            subst hwi
            have qi := qx.on hbi
            have pi := px.on hbi
            have hPi := hPx.on hbi
            have hbwi := hbwx.trans (hbi.mono (by have := qx.lt; omega))
            have hzi := hbi.size
            obtain ⟨d0, d1⟩ := qi.laters
            obtain ⟨e0, e1⟩ := pi.laters
            clear x0 x1
            by_cases hex : n = 0 ∨ ∃ h : n - 1 < l.length, aheadB (p1, p2) l[n - 1] = false
            · have HIN := Lib.hid (show l.take n ++ (p1, p2) :: l.drop n = ins (p1, p2) l from ins_at HSR.out n hn hab fun i hi hin => by
                rcases hex with h0 | ⟨h0, h1⟩
                · omega
                · have : n - 1 = i := by omega
                  subst this; exact h1)
              clear hab
              go_wp2_with fail
              go_cut [49] from 38 to 49 (fun b wy => b = .bool false ∧ Below wi.heap.size wi wy)
              case first =>
                rcases hex with h0 | ⟨h0, h1⟩
                · subst h0
                  refine wp_region_later (by kernel_rfl) (by kernel_rfl) ?_
                  repeat (go_big_quiet_step (fail))
                  refine wpQuiet_nil ?_
                  intro _ hw'
                  obtain ⟨pq, rfl⟩ := hw'
                  go_simp
                  go_wp2_with fail
                  go_meet
                  exact ⟨rfl, pq.h⟩
                · obtain ⟨j, rfl⟩ | h00 : (∃ j, n = j + 1) ∨ n = 0 := by
                    rcases Nat.eq_zero_or_pos n with h | h
                    · exact .inr h
                    · exact .inl ⟨n - 1, by omega⟩
                  · have hj : j < l.length := by omega
                    have h1' : aheadB (p1, p2) l[j] = false := h1
                    obtain ⟨od, rfl, s1, s2⟩ := hPi.cells (Below.refl _ _) hj
                    have cA := fun W => rAhead_at (p1, p2) l[j] W
                    rw [h1'] at cA
                    simp only at cA
                    have ej : ((j + 1 : Nat) : Int) - 1 = (j : Int) := by omega
                    have hk0 : ((0 : Int) < ((j + 1 : Nat) : Int)) = True := eq_true (by omega)
                    clear h1 h1'
                    generalize (l[j]).1 = q1 at *
                    generalize (l[j]).2 = q2 at *
                    refine wp_region_later (by kernel_rfl) (by kernel_rfl) ?_
                    repeat (go_big_quiet_step (first | (go_at_call 45; exact later_of (cA _))))
                    refine wpQuiet_nil ?_
                    intro _ hw'
                    obtain ⟨pq, rfl⟩ := hw'
                    go_simp
                    go_wp2_with fail
                    go_meet
                    exact ⟨rfl, pq.h⟩
                  · subst h00
                    refine wp_region_later (by kernel_rfl) (by kernel_rfl) ?_
                    repeat (go_big_quiet_step (fail))
                    refine wpQuiet_nil ?_
                    intro _ hw'
                    obtain ⟨pq, rfl⟩ := hw'
                    go_simp
                    go_wp2_with fail
                    go_meet
                    exact ⟨rfl, pq.h⟩
              case rest =>
                obtain ⟨wy, hwy⟩ : ∃ wy, wy = wc := ⟨_, rfl⟩
                subst hwy
                obtain ⟨rfl, hby⟩ := hcut
                clear d0 d1 e0 e1
                have qy := qi.on hby
                have py := pi.on hby
                have hPy := hPi.on hby
                have hbwy := hbwi.trans (hby.mono (by have := qi.lt; omega))
                have hzy := hby.size
                obtain ⟨x0, x1⟩ := qy.two
                obtain ⟨y0, y1⟩ := py.two
                have g1 := qy.frozen 1
                clear qi pi hPi hbi hby qx px hPx hbx
                go_wp2_with fail
                -- REGION 9
                have hn1 : (n : Int) ≤ (l.length : Int) := by omega
                have hn2 : (0 : Int) ≤ (n : Int) := by omega
                have hn3 : (n : Int) ≤ (oc : Int) := by omega
                have haz : wa.heap.size ≤ wy.heap.size := by omega
                cases O with
                | none =>
                  obtain rfl : 0 = oc := by
                    obtain ⟨A', c', hv', hc', _⟩ := hPy
                    injection hv' with h1 h2 h3
                    subst h1; subst h3
                    exact (hc'.2 rfl).symm
                  have hl0 : l = [] := List.eq_nil_of_length_eq_zero (by omega)
                  subst hl0
                  obtain rfl : 0 = n := by simp at hn; omega
                  simp only [List.length_nil] at *
                  refine wp_region_E (fun W => W.cell? ⟨w.heap.size + 1, 1, none⟩ = some (.slice none 0 0) ∧ W.cell? ⟨wo.heap.size, 0, none⟩ = some (.int .u64 (p1 : Int)) ∧ W.cell? ⟨wo.heap.size, 1, none⟩ = some (.int .u64 (p2 : Int))) 14 (by kernel_rfl) ?_
                  have hSd : wy.drew.cell? ⟨w.heap.size + 1, 1, none⟩ = some (.slice none 0 0) ∧ wy.drew.cell? ⟨wo.heap.size, 0, none⟩ = some (.int .u64 (p1 : Int)) ∧ wy.drew.cell? ⟨wo.heap.size, 1, none⟩ = some (.int .u64 (p2 : Int)) := ⟨x1, y0, y1⟩
                  refine E_take (i := 0) (.pointer (some ⟨w.heap.size + 1, 1, none⟩)) (by simp only [List.getElem?_toArray, List.getElem?_cons_zero]; rfl) (by kernel_rfl) (by kernel_rfl) (by kernel_rfl) (by kernel_rfl) (by kernel_rfl) (by exact fun _ _ _ h => h) (by rfl) (by intro W hW; obtain ⟨h1, h2, h3⟩ := hW; go_simp) hSd ?_
                  (try simp only [Act.put]); (try simp only [List.setIfInBounds_toArray]); (try simp only [List.set_cons_succ, List.set_cons_zero])
                  refine E_take (i := 1) (.slice none 0 0) (by simp only [List.getElem?_toArray, List.getElem?_cons_succ, List.getElem?_cons_zero]; rfl) (by kernel_rfl) (by kernel_rfl) (by kernel_rfl) (by kernel_rfl) (by kernel_rfl) (by exact fun _ _ _ h => h) (by rfl) (by intro W hW; obtain ⟨h1, h2, h3⟩ := hW; go_simp) hSd ?_
                  (try simp only [Act.put]); (try simp only [List.setIfInBounds_toArray]); (try simp only [List.set_cons_succ, List.set_cons_zero])
                  refine E_take (i := 2) (.int .i64 0) (by simp only [List.getElem?_toArray, List.getElem?_cons_succ, List.getElem?_cons_zero]; rfl) (by kernel_rfl) (by kernel_rfl) (by kernel_rfl) (by kernel_rfl) (by kernel_rfl) (by exact fun _ _ _ h => h) (by rfl) (by intro W hW; obtain ⟨h1, h2, h3⟩ := hW; go_simp) hSd ?_
                  (try simp only [Act.put]); (try simp only [List.setIfInBounds_toArray]); (try simp only [List.set_cons_succ, List.set_cons_zero])
                  refine E_take (i := 3) (.slice none 0 0) (by simp only [List.getElem?_toArray, List.getElem?_cons_succ, List.getElem?_cons_zero]; rfl) (by kernel_rfl) (by kernel_rfl) (by kernel_rfl) (by kernel_rfl) (by kernel_rfl) (by exact fun _ _ _ h => h) (by rfl) (by intro W hW; obtain ⟨h1, h2, h3⟩ := hW; go_simp) hSd ?_
                  (try simp only [Act.put]); (try simp only [List.setIfInBounds_toArray]); (try simp only [List.set_cons_succ, List.set_cons_zero])
                  refine E_take (i := 5) (.agg #[.int .u64 (p1 : Int), .int .u64 (p2 : Int)]) (by simp only [List.getElem?_toArray, List.getElem?_cons_succ, List.getElem?_cons_zero]; rfl) (by kernel_rfl) (by kernel_rfl) (by kernel_rfl) (by kernel_rfl) (by kernel_rfl) (by exact fun _ _ _ h => h) (by rfl) (by intro W hW; obtain ⟨h1, h2, h3⟩ := hW; go_simp) hSd ?_
                  (try simp only [Act.put]); (try simp only [List.setIfInBounds_toArray]); (try simp only [List.set_cons_succ, List.set_cons_zero])
                  refine E_take (i := 8) (.pointer (some ⟨w.heap.size + 1, 1, none⟩)) (by simp only [List.getElem?_toArray, List.getElem?_cons_succ, List.getElem?_cons_zero]; rfl) (by kernel_rfl) (by kernel_rfl) (by kernel_rfl) (by kernel_rfl) (by kernel_rfl) (by exact fun _ _ _ h => h) (by rfl) (by intro W hW; obtain ⟨h1, h2, h3⟩ := hW; go_simp) hSd ?_
                  (try simp only [Act.put]); (try simp only [List.setIfInBounds_toArray]); (try simp only [List.set_cons_succ, List.set_cons_zero])
                  refine E_take (i := 9) (.slice none 0 0) (by simp only [List.getElem?_toArray, List.getElem?_cons_succ, List.getElem?_cons_zero]; rfl) (by kernel_rfl) (by kernel_rfl) (by kernel_rfl) (by kernel_rfl) (by kernel_rfl) (by exact fun _ _ _ h => h) (by rfl) (by intro W hW; obtain ⟨h1, h2, h3⟩ := hW; go_simp) hSd ?_
                  (try simp only [Act.put]); (try simp only [List.setIfInBounds_toArray]); (try simp only [List.set_cons_succ, List.set_cons_zero])
                  refine E_take (i := 10) (.int .i64 0) (by simp only [List.getElem?_toArray, List.getElem?_cons_succ, List.getElem?_cons_zero]; rfl) (by kernel_rfl) (by kernel_rfl) (by kernel_rfl) (by kernel_rfl) (by kernel_rfl) (by exact fun _ _ _ h => h) (by rfl) (by intro W hW; obtain ⟨h1, h2, h3⟩ := hW; go_simp) hSd ?_
                  (try simp only [Act.put]); (try simp only [List.setIfInBounds_toArray]); (try simp only [List.set_cons_succ, List.set_cons_zero])
                  refine E_take (i := 11) (.slice none 0 0) (by simp only [List.getElem?_toArray, List.getElem?_cons_succ, List.getElem?_cons_zero]; rfl) (by kernel_rfl) (by kernel_rfl) (by kernel_rfl) (by kernel_rfl) (by kernel_rfl) (by exact fun _ _ _ h => h) (by rfl) (by intro W hW; obtain ⟨h1, h2, h3⟩ := hW; go_simp) hSd ?_
                  (try simp only [Act.put]); (try simp only [List.setIfInBounds_toArray]); (try simp only [List.set_cons_succ, List.set_cons_zero])
                  refine E_two (i := 4) (k := 6) (by kernel_rfl) (by simp only [List.getElem?_toArray, List.getElem?_cons_succ, List.getElem?_cons_zero]; rfl) (by simp only [List.getElem?_toArray, List.getElem?_cons_succ, List.getElem?_cons_zero]; rfl) (fun K hK => ?_) (fun K hK => ?_)
                  · have hBd : Below wy.heap.size wy wy.drew := (Below.refl _ _).drew
                    refine step_append_any rfl _ _ 26 rfl wy.heap.size 53 i0 (.agg #[.int .u64 0, .int .u64 0]) 2 16 Tryd.underlying26 hi hz0 hz1 hz2 rfl (by decide) (.slice none 0 0) 0 [] rfl (World.ownsRow_nil _ _ _ _) none 0 0 ((([] : List Pr).take 0).flatMap pairCells) rfl (by rw [flat_pairs_length, List.length_take]; omega) (news_first hPy (hBd) hn) (pairs_one _) (by unfold maxLen; omega) (by omega) ((hBd).size) ?_
                    intro S1 cap1 w1 own1 grow1
                    simp only [Nat.zero_add, List.nil_append] at own1 ⊢
                    have hB1 : Below wy.heap.size wy w1 := Below.grown (hBd) grow1 (hBd).size (fun k h => by cases h)
                    refine hK _ _ (fun _ => ⟨(qy.on (hB1)).two.2, (py.on (hB1)).two.1, (py.on (hB1)).two.2⟩) ?_
                    clear hK K
                    (try simp only [Act.put]); (try simp only [List.setIfInBounds_toArray]); (try simp only [List.set_cons_succ, List.set_cons_zero])
                    refine E_one (i := 6) (by kernel_rfl) (by simp only [List.getElem?_toArray, List.getElem?_cons_succ, List.getElem?_cons_zero]; rfl) (fun K hK => ?_)
                    go_simp
                    refine hK _ _ (fun _ => ⟨(qy.on (hB1.alloc hB1.size (.cells #[.int .u64 (p1 : Int), .int .u64 (p2 : Int)] 53))).two.2, (py.on (hB1.alloc hB1.size (.cells #[.int .u64 (p1 : Int), .int .u64 (p2 : Int)] 53))).two.1, (py.on (hB1.alloc hB1.size (.cells #[.int .u64 (p1 : Int), .int .u64 (p2 : Int)] 53))).two.2⟩) ?_
                    clear hK K
                    (try simp only [Act.put]); (try simp only [List.setIfInBounds_toArray]); (try simp only [List.set_cons_succ, List.set_cons_zero])
                    refine E_one (i := 7) (by kernel_rfl) (by simp only [List.getElem?_toArray, List.getElem?_cons_succ, List.getElem?_cons_zero]; rfl) (fun K hK => ?_)
                    refine step_append_any rfl _ _ 26 rfl wy.heap.size 53 i0 (.agg #[.int .u64 0, .int .u64 0]) 2 16 Tryd.underlying26 hi hz0 hz1 hz2 rfl (by decide) (.slice S1 0 cap1) 0 _ rfl (own1.alloc _) _ 1 1 [.int .u64 (p1 : Int), .int .u64 (p2 : Int)] rfl rfl (fun _ => ⟨_, rfl, news_pair (RowAt.new w1 53 #[.int .u64 (p1 : Int), .int .u64 (p2 : Int)])⟩) (by intro u hu0; simp at hu0; rcases hu0 with rfl | rfl <;> rfl) (by unfold maxLen; omega) (by omega) ((hB1.alloc hB1.size (.cells #[.int .u64 (p1 : Int), .int .u64 (p2 : Int)] 53)).size) ?_
                    intro S2 cap2 w2 own2 grow2
                    have hB2 : Below wy.heap.size wy w2 := Below.grown (hB1.alloc hB1.size (.cells #[.int .u64 (p1 : Int), .int .u64 (p2 : Int)] 53)) grow2 (hB1.alloc hB1.size (.cells #[.int .u64 (p1 : Int), .int .u64 (p2 : Int)] 53)).size (fun k h => (own1.lt k h).1)
                    refine hK _ _ (fun _ => ⟨(qy.on (hB2)).two.2, (py.on (hB2)).two.1, (py.on (hB2)).two.2⟩) ?_
                    clear hK K
                    (try simp only [Act.put]); (try simp only [List.setIfInBounds_toArray]); (try simp only [List.set_cons_succ, List.set_cons_zero])
                    refine E_one (i := 12) (by kernel_rfl) (by simp only [List.getElem?_toArray, List.getElem?_cons_succ, List.getElem?_cons_zero]; rfl) (fun K hK => ?_)
                    refine step_append_any rfl _ _ 26 rfl wy.heap.size 53 i0 (.agg #[.int .u64 0, .int .u64 0]) 2 16 Tryd.underlying26 hi hz0 hz1 hz2 rfl (by decide) (.slice S2 (0 + 1) cap2) (0 + 1) _ rfl own2 none 0 0 ((([] : List Pr).drop 0).flatMap pairCells) rfl (by simp) (fun h => absurd h (by omega)) (pairs_one _) (by unfold maxLen; omega) (by omega) hB2.size ?_
                    intro S3 cap3 w3 own3 grow3
                    have hB3 : Below wy.heap.size wy w3 := Below.grown hB2 grow3 hB2.size (fun k h => (own2.lt k h).1)
                    refine hK _ _ (fun _ => ⟨(qy.on (hB3)).two.2, (py.on (hB3)).two.1, (py.on (hB3)).two.2⟩) ?_
                    clear hK K
                    (try simp only [Act.put]); (try simp only [List.setIfInBounds_toArray]); (try simp only [List.set_cons_succ, List.set_cons_zero])
                    have q3 := qy.on hB3
                    obtain ⟨z0, z1⟩ := q3.two
                    have g3 := q3.frozen 1
                    refine E_one (i := 13) (by kernel_rfl) (by simp only [List.getElem?_toArray, List.getElem?_cons_succ, List.getElem?_cons_zero]; rfl) (fun K hK => ?_)
                    go_simp
                    refine hK _ _ (fun _ => ⟨(qy.on (hB3)).two.2, (py.on (hB3)).two.1, (py.on (hB3)).two.2⟩) ?_
                    clear hK K
                    (try simp only [Act.put]); (try simp only [List.setIfInBounds_toArray]); (try simp only [List.set_cons_succ, List.set_cons_zero])
                    refine E_one (i := 14) (by kernel_rfl) (by simp only [List.getElem?_toArray, List.getElem?_cons_succ, List.getElem?_cons_zero]; rfl) (fun K hK => ?_)
                    go_simp
                    refine hK _ _ (fun h => absurd rfl h) ?_
                    clear hK K
                    refine E_done (by kernel_rfl) ?_ _
                    obtain ⟨t1, t2, t3, t4⟩ := tok_end (by simp) own3 hB3 qy (by omega) (by omega) hbwy HIN.out
                    clear own1 own2 own3 grow1 grow2 grow3
                    go_simp
                    go_wp2_with fail
                    go_roundw
                    case rel => exact ⟨k + 1, _, by omega, by omega, by go_num, t1, by rw [HTS.out]; exact t2, t3, t4⟩
                    case measure => simp [intOf]; omega
                  · have hBd : Below wy.heap.size wy (wy.drew.alloc (.cells #[.int .u64 (p1 : Int), .int .u64 (p2 : Int)] 53)) := ((Below.refl _ _).drew).alloc (Nat.le_refl _) _
                    go_simp
                    refine hK _ _ (fun _ => ⟨(qy.on (hBd)).two.2, (py.on (hBd)).two.1, (py.on (hBd)).two.2⟩) ?_
                    clear hK K
                    (try simp only [Act.put]); (try simp only [List.setIfInBounds_toArray]); (try simp only [List.set_cons_succ, List.set_cons_zero])
                    refine E_one (i := 4) (by kernel_rfl) (by simp only [List.getElem?_toArray, List.getElem?_cons_succ, List.getElem?_cons_zero]; rfl) (fun K hK => ?_)
                    refine step_append_any rfl _ _ 26 rfl wy.heap.size 53 i0 (.agg #[.int .u64 0, .int .u64 0]) 2 16 Tryd.underlying26 hi hz0 hz1 hz2 rfl (by decide) (.slice none 0 0) 0 [] rfl (World.ownsRow_nil _ _ _ _) none 0 0 ((([] : List Pr).take 0).flatMap pairCells) rfl (by rw [flat_pairs_length, List.length_take]; omega) (news_first hPy (hBd) hn) (pairs_one _) (by unfold maxLen; omega) (by omega) ((hBd).size) ?_
                    intro S1 cap1 w1 own1 grow1
                    simp only [Nat.zero_add, List.nil_append] at own1 ⊢
                    have hB1 : Below wy.heap.size wy w1 := Below.grown (hBd) grow1 (hBd).size (fun k h => by cases h)
                    refine hK _ _ (fun _ => ⟨(qy.on (hB1)).two.2, (py.on (hB1)).two.1, (py.on (hB1)).two.2⟩) ?_
                    clear hK K
                    (try simp only [Act.put]); (try simp only [List.setIfInBounds_toArray]); (try simp only [List.set_cons_succ, List.set_cons_zero])
                    have rB : RowAt w1 wy.heap.size 53 [.int .u64 (p1 : Int), .int .u64 (p2 : Int)] := RowAt.grown (RowAt.new wy.drew 53 #[.int .u64 (p1 : Int), .int .u64 (p2 : Int)]) grow1 (by simp [Value.ownBlock])
                    refine E_one (i := 7) (by kernel_rfl) (by simp only [List.getElem?_toArray, List.getElem?_cons_succ, List.getElem?_cons_zero]; rfl) (fun K hK => ?_)
                    refine step_append_any rfl _ _ 26 rfl wy.heap.size 53 i0 (.agg #[.int .u64 0, .int .u64 0]) 2 16 Tryd.underlying26 hi hz0 hz1 hz2 rfl (by decide) (.slice S1 0 cap1) 0 _ rfl (own1) _ 1 1 [.int .u64 (p1 : Int), .int .u64 (p2 : Int)] rfl rfl (fun _ => ⟨_, rfl, news_pair (rB)⟩) (by intro u hu0; simp at hu0; rcases hu0 with rfl | rfl <;> rfl) (by unfold maxLen; omega) (by omega) ((hB1).size) ?_
                    intro S2 cap2 w2 own2 grow2
                    have hB2 : Below wy.heap.size wy w2 := Below.grown (hB1) grow2 (hB1).size (fun k h => (own1.lt k h).1)
                    refine hK _ _ (fun _ => ⟨(qy.on (hB2)).two.2, (py.on (hB2)).two.1, (py.on (hB2)).two.2⟩) ?_
                    clear hK K
                    (try simp only [Act.put]); (try simp only [List.setIfInBounds_toArray]); (try simp only [List.set_cons_succ, List.set_cons_zero])
                    refine E_one (i := 12) (by kernel_rfl) (by simp only [List.getElem?_toArray, List.getElem?_cons_succ, List.getElem?_cons_zero]; rfl) (fun K hK => ?_)
                    refine step_append_any rfl _ _ 26 rfl wy.heap.size 53 i0 (.agg #[.int .u64 0, .int .u64 0]) 2 16 Tryd.underlying26 hi hz0 hz1 hz2 rfl (by decide) (.slice S2 (0 + 1) cap2) (0 + 1) _ rfl own2 none 0 0 ((([] : List Pr).drop 0).flatMap pairCells) rfl (by simp) (fun h => absurd h (by omega)) (pairs_one _) (by unfold maxLen; omega) (by omega) hB2.size ?_
                    intro S3 cap3 w3 own3 grow3
                    have hB3 : Below wy.heap.size wy w3 := Below.grown hB2 grow3 hB2.size (fun k h => (own2.lt k h).1)
                    refine hK _ _ (fun _ => ⟨(qy.on (hB3)).two.2, (py.on (hB3)).two.1, (py.on (hB3)).two.2⟩) ?_
                    clear hK K
                    (try simp only [Act.put]); (try simp only [List.setIfInBounds_toArray]); (try simp only [List.set_cons_succ, List.set_cons_zero])
                    have q3 := qy.on hB3
                    obtain ⟨z0, z1⟩ := q3.two
                    have g3 := q3.frozen 1
                    refine E_one (i := 13) (by kernel_rfl) (by simp only [List.getElem?_toArray, List.getElem?_cons_succ, List.getElem?_cons_zero]; rfl) (fun K hK => ?_)
                    go_simp
                    refine hK _ _ (fun _ => ⟨(qy.on (hB3)).two.2, (py.on (hB3)).two.1, (py.on (hB3)).two.2⟩) ?_
                    clear hK K
                    (try simp only [Act.put]); (try simp only [List.setIfInBounds_toArray]); (try simp only [List.set_cons_succ, List.set_cons_zero])
                    refine E_one (i := 14) (by kernel_rfl) (by simp only [List.getElem?_toArray, List.getElem?_cons_succ, List.getElem?_cons_zero]; rfl) (fun K hK => ?_)
                    go_simp
                    refine hK _ _ (fun h => absurd rfl h) ?_
                    clear hK K
                    refine E_done (by kernel_rfl) ?_ _
                    obtain ⟨t1, t2, t3, t4⟩ := tok_end (by simp) own3 hB3 qy (by omega) (by omega) hbwy HIN.out
                    clear own1 own2 own3 grow1 grow2 grow3
                    go_simp
                    go_wp2_with fail
                    go_roundw
                    case rel => exact ⟨k + 1, _, by omega, by omega, by go_num, t1, by rw [HTS.out]; exact t2, t3, t4⟩
                    case measure => simp [intOf]; omega
                | some od =>
                  by_cases hcn : oc = n
                  · obtain rfl : n = oc := hcn.symm
                    refine wp_region_E (fun W => W.cell? ⟨w.heap.size + 1, 1, none⟩ = some (.slice (some od) l.length n) ∧ W.cell? ⟨wo.heap.size, 0, none⟩ = some (.int .u64 (p1 : Int)) ∧ W.cell? ⟨wo.heap.size, 1, none⟩ = some (.int .u64 (p2 : Int))) 14 (by kernel_rfl) ?_
                    have hSd : wy.drew.cell? ⟨w.heap.size + 1, 1, none⟩ = some (.slice (some od) l.length n) ∧ wy.drew.cell? ⟨wo.heap.size, 0, none⟩ = some (.int .u64 (p1 : Int)) ∧ wy.drew.cell? ⟨wo.heap.size, 1, none⟩ = some (.int .u64 (p2 : Int)) := ⟨x1, y0, y1⟩
                    refine E_take (i := 0) (.pointer (some ⟨w.heap.size + 1, 1, none⟩)) (by simp only [List.getElem?_toArray, List.getElem?_cons_zero]; rfl) (by kernel_rfl) (by kernel_rfl) (by kernel_rfl) (by kernel_rfl) (by kernel_rfl) (by exact fun _ _ _ h => h) (by rfl) (by intro W hW; obtain ⟨h1, h2, h3⟩ := hW; go_simp) hSd ?_
                    (try simp only [Act.put]); (try simp only [List.setIfInBounds_toArray]); (try simp only [List.set_cons_succ, List.set_cons_zero])
                    refine E_take (i := 1) (.slice (some od) l.length n) (by simp only [List.getElem?_toArray, List.getElem?_cons_succ, List.getElem?_cons_zero]; rfl) (by kernel_rfl) (by kernel_rfl) (by kernel_rfl) (by kernel_rfl) (by kernel_rfl) (by exact fun _ _ _ h => h) (by rfl) (by intro W hW; obtain ⟨h1, h2, h3⟩ := hW; go_simp) hSd ?_
                    (try simp only [Act.put]); (try simp only [List.setIfInBounds_toArray]); (try simp only [List.set_cons_succ, List.set_cons_zero])
                    refine E_take (i := 2) (.int .i64 (n : Int)) (by simp only [List.getElem?_toArray, List.getElem?_cons_succ, List.getElem?_cons_zero]; rfl) (by kernel_rfl) (by kernel_rfl) (by kernel_rfl) (by kernel_rfl) (by kernel_rfl) (by exact fun _ _ _ h => h) (by rfl) (by intro W hW; obtain ⟨h1, h2, h3⟩ := hW; go_simp) hSd ?_
                    (try simp only [Act.put]); (try simp only [List.setIfInBounds_toArray]); (try simp only [List.set_cons_succ, List.set_cons_zero])
                    refine E_take (i := 3) (.slice (some od) n n) (by simp only [List.getElem?_toArray, List.getElem?_cons_succ, List.getElem?_cons_zero]; rfl) (by kernel_rfl) (by kernel_rfl) (by kernel_rfl) (by kernel_rfl) (by kernel_rfl) (by exact fun _ _ _ h => h) (by rfl) (by intro W hW; obtain ⟨h1, h2, h3⟩ := hW; go_simp) hSd ?_
                    (try simp only [Act.put]); (try simp only [List.setIfInBounds_toArray]); (try simp only [List.set_cons_succ, List.set_cons_zero])
                    refine E_take (i := 5) (.agg #[.int .u64 (p1 : Int), .int .u64 (p2 : Int)]) (by simp only [List.getElem?_toArray, List.getElem?_cons_succ, List.getElem?_cons_zero]; rfl) (by kernel_rfl) (by kernel_rfl) (by kernel_rfl) (by kernel_rfl) (by kernel_rfl) (by exact fun _ _ _ h => h) (by rfl) (by intro W hW; obtain ⟨h1, h2, h3⟩ := hW; go_simp) hSd ?_
                    (try simp only [Act.put]); (try simp only [List.setIfInBounds_toArray]); (try simp only [List.set_cons_succ, List.set_cons_zero])
                    refine E_take (i := 8) (.pointer (some ⟨w.heap.size + 1, 1, none⟩)) (by simp only [List.getElem?_toArray, List.getElem?_cons_succ, List.getElem?_cons_zero]; rfl) (by kernel_rfl) (by kernel_rfl) (by kernel_rfl) (by kernel_rfl) (by kernel_rfl) (by exact fun _ _ _ h => h) (by rfl) (by intro W hW; obtain ⟨h1, h2, h3⟩ := hW; go_simp) hSd ?_
                    (try simp only [Act.put]); (try simp only [List.setIfInBounds_toArray]); (try simp only [List.set_cons_succ, List.set_cons_zero])
                    refine E_take (i := 9) (.slice (some od) l.length n) (by simp only [List.getElem?_toArray, List.getElem?_cons_succ, List.getElem?_cons_zero]; rfl) (by kernel_rfl) (by kernel_rfl) (by kernel_rfl) (by kernel_rfl) (by kernel_rfl) (by exact fun _ _ _ h => h) (by rfl) (by intro W hW; obtain ⟨h1, h2, h3⟩ := hW; go_simp) hSd ?_
                    (try simp only [Act.put]); (try simp only [List.setIfInBounds_toArray]); (try simp only [List.set_cons_succ, List.set_cons_zero])
                    refine E_take (i := 10) (.int .i64 (n : Int)) (by simp only [List.getElem?_toArray, List.getElem?_cons_succ, List.getElem?_cons_zero]; rfl) (by kernel_rfl) (by kernel_rfl) (by kernel_rfl) (by kernel_rfl) (by kernel_rfl) (by exact fun _ _ _ h => h) (by rfl) (by intro W hW; obtain ⟨h1, h2, h3⟩ := hW; go_simp) hSd ?_
                    (try simp only [Act.put]); (try simp only [List.setIfInBounds_toArray]); (try simp only [List.set_cons_succ, List.set_cons_zero])
                    refine E_take (i := 11) (.slice (some od) 0 0) (by simp only [List.getElem?_toArray, List.getElem?_cons_succ, List.getElem?_cons_zero]; rfl) (by kernel_rfl) (by kernel_rfl) (by kernel_rfl) (by kernel_rfl) (by kernel_rfl) (by exact fun _ _ _ h => h) (by rfl) (by intro W hW; obtain ⟨h1, h2, h3⟩ := hW; go_simp) hSd ?_
                    (try simp only [Act.put]); (try simp only [List.setIfInBounds_toArray]); (try simp only [List.set_cons_succ, List.set_cons_zero])
                    refine E_two (i := 4) (k := 6) (by kernel_rfl) (by simp only [List.getElem?_toArray, List.getElem?_cons_succ, List.getElem?_cons_zero]; rfl) (by simp only [List.getElem?_toArray, List.getElem?_cons_succ, List.getElem?_cons_zero]; rfl) (fun K hK => ?_) (fun K hK => ?_)
                    · have hBd : Below wy.heap.size wy wy.drew := (Below.refl _ _).drew
                      refine step_append_any rfl _ _ 26 rfl wy.heap.size 53 i0 (.agg #[.int .u64 0, .int .u64 0]) 2 16 Tryd.underlying26 hi hz0 hz1 hz2 rfl (by decide) (.slice none 0 0) 0 [] rfl (World.ownsRow_nil _ _ _ _) (some od) n n ((l.take n).flatMap pairCells) rfl (by rw [flat_pairs_length, List.length_take]; omega) (news_first hPy (hBd) hn) (pairs_one _) (by unfold maxLen; omega) (by omega) ((hBd).size) ?_
                      intro S1 cap1 w1 own1 grow1
                      simp only [Nat.zero_add, List.nil_append] at own1 ⊢
                      have hB1 : Below wy.heap.size wy w1 := Below.grown (hBd) grow1 (hBd).size (fun k h => by cases h)
                      refine hK _ _ (fun _ => ⟨(qy.on (hB1)).two.2, (py.on (hB1)).two.1, (py.on (hB1)).two.2⟩) ?_
                      clear hK K
                      (try simp only [Act.put]); (try simp only [List.setIfInBounds_toArray]); (try simp only [List.set_cons_succ, List.set_cons_zero])
                      refine E_one (i := 6) (by kernel_rfl) (by simp only [List.getElem?_toArray, List.getElem?_cons_succ, List.getElem?_cons_zero]; rfl) (fun K hK => ?_)
                      go_simp
                      refine hK _ _ (fun _ => ⟨(qy.on (hB1.alloc hB1.size (.cells #[.int .u64 (p1 : Int), .int .u64 (p2 : Int)] 53))).two.2, (py.on (hB1.alloc hB1.size (.cells #[.int .u64 (p1 : Int), .int .u64 (p2 : Int)] 53))).two.1, (py.on (hB1.alloc hB1.size (.cells #[.int .u64 (p1 : Int), .int .u64 (p2 : Int)] 53))).two.2⟩) ?_
                      clear hK K
                      (try simp only [Act.put]); (try simp only [List.setIfInBounds_toArray]); (try simp only [List.set_cons_succ, List.set_cons_zero])
                      refine E_one (i := 7) (by kernel_rfl) (by simp only [List.getElem?_toArray, List.getElem?_cons_succ, List.getElem?_cons_zero]; rfl) (fun K hK => ?_)
                      refine step_append_any rfl _ _ 26 rfl wy.heap.size 53 i0 (.agg #[.int .u64 0, .int .u64 0]) 2 16 Tryd.underlying26 hi hz0 hz1 hz2 rfl (by decide) (.slice S1 n cap1) n _ rfl (own1.alloc _) _ 1 1 [.int .u64 (p1 : Int), .int .u64 (p2 : Int)] rfl rfl (fun _ => ⟨_, rfl, news_pair (RowAt.new w1 53 #[.int .u64 (p1 : Int), .int .u64 (p2 : Int)])⟩) (by intro u hu0; simp at hu0; rcases hu0 with rfl | rfl <;> rfl) (by unfold maxLen; omega) (by omega) ((hB1.alloc hB1.size (.cells #[.int .u64 (p1 : Int), .int .u64 (p2 : Int)] 53)).size) ?_
                      intro S2 cap2 w2 own2 grow2
                      have hB2 : Below wy.heap.size wy w2 := Below.grown (hB1.alloc hB1.size (.cells #[.int .u64 (p1 : Int), .int .u64 (p2 : Int)] 53)) grow2 (hB1.alloc hB1.size (.cells #[.int .u64 (p1 : Int), .int .u64 (p2 : Int)] 53)).size (fun k h => (own1.lt k h).1)
                      refine hK _ _ (fun _ => ⟨(qy.on (hB2)).two.2, (py.on (hB2)).two.1, (py.on (hB2)).two.2⟩) ?_
                      clear hK K
                      (try simp only [Act.put]); (try simp only [List.setIfInBounds_toArray]); (try simp only [List.set_cons_succ, List.set_cons_zero])
                      refine E_one (i := 12) (by kernel_rfl) (by simp only [List.getElem?_toArray, List.getElem?_cons_succ, List.getElem?_cons_zero]; rfl) (fun K hK => ?_)
                      refine step_append_any rfl _ _ 26 rfl wy.heap.size 53 i0 (.agg #[.int .u64 0, .int .u64 0]) 2 16 Tryd.underlying26 hi hz0 hz1 hz2 rfl (by decide) (.slice S2 (n + 1) cap2) (n + 1) _ rfl own2 (some od) 0 0 ((l.drop n).flatMap pairCells) rfl (by rw [flat_pairs_length, List.length_drop]; omega) (fun h => absurd h (by omega)) (pairs_one _) (by unfold maxLen; omega) (by omega) hB2.size ?_
                      intro S3 cap3 w3 own3 grow3
                      have hB3 : Below wy.heap.size wy w3 := Below.grown hB2 grow3 hB2.size (fun k h => (own2.lt k h).1)
                      refine hK _ _ (fun _ => ⟨(qy.on (hB3)).two.2, (py.on (hB3)).two.1, (py.on (hB3)).two.2⟩) ?_
                      clear hK K
                      (try simp only [Act.put]); (try simp only [List.setIfInBounds_toArray]); (try simp only [List.set_cons_succ, List.set_cons_zero])
                      have q3 := qy.on hB3
                      obtain ⟨z0, z1⟩ := q3.two
                      have g3 := q3.frozen 1
                      refine E_one (i := 13) (by kernel_rfl) (by simp only [List.getElem?_toArray, List.getElem?_cons_succ, List.getElem?_cons_zero]; rfl) (fun K hK => ?_)
                      go_simp
                      refine hK _ _ (fun _ => ⟨(qy.on (hB3)).two.2, (py.on (hB3)).two.1, (py.on (hB3)).two.2⟩) ?_
                      clear hK K
                      (try simp only [Act.put]); (try simp only [List.setIfInBounds_toArray]); (try simp only [List.set_cons_succ, List.set_cons_zero])
                      refine E_one (i := 14) (by kernel_rfl) (by simp only [List.getElem?_toArray, List.getElem?_cons_succ, List.getElem?_cons_zero]; rfl) (fun K hK => ?_)
                      go_simp
                      refine hK _ _ (fun h => absurd rfl h) ?_
                      clear hK K
                      refine E_done (by kernel_rfl) ?_ _
                      obtain ⟨t1, t2, t3, t4⟩ := tok_end (by omega) own3 hB3 qy (by omega) (by omega) hbwy HIN.out
                      clear own1 own2 own3 grow1 grow2 grow3
                      go_simp
                      go_wp2_with fail
                      go_roundw
                      case rel => exact ⟨k + 1, _, by omega, by omega, by go_num, t1, by rw [HTS.out]; exact t2, t3, t4⟩
                      case measure => simp [intOf]; omega
                    · have hBd : Below wy.heap.size wy (wy.drew.alloc (.cells #[.int .u64 (p1 : Int), .int .u64 (p2 : Int)] 53)) := ((Below.refl _ _).drew).alloc (Nat.le_refl _) _
                      go_simp
                      refine hK _ _ (fun _ => ⟨(qy.on (hBd)).two.2, (py.on (hBd)).two.1, (py.on (hBd)).two.2⟩) ?_
                      clear hK K
                      (try simp only [Act.put]); (try simp only [List.setIfInBounds_toArray]); (try simp only [List.set_cons_succ, List.set_cons_zero])
                      refine E_one (i := 4) (by kernel_rfl) (by simp only [List.getElem?_toArray, List.getElem?_cons_succ, List.getElem?_cons_zero]; rfl) (fun K hK => ?_)
                      refine step_append_any rfl _ _ 26 rfl wy.heap.size 53 i0 (.agg #[.int .u64 0, .int .u64 0]) 2 16 Tryd.underlying26 hi hz0 hz1 hz2 rfl (by decide) (.slice none 0 0) 0 [] rfl (World.ownsRow_nil _ _ _ _) (some od) n n ((l.take n).flatMap pairCells) rfl (by rw [flat_pairs_length, List.length_take]; omega) (news_first hPy (hBd) hn) (pairs_one _) (by unfold maxLen; omega) (by omega) ((hBd).size) ?_
                      intro S1 cap1 w1 own1 grow1
                      simp only [Nat.zero_add, List.nil_append] at own1 ⊢
                      have hB1 : Below wy.heap.size wy w1 := Below.grown (hBd) grow1 (hBd).size (fun k h => by cases h)
                      refine hK _ _ (fun _ => ⟨(qy.on (hB1)).two.2, (py.on (hB1)).two.1, (py.on (hB1)).two.2⟩) ?_
                      clear hK K
                      (try simp only [Act.put]); (try simp only [List.setIfInBounds_toArray]); (try simp only [List.set_cons_succ, List.set_cons_zero])
                      have rB : RowAt w1 wy.heap.size 53 [.int .u64 (p1 : Int), .int .u64 (p2 : Int)] := RowAt.grown (RowAt.new wy.drew 53 #[.int .u64 (p1 : Int), .int .u64 (p2 : Int)]) grow1 (by simp [Value.ownBlock])
                      refine E_one (i := 7) (by kernel_rfl) (by simp only [List.getElem?_toArray, List.getElem?_cons_succ, List.getElem?_cons_zero]; rfl) (fun K hK => ?_)
                      refine step_append_any rfl _ _ 26 rfl wy.heap.size 53 i0 (.agg #[.int .u64 0, .int .u64 0]) 2 16 Tryd.underlying26 hi hz0 hz1 hz2 rfl (by decide) (.slice S1 n cap1) n _ rfl (own1) _ 1 1 [.int .u64 (p1 : Int), .int .u64 (p2 : Int)] rfl rfl (fun _ => ⟨_, rfl, news_pair (rB)⟩) (by intro u hu0; simp at hu0; rcases hu0 with rfl | rfl <;> rfl) (by unfold maxLen; omega) (by omega) ((hB1).size) ?_
                      intro S2 cap2 w2 own2 grow2
                      have hB2 : Below wy.heap.size wy w2 := Below.grown (hB1) grow2 (hB1).size (fun k h => (own1.lt k h).1)
                      refine hK _ _ (fun _ => ⟨(qy.on (hB2)).two.2, (py.on (hB2)).two.1, (py.on (hB2)).two.2⟩) ?_
                      clear hK K
                      (try simp only [Act.put]); (try simp only [List.setIfInBounds_toArray]); (try simp only [List.set_cons_succ, List.set_cons_zero])
                      refine E_one (i := 12) (by kernel_rfl) (by simp only [List.getElem?_toArray, List.getElem?_cons_succ, List.getElem?_cons_zero]; rfl) (fun K hK => ?_)
                      refine step_append_any rfl _ _ 26 rfl wy.heap.size 53 i0 (.agg #[.int .u64 0, .int .u64 0]) 2 16 Tryd.underlying26 hi hz0 hz1 hz2 rfl (by decide) (.slice S2 (n + 1) cap2) (n + 1) _ rfl own2 (some od) 0 0 ((l.drop n).flatMap pairCells) rfl (by rw [flat_pairs_length, List.length_drop]; omega) (fun h => absurd h (by omega)) (pairs_one _) (by unfold maxLen; omega) (by omega) hB2.size ?_
                      intro S3 cap3 w3 own3 grow3
                      have hB3 : Below wy.heap.size wy w3 := Below.grown hB2 grow3 hB2.size (fun k h => (own2.lt k h).1)
                      refine hK _ _ (fun _ => ⟨(qy.on (hB3)).two.2, (py.on (hB3)).two.1, (py.on (hB3)).two.2⟩) ?_
                      clear hK K
                      (try simp only [Act.put]); (try simp only [List.setIfInBounds_toArray]); (try simp only [List.set_cons_succ, List.set_cons_zero])
                      have q3 := qy.on hB3
                      obtain ⟨z0, z1⟩ := q3.two
                      have g3 := q3.frozen 1
                      refine E_one (i := 13) (by kernel_rfl) (by simp only [List.getElem?_toArray, List.getElem?_cons_succ, List.getElem?_cons_zero]; rfl) (fun K hK => ?_)
                      go_simp
                      refine hK _ _ (fun _ => ⟨(qy.on (hB3)).two.2, (py.on (hB3)).two.1, (py.on (hB3)).two.2⟩) ?_
                      clear hK K
                      (try simp only [Act.put]); (try simp only [List.setIfInBounds_toArray]); (try simp only [List.set_cons_succ, List.set_cons_zero])
                      refine E_one (i := 14) (by kernel_rfl) (by simp only [List.getElem?_toArray, List.getElem?_cons_succ, List.getElem?_cons_zero]; rfl) (fun K hK => ?_)
                      go_simp
                      refine hK _ _ (fun h => absurd rfl h) ?_
                      clear hK K
                      refine E_done (by kernel_rfl) ?_ _
                      obtain ⟨t1, t2, t3, t4⟩ := tok_end (by omega) own3 hB3 qy (by omega) (by omega) hbwy HIN.out
                      clear own1 own2 own3 grow1 grow2 grow3
                      go_simp
                      go_wp2_with fail
                      go_roundw
                      case rel => exact ⟨k + 1, _, by omega, by omega, by go_num, t1, by rw [HTS.out]; exact t2, t3, t4⟩
                      case measure => simp [intOf]; omega
                  · have hcn1 : (oc = n) = False := eq_false hcn
                    have hcn2 : (oc - n = 0) = False := eq_false (by omega)
                    refine wp_region_E (fun W => W.cell? ⟨w.heap.size + 1, 1, none⟩ = some (.slice (some od) l.length oc) ∧ W.cell? ⟨wo.heap.size, 0, none⟩ = some (.int .u64 (p1 : Int)) ∧ W.cell? ⟨wo.heap.size, 1, none⟩ = some (.int .u64 (p2 : Int))) 14 (by kernel_rfl) ?_
                    have hSd : wy.drew.cell? ⟨w.heap.size + 1, 1, none⟩ = some (.slice (some od) l.length oc) ∧ wy.drew.cell? ⟨wo.heap.size, 0, none⟩ = some (.int .u64 (p1 : Int)) ∧ wy.drew.cell? ⟨wo.heap.size, 1, none⟩ = some (.int .u64 (p2 : Int)) := ⟨x1, y0, y1⟩
                    refine E_take (i := 0) (.pointer (some ⟨w.heap.size + 1, 1, none⟩)) (by simp only [List.getElem?_toArray, List.getElem?_cons_zero]; rfl) (by kernel_rfl) (by kernel_rfl) (by kernel_rfl) (by kernel_rfl) (by kernel_rfl) (by exact fun _ _ _ h => h) (by rfl) (by intro W hW; obtain ⟨h1, h2, h3⟩ := hW; go_simp) hSd ?_
                    (try simp only [Act.put]); (try simp only [List.setIfInBounds_toArray]); (try simp only [List.set_cons_succ, List.set_cons_zero])
                    refine E_take (i := 1) (.slice (some od) l.length oc) (by simp only [List.getElem?_toArray, List.getElem?_cons_succ, List.getElem?_cons_zero]; rfl) (by kernel_rfl) (by kernel_rfl) (by kernel_rfl) (by kernel_rfl) (by kernel_rfl) (by exact fun _ _ _ h => h) (by rfl) (by intro W hW; obtain ⟨h1, h2, h3⟩ := hW; go_simp) hSd ?_
                    (try simp only [Act.put]); (try simp only [List.setIfInBounds_toArray]); (try simp only [List.set_cons_succ, List.set_cons_zero])
                    refine E_take (i := 2) (.int .i64 (n : Int)) (by simp only [List.getElem?_toArray, List.getElem?_cons_succ, List.getElem?_cons_zero]; rfl) (by kernel_rfl) (by kernel_rfl) (by kernel_rfl) (by kernel_rfl) (by kernel_rfl) (by exact fun _ _ _ h => h) (by rfl) (by intro W hW; obtain ⟨h1, h2, h3⟩ := hW; go_simp) hSd ?_
                    (try simp only [Act.put]); (try simp only [List.setIfInBounds_toArray]); (try simp only [List.set_cons_succ, List.set_cons_zero])
                    refine E_take (i := 3) (.slice (some od) n oc) (by simp only [List.getElem?_toArray, List.getElem?_cons_succ, List.getElem?_cons_zero]; rfl) (by kernel_rfl) (by kernel_rfl) (by kernel_rfl) (by kernel_rfl) (by kernel_rfl) (by exact fun _ _ _ h => h) (by rfl) (by intro W hW; obtain ⟨h1, h2, h3⟩ := hW; go_simp) hSd ?_
                    (try simp only [Act.put]); (try simp only [List.setIfInBounds_toArray]); (try simp only [List.set_cons_succ, List.set_cons_zero])
                    refine E_take (i := 5) (.agg #[.int .u64 (p1 : Int), .int .u64 (p2 : Int)]) (by simp only [List.getElem?_toArray, List.getElem?_cons_succ, List.getElem?_cons_zero]; rfl) (by kernel_rfl) (by kernel_rfl) (by kernel_rfl) (by kernel_rfl) (by kernel_rfl) (by exact fun _ _ _ h => h) (by rfl) (by intro W hW; obtain ⟨h1, h2, h3⟩ := hW; go_simp) hSd ?_
                    (try simp only [Act.put]); (try simp only [List.setIfInBounds_toArray]); (try simp only [List.set_cons_succ, List.set_cons_zero])
                    refine E_take (i := 8) (.pointer (some ⟨w.heap.size + 1, 1, none⟩)) (by simp only [List.getElem?_toArray, List.getElem?_cons_succ, List.getElem?_cons_zero]; rfl) (by kernel_rfl) (by kernel_rfl) (by kernel_rfl) (by kernel_rfl) (by kernel_rfl) (by exact fun _ _ _ h => h) (by rfl) (by intro W hW; obtain ⟨h1, h2, h3⟩ := hW; go_simp) hSd ?_
                    (try simp only [Act.put]); (try simp only [List.setIfInBounds_toArray]); (try simp only [List.set_cons_succ, List.set_cons_zero])
                    refine E_take (i := 9) (.slice (some od) l.length oc) (by simp only [List.getElem?_toArray, List.getElem?_cons_succ, List.getElem?_cons_zero]; rfl) (by kernel_rfl) (by kernel_rfl) (by kernel_rfl) (by kernel_rfl) (by kernel_rfl) (by exact fun _ _ _ h => h) (by rfl) (by intro W hW; obtain ⟨h1, h2, h3⟩ := hW; go_simp) hSd ?_
                    (try simp only [Act.put]); (try simp only [List.setIfInBounds_toArray]); (try simp only [List.set_cons_succ, List.set_cons_zero])
                    refine E_take (i := 10) (.int .i64 (n : Int)) (by simp only [List.getElem?_toArray, List.getElem?_cons_succ, List.getElem?_cons_zero]; rfl) (by kernel_rfl) (by kernel_rfl) (by kernel_rfl) (by kernel_rfl) (by kernel_rfl) (by exact fun _ _ _ h => h) (by rfl) (by intro W hW; obtain ⟨h1, h2, h3⟩ := hW; go_simp) hSd ?_
                    (try simp only [Act.put]); (try simp only [List.setIfInBounds_toArray]); (try simp only [List.set_cons_succ, List.set_cons_zero])
                    refine E_take (i := 11) (.slice (some (od.add (n * 2))) (l.length - n) (oc - n)) (by simp only [List.getElem?_toArray, List.getElem?_cons_succ, List.getElem?_cons_zero]; rfl) (by kernel_rfl) (by kernel_rfl) (by kernel_rfl) (by kernel_rfl) (by kernel_rfl) (by exact fun _ _ _ h => h) (by rfl) (by intro W hW; obtain ⟨h1, h2, h3⟩ := hW; go_simp) hSd ?_
                    (try simp only [Act.put]); (try simp only [List.setIfInBounds_toArray]); (try simp only [List.set_cons_succ, List.set_cons_zero])
                    refine E_two (i := 4) (k := 6) (by kernel_rfl) (by simp only [List.getElem?_toArray, List.getElem?_cons_succ, List.getElem?_cons_zero]; rfl) (by simp only [List.getElem?_toArray, List.getElem?_cons_succ, List.getElem?_cons_zero]; rfl) (fun K hK => ?_) (fun K hK => ?_)
                    · have hBd : Below wy.heap.size wy wy.drew := (Below.refl _ _).drew
                      refine step_append_any rfl _ _ 26 rfl wy.heap.size 53 i0 (.agg #[.int .u64 0, .int .u64 0]) 2 16 Tryd.underlying26 hi hz0 hz1 hz2 rfl (by decide) (.slice none 0 0) 0 [] rfl (World.ownsRow_nil _ _ _ _) (some od) n oc ((l.take n).flatMap pairCells) rfl (by rw [flat_pairs_length, List.length_take]; omega) (news_first hPy (hBd) hn) (pairs_one _) (by unfold maxLen; omega) (by omega) ((hBd).size) ?_
                      intro S1 cap1 w1 own1 grow1
                      simp only [Nat.zero_add, List.nil_append] at own1 ⊢
                      have hB1 : Below wy.heap.size wy w1 := Below.grown (hBd) grow1 (hBd).size (fun k h => by cases h)
                      refine hK _ _ (fun _ => ⟨(qy.on (hB1)).two.2, (py.on (hB1)).two.1, (py.on (hB1)).two.2⟩) ?_
                      clear hK K
                      (try simp only [Act.put]); (try simp only [List.setIfInBounds_toArray]); (try simp only [List.set_cons_succ, List.set_cons_zero])
                      refine E_one (i := 6) (by kernel_rfl) (by simp only [List.getElem?_toArray, List.getElem?_cons_succ, List.getElem?_cons_zero]; rfl) (fun K hK => ?_)
                      go_simp
                      refine hK _ _ (fun _ => ⟨(qy.on (hB1.alloc hB1.size (.cells #[.int .u64 (p1 : Int), .int .u64 (p2 : Int)] 53))).two.2, (py.on (hB1.alloc hB1.size (.cells #[.int .u64 (p1 : Int), .int .u64 (p2 : Int)] 53))).two.1, (py.on (hB1.alloc hB1.size (.cells #[.int .u64 (p1 : Int), .int .u64 (p2 : Int)] 53))).two.2⟩) ?_
                      clear hK K
                      (try simp only [Act.put]); (try simp only [List.setIfInBounds_toArray]); (try simp only [List.set_cons_succ, List.set_cons_zero])
                      refine E_one (i := 7) (by kernel_rfl) (by simp only [List.getElem?_toArray, List.getElem?_cons_succ, List.getElem?_cons_zero]; rfl) (fun K hK => ?_)
                      refine step_append_any rfl _ _ 26 rfl wy.heap.size 53 i0 (.agg #[.int .u64 0, .int .u64 0]) 2 16 Tryd.underlying26 hi hz0 hz1 hz2 rfl (by decide) (.slice S1 n cap1) n _ rfl (own1.alloc _) _ 1 1 [.int .u64 (p1 : Int), .int .u64 (p2 : Int)] rfl rfl (fun _ => ⟨_, rfl, news_pair (RowAt.new w1 53 #[.int .u64 (p1 : Int), .int .u64 (p2 : Int)])⟩) (by intro u hu0; simp at hu0; rcases hu0 with rfl | rfl <;> rfl) (by unfold maxLen; omega) (by omega) ((hB1.alloc hB1.size (.cells #[.int .u64 (p1 : Int), .int .u64 (p2 : Int)] 53)).size) ?_
                      intro S2 cap2 w2 own2 grow2
                      have hB2 : Below wy.heap.size wy w2 := Below.grown (hB1.alloc hB1.size (.cells #[.int .u64 (p1 : Int), .int .u64 (p2 : Int)] 53)) grow2 (hB1.alloc hB1.size (.cells #[.int .u64 (p1 : Int), .int .u64 (p2 : Int)] 53)).size (fun k h => (own1.lt k h).1)
                      refine hK _ _ (fun _ => ⟨(qy.on (hB2)).two.2, (py.on (hB2)).two.1, (py.on (hB2)).two.2⟩) ?_
                      clear hK K
                      (try simp only [Act.put]); (try simp only [List.setIfInBounds_toArray]); (try simp only [List.set_cons_succ, List.set_cons_zero])
                      refine E_one (i := 12) (by kernel_rfl) (by simp only [List.getElem?_toArray, List.getElem?_cons_succ, List.getElem?_cons_zero]; rfl) (fun K hK => ?_)
                      refine step_append_any rfl _ _ 26 rfl wy.heap.size 53 i0 (.agg #[.int .u64 0, .int .u64 0]) 2 16 Tryd.underlying26 hi hz0 hz1 hz2 rfl (by decide) (.slice S2 (n + 1) cap2) (n + 1) _ rfl own2 (some (od.add (n * 2))) (l.length - n) (oc - n) ((l.drop n).flatMap pairCells) rfl (by rw [flat_pairs_length, List.length_drop]) (news_rest hPy hB2) (pairs_one _) (by unfold maxLen; omega) (by omega) hB2.size ?_
                      intro S3 cap3 w3 own3 grow3
                      have hB3 : Below wy.heap.size wy w3 := Below.grown hB2 grow3 hB2.size (fun k h => (own2.lt k h).1)
                      refine hK _ _ (fun _ => ⟨(qy.on (hB3)).two.2, (py.on (hB3)).two.1, (py.on (hB3)).two.2⟩) ?_
                      clear hK K
                      (try simp only [Act.put]); (try simp only [List.setIfInBounds_toArray]); (try simp only [List.set_cons_succ, List.set_cons_zero])
                      have q3 := qy.on hB3
                      obtain ⟨z0, z1⟩ := q3.two
                      have g3 := q3.frozen 1
                      refine E_one (i := 13) (by kernel_rfl) (by simp only [List.getElem?_toArray, List.getElem?_cons_succ, List.getElem?_cons_zero]; rfl) (fun K hK => ?_)
                      go_simp
                      refine hK _ _ (fun _ => ⟨(qy.on (hB3)).two.2, (py.on (hB3)).two.1, (py.on (hB3)).two.2⟩) ?_
                      clear hK K
                      (try simp only [Act.put]); (try simp only [List.setIfInBounds_toArray]); (try simp only [List.set_cons_succ, List.set_cons_zero])
                      refine E_one (i := 14) (by kernel_rfl) (by simp only [List.getElem?_toArray, List.getElem?_cons_succ, List.getElem?_cons_zero]; rfl) (fun K hK => ?_)
                      go_simp
                      refine hK _ _ (fun h => absurd rfl h) ?_
                      clear hK K
                      refine E_done (by kernel_rfl) ?_ _
                      obtain ⟨t1, t2, t3, t4⟩ := tok_end (by omega) own3 hB3 qy (by omega) (by omega) hbwy HIN.out
                      clear own1 own2 own3 grow1 grow2 grow3
                      go_simp
                      go_wp2_with fail
                      go_roundw
                      case rel => exact ⟨k + 1, _, by omega, by omega, by go_num, t1, by rw [HTS.out]; exact t2, t3, t4⟩
                      case measure => simp [intOf]; omega
                    · have hBd : Below wy.heap.size wy (wy.drew.alloc (.cells #[.int .u64 (p1 : Int), .int .u64 (p2 : Int)] 53)) := ((Below.refl _ _).drew).alloc (Nat.le_refl _) _
                      go_simp
                      refine hK _ _ (fun _ => ⟨(qy.on (hBd)).two.2, (py.on (hBd)).two.1, (py.on (hBd)).two.2⟩) ?_
                      clear hK K
                      (try simp only [Act.put]); (try simp only [List.setIfInBounds_toArray]); (try simp only [List.set_cons_succ, List.set_cons_zero])
                      refine E_one (i := 4) (by kernel_rfl) (by simp only [List.getElem?_toArray, List.getElem?_cons_succ, List.getElem?_cons_zero]; rfl) (fun K hK => ?_)
                      refine step_append_any rfl _ _ 26 rfl wy.heap.size 53 i0 (.agg #[.int .u64 0, .int .u64 0]) 2 16 Tryd.underlying26 hi hz0 hz1 hz2 rfl (by decide) (.slice none 0 0) 0 [] rfl (World.ownsRow_nil _ _ _ _) (some od) n oc ((l.take n).flatMap pairCells) rfl (by rw [flat_pairs_length, List.length_take]; omega) (news_first hPy (hBd) hn) (pairs_one _) (by unfold maxLen; omega) (by omega) ((hBd).size) ?_
                      intro S1 cap1 w1 own1 grow1
                      simp only [Nat.zero_add, List.nil_append] at own1 ⊢
                      have hB1 : Below wy.heap.size wy w1 := Below.grown (hBd) grow1 (hBd).size (fun k h => by cases h)
                      refine hK _ _ (fun _ => ⟨(qy.on (hB1)).two.2, (py.on (hB1)).two.1, (py.on (hB1)).two.2⟩) ?_
                      clear hK K
                      (try simp only [Act.put]); (try simp only [List.setIfInBounds_toArray]); (try simp only [List.set_cons_succ, List.set_cons_zero])
                      have rB : RowAt w1 wy.heap.size 53 [.int .u64 (p1 : Int), .int .u64 (p2 : Int)] := RowAt.grown (RowAt.new wy.drew 53 #[.int .u64 (p1 : Int), .int .u64 (p2 : Int)]) grow1 (by simp [Value.ownBlock])
                      refine E_one (i := 7) (by kernel_rfl) (by simp only [List.getElem?_toArray, List.getElem?_cons_succ, List.getElem?_cons_zero]; rfl) (fun K hK => ?_)
                      refine step_append_any rfl _ _ 26 rfl wy.heap.size 53 i0 (.agg #[.int .u64 0, .int .u64 0]) 2 16 Tryd.underlying26 hi hz0 hz1 hz2 rfl (by decide) (.slice S1 n cap1) n _ rfl (own1) _ 1 1 [.int .u64 (p1 : Int), .int .u64 (p2 : Int)] rfl rfl (fun _ => ⟨_, rfl, news_pair (rB)⟩) (by intro u hu0; simp at hu0; rcases hu0 with rfl | rfl <;> rfl) (by unfold maxLen; omega) (by omega) ((hB1).size) ?_
                      intro S2 cap2 w2 own2 grow2
                      have hB2 : Below wy.heap.size wy w2 := Below.grown (hB1) grow2 (hB1).size (fun k h => (own1.lt k h).1)
                      refine hK _ _ (fun _ => ⟨(qy.on (hB2)).two.2, (py.on (hB2)).two.1, (py.on (hB2)).two.2⟩) ?_
                      clear hK K
                      (try simp only [Act.put]); (try simp only [List.setIfInBounds_toArray]); (try simp only [List.set_cons_succ, List.set_cons_zero])
                      refine E_one (i := 12) (by kernel_rfl) (by simp only [List.getElem?_toArray, List.getElem?_cons_succ, List.getElem?_cons_zero]; rfl) (fun K hK => ?_)
                      refine step_append_any rfl _ _ 26 rfl wy.heap.size 53 i0 (.agg #[.int .u64 0, .int .u64 0]) 2 16 Tryd.underlying26 hi hz0 hz1 hz2 rfl (by decide) (.slice S2 (n + 1) cap2) (n + 1) _ rfl own2 (some (od.add (n * 2))) (l.length - n) (oc - n) ((l.drop n).flatMap pairCells) rfl (by rw [flat_pairs_length, List.length_drop]) (news_rest hPy hB2) (pairs_one _) (by unfold maxLen; omega) (by omega) hB2.size ?_
                      intro S3 cap3 w3 own3 grow3
                      have hB3 : Below wy.heap.size wy w3 := Below.grown hB2 grow3 hB2.size (fun k h => (own2.lt k h).1)
                      refine hK _ _ (fun _ => ⟨(qy.on (hB3)).two.2, (py.on (hB3)).two.1, (py.on (hB3)).two.2⟩) ?_
                      clear hK K
                      (try simp only [Act.put]); (try simp only [List.setIfInBounds_toArray]); (try simp only [List.set_cons_succ, List.set_cons_zero])
                      have q3 := qy.on hB3
                      obtain ⟨z0, z1⟩ := q3.two
                      have g3 := q3.frozen 1
                      refine E_one (i := 13) (by kernel_rfl) (by simp only [List.getElem?_toArray, List.getElem?_cons_succ, List.getElem?_cons_zero]; rfl) (fun K hK => ?_)
                      go_simp
                      refine hK _ _ (fun _ => ⟨(qy.on (hB3)).two.2, (py.on (hB3)).two.1, (py.on (hB3)).two.2⟩) ?_
                      clear hK K
                      (try simp only [Act.put]); (try simp only [List.setIfInBounds_toArray]); (try simp only [List.set_cons_succ, List.set_cons_zero])
                      refine E_one (i := 14) (by kernel_rfl) (by simp only [List.getElem?_toArray, List.getElem?_cons_succ, List.getElem?_cons_zero]; rfl) (fun K hK => ?_)
                      go_simp
                      refine hK _ _ (fun h => absurd rfl h) ?_
                      clear hK K
                      refine E_done (by kernel_rfl) ?_ _
                      obtain ⟨t1, t2, t3, t4⟩ := tok_end (by omega) own3 hB3 qy (by omega) (by omega) hbwy HIN.out
                      clear own1 own2 own3 grow1 grow2 grow3
                      go_simp
                      go_wp2_with fail
                      go_roundw
                      case rel => exact ⟨k + 1, _, by omega, by omega, by go_num, t1, by rw [HTS.out]; exact t2, t3, t4⟩
                      case measure => simp [intOf]; omega
            · have hn0 : 0 < n := by omega
              obtain ⟨j, rfl⟩ : ∃ j, n = j + 1 := ⟨n - 1, by omega⟩
              have hj : j < l.length := by omega
              have h1' : aheadB (p1, p2) l[j] = true := by
                cases h : aheadB (p1, p2) l[j]
                · exact absurd (.inr ⟨hj, h⟩) hex
                · rfl
              obtain ⟨od, rfl, s1, s2⟩ := hPi.cells (Below.refl _ _) hj
              have cA := fun W => rAhead_at (p1, p2) l[j] W
              rw [h1'] at cA
              simp only at cA
              have ej : ((j + 1 : Nat) : Int) - 1 = (j : Int) := by omega
              have hk0 : ((0 : Int) < ((j + 1 : Nat) : Int)) = True := eq_true (by omega)
              have HAB := Lib.hid (show ∀ i (hi : i < l.length), j ≤ i → aheadB (p1, p2) l[i] = true from fun i hi hji => by
                rcases Nat.lt_or_ge j i with h | h
                · exact hab i hi h
                · obtain rfl : j = i := by omega
                  exact h1')
              clear h1' hex hab
              generalize (l[j]).1 = q1 at *
              generalize (l[j]).2 = q2 at *
              go_wp2_with fail
              refine wp_region_later (by kernel_rfl) (by kernel_rfl) ?_
              repeat (go_big_quiet_step (first | (go_at_call 45; exact later_of (cA _))))
              refine wpQuiet_nil ?_
              intro _ hw'
              obtain ⟨pq, rfl⟩ := hw'
              have hbn := bstep hbi pq.h hbi.size
              clear d0 d1 e0 e1 s1 s2
              generalize pq.W = w3 at *
              go_wp2_with fail
              go_roundw
              case rel => exact ⟨j, by omega, by go_num, HAB.out, hbn⟩
              case measure => simp [intOf]
      · have hT : tokTo raw k = tokL raw := by unfold tokL; rw [show k = 30 by omega]
        have hi1 : ((k : Int) < (raw.length : Int)) = True := eq_true (by omega)
        have hi1n : (k < raw.length) = True := eq_true hlt
        have hi6 : ((k : Int) < 30) = False := eq_false (by omega)
        have hi6n : (k < 30) = False := eq_false hlt30
        rw [hT] at hP
        obtain ⟨O, oc, rfl, hoc⟩ := hP.form
        have hr : RowAt wr w.heap.size 28 [.bool false, .slice none 0 0] := r0.below hb (Nat.lt_succ_self _)
        obtain ⟨x0, x1⟩ := q.two
        obtain ⟨y0, y1⟩ := hr.two
        have f0 := hr.frozen 0
        have f1 := hr.frozen 1
        obtain ⟨r6, hb6⟩ := set_two hbw (Nat.le_refl _) hr (.bool f) (.slice O (tokL raw).length oc)
        obtain ⟨d0, d1⟩ := r6.two
        have hfr : FromOn (w.heap.size + 1) (.slice O (tokL raw).length oc) := hF.less (by have := HSZ.out; omega)
        have hP6 := ((hP.setCell hfr (p := ⟨w.heap.size, 0, none⟩) (by show w.heap.size < _; omega) (.bool f)).setCell hfr (p := ⟨w.heap.size, 1, none⟩) (by show w.heap.size < _; omega) (.slice O (tokL raw).length oc))
        clear hT hI
        go_wp2_with fail
        refine bodyPost_ret (v := .agg #[.bool f, .slice O (tokL raw).length oc]) (by simp [results, Tryd.results21, go_sem, d0, d1]) rfl ?_
        refine ⟨_, rfl, ⟨_, rfl, ?_⟩, hb6, Newer.of (hfr.less (Nat.le_succ _))⟩
        simpa [World.setCell] using hP6
    · have hT : tokTo raw k = tokL raw := by
        unfold tokL tokTo
        rw [List.take_of_length_le (by omega), List.take_of_length_le (by omega)]
      have hi1 : ((k : Int) < (raw.length : Int)) = False := eq_false (by omega)
      have hi1n : (k < raw.length) = False := eq_false hlt
      rw [hT] at hP
      obtain ⟨O, oc, rfl, hoc⟩ := hP.form
      have hr : RowAt wr w.heap.size 28 [.bool false, .slice none 0 0] := r0.below hb (Nat.lt_succ_self _)
      obtain ⟨x0, x1⟩ := q.two
      obtain ⟨y0, y1⟩ := hr.two
      have f0 := hr.frozen 0
      have f1 := hr.frozen 1
      obtain ⟨r6, hb6⟩ := set_two hbw (Nat.le_refl _) hr (.bool f) (.slice O (tokL raw).length oc)
      obtain ⟨d0, d1⟩ := r6.two
      have hfr : FromOn (w.heap.size + 1) (.slice O (tokL raw).length oc) := hF.less (by have := HSZ.out; omega)
      have hP6 := ((hP.setCell hfr (p := ⟨w.heap.size, 0, none⟩) (by show w.heap.size < _; omega) (.bool f)).setCell hfr (p := ⟨w.heap.size, 1, none⟩) (by show w.heap.size < _; omega) (.slice O (tokL raw).length oc))
      clear hT hI
      go_wp2_with fail
      refine bodyPost_ret (v := .agg #[.bool f, .slice O (tokL raw).length oc]) (by simp [results, Tryd.results21, go_sem, d0, d1]) rfl ?_
      refine ⟨_, rfl, ⟨_, rfl, ?_⟩, hb6, Newer.of (hfr.less (Nat.le_succ _))⟩
      simpa [World.setCell] using hP6
theorem Token_any (v : Value) (raw : List Int) (f : Bool) (w : World) (hv : Ints w w.heap.size v raw) (hI : ∀ r ∈ raw, I64 r) (h9 : raw.length ≤ maxLen) :
    Calls Tryd.prog 21 #[v, .bool f] w fun e w' => ∃ x, e = .returned x ∧ Tk w' x f (tokL raw) ∧ Below w.heap.size w w' :=
  (Token_new v raw f w hv hI h9).mono fun e w' ⟨x, h1, h2, h3, _⟩ => ⟨x, h1, h2, h3⟩
end Go.Proofs.YtjipibpcnheniaaDoor
