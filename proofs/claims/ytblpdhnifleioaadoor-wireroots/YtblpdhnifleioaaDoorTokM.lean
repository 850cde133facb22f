/- The statements' own Token: of raw numbers, a token that is right. -/
import Derived.Test.YtblpdhnifleioaaDoorTokL
import Derived.Test.YtblpdhnifleioaaDoorAppA
import Derived.Test.YtblpdhnifleioaaDoorRegE
import Derived.Deep.RegionHeld3
import Derived.Deep.AppendLies
import Derived.Deep.CutBlock
import Derived.IntWalk
namespace Go.Proofs.YtblpdhnifleioaaDoor
open Go.RowKit

/-- A raw number's pair. -/
def rawP (r : Int) : Pr := (pickN r 12, pickN (r.tdiv 16) 3)
def tokTo (raw : List Int) (k : Nat) : List Pr := (raw.take k).foldl (fun l r => ins (rawP r) l) []
/-- The pairs of raw numbers: those of at most thirty of them. -/
def tokL (raw : List Int) : List Pr := tokTo raw 30
theorem tokTo_snoc (raw : List Int) (k : Nat) (h : k < raw.length) : tokTo raw (k + 1) = ins (rawP raw[k]) (tokTo raw k) := by
  unfold tokTo
  rw [List.take_succ_eq_append_getElem h, List.foldl_append]; rfl
theorem fold_srt : ∀ (l : List Int) (a : List Pr), srt a = true → srt (l.foldl (fun l r => ins (rawP r) l) a) = true
  | [], _, h => h
  | _ :: l, _, h => fold_srt l _ (ins_srt h)
theorem tokTo_srt (raw : List Int) (k : Nat) : srt (tokTo raw k) = true := fold_srt _ _ rfl
theorem fold_length : ∀ (l : List Int) (a : List Pr), (l.foldl (fun l r => ins (rawP r) l) a).length = a.length + l.length
  | [], a => by simp
  | _ :: l, _ => by rw [List.foldl_cons, fold_length l, ins_length, List.length_cons]; omega
theorem tokTo_length (raw : List Int) (k : Nat) : (tokTo raw k).length = min k raw.length := by
  unfold tokTo; rw [fold_length, List.length_take]; simp
theorem tokL_length (raw : List Int) : (tokL raw).length ≤ 30 := by unfold tokL; rw [tokTo_length]; omega
def Small (p : Pr) : Prop := p.1 < 12 ∧ p.2 < 3
theorem fold_small : ∀ (l : List Int) (a : List Pr), (∀ p ∈ a, Small p) → ∀ p ∈ l.foldl (fun l r => ins (rawP r) l) a, Small p
  | [], _, h => h
  | r :: l, a, h => by
    refine fold_small l _ fun p hp => ?_
    rcases List.mem_cons.1 ((ins_perm _ _).mem_iff.1 hp) with rfl | hp
    · have h1 := pickN_lt r 12 (by decide)
      have h2 := pickN_lt (r.tdiv 16) 3 (by decide)
      exact ⟨by show pickN r 12 < 12; omega, by show pickN (r.tdiv 16) 3 < 3; omega⟩
    · exact h p hp
theorem tokL_small (raw : List Int) : ∀ p ∈ tokL raw, Small p := fold_small _ _ (by simp)
theorem tokL_srt (raw : List Int) : srt (tokL raw) = true := tokTo_srt raw 30
theorem tokL_fit (raw : List Int) : Fit (tokL raw) := fun p hp => by
  have := tokL_small raw p hp
  exact ⟨by have := this.1; omega, by have := this.2; omega⟩
theorem tokL_right (raw : List Int) : rightT (tokL raw) = true := by
  unfold rightT
  rw [tokL_srt, Bool.true_and, decide_eq_true_iff]
  have := tokL_length raw
  omega

theorem wrap_u64 {n : Nat} (h : n < 18446744073709551616) : IntKind.u64.wrap (n : Int) = (n : Int) := by
  rw [IntWalk.u64_in _ (by omega)]
theorem tdiv16 {a : Int} (h : I64 a) : I64 (a.tdiv 16) := by
  unfold I64 at *
  rcases Int.le_total 0 a with k | k
  · rw [Int.tdiv_eq_ediv_of_nonneg k]; omega
  · have e : a.tdiv 16 = -((-a) / 16) := by rw [← Int.tdiv_eq_ediv_of_nonneg (by omega), Int.neg_tdiv, Int.neg_neg]
    rw [e]; omega

theorem news_pair {W : World} {g : Nat} {t : TypeId} {x y : Value} (r : RowAt W g t [x, y]) : ∀ j u, [x, y][j]? = some u → W.cell? ((⟨g, 0, none⟩ : Addr).add j) = some u := by
  intro j u hj
  rw [addr0, r.cell]; exact hj
theorem news_first {wy W : World} {O : Option Addr} {oc n : Nat} {l : List Pr} (hP : Prs wy wy.heap.size (.slice O l.length oc) l) (hb : Below wy.heap.size wy W) (hn : n ≤ l.length) :
    0 < n → ∃ ad, O = some ad ∧ ∀ j u, ((l.take n).flatMap pairCells)[j]? = some u → W.cell? (ad.add j) = some u := by
  intro h0
  have h1 := (hP.below hb (Nat.le_refl _)).first n hn
  obtain ⟨ad, rfl, _⟩ := h1.at_ (k := 0) (by rw [List.length_take]; omega)
  refine ⟨ad, rfl, fun j u hj => ?_⟩
  have := pairs_from h1 0 j u (by simpa using hj)
  rwa [add_add, Nat.zero_mul, Nat.zero_add] at this
theorem news_rest {wy W : World} {od : Addr} {oc n : Nat} {l : List Pr} (hP : Prs wy wy.heap.size (.slice (some od) l.length oc) l) (hb : Below wy.heap.size wy W) :
    0 < l.length - n → ∃ ad, some (od.add (n * 2)) = some ad ∧ ∀ j u, ((l.drop n).flatMap pairCells)[j]? = some u → W.cell? (ad.add j) = some u :=
  fun _ => ⟨_, rfl, pairs_from (hP.below hb (Nat.le_refl _)) n⟩

theorem tok_end {wa wy w3 : World} {G n m cap : Nat} {S : Option Addr} {l : List Pr} {p1 p2 : Nat} {f : Bool} {o : Value} (hm : n + m = l.length)
    (own : w3.ownsRow wy.heap.size 99 2 (.slice S (n + 1 + m) cap) (n + 1 + m) (((l.take n).flatMap pairCells ++ [.int .u64 (p1 : Int), .int .u64 (p2 : Int)]) ++ (l.drop n).flatMap pairCells)) (hB : Below wy.heap.size wy w3)
    (q : RowAt wy G 37 [.bool f, o]) (hG : G < wy.heap.size) (haz : wa.heap.size ≤ wy.heap.size) (hbw : Below G wa wy) (hin : l.take n ++ (p1, p2) :: l.drop n = ins (p1, p2) l) :
    RowAt (w3.setCell ⟨G, 1, none⟩ (.slice S (n + 1 + m) cap)) G 37 [.bool f, .slice S (n + 1 + m) cap] ∧ Prs (w3.setCell ⟨G, 1, none⟩ (.slice S (n + 1 + m) cap)) (w3.setCell ⟨G, 1, none⟩ (.slice S (n + 1 + m) cap)).heap.size (.slice S (n + 1 + m) cap) (ins (p1, p2) l) ∧ FromOn wa.heap.size (.slice S (n + 1 + m) cap) ∧ Below G wa (w3.setCell ⟨G, 1, none⟩ (.slice S (n + 1 + m) cap)) := by
  have e : n + 1 + m = (ins (p1, p2) l).length := by rw [ins_length]; omega
  have R : w3.ownsRow wy.heap.size 99 2 (.slice S (n + 1 + m) cap) (ins (p1, p2) l).length ((ins (p1, p2) l).flatMap pairCells) := by
    rw [← e, ← hin, List.flatMap_append, List.flatMap_cons]
    rw [List.append_assoc] at own
    exact own
  have hne : (Value.slice S (n + 1 + m) cap).ownBlock ≠ some G := fun h => by have := (own.lt G h).1; omega
  have R2 := ownsRow_setCell_other R (a := ⟨G, 1, none⟩) hne (.slice S (n + 1 + m) cap)
  exact ⟨(q.on hB).set 1 _, Prs.own R2, (from_own own).less haz, (hbw.trans (hB.mono (Nat.le_of_lt hG))).setCell (p := ⟨G, 1, none⟩) (Nat.le_refl _) _⟩

theorem Newer.of {lo : Nat} {h v : Value} (hf : FromOn lo v) : Newer lo (.agg #[h, v]) := fun h' ad n c he => by
  injection he with he
  have e2 : #[h, v].toList = #[h', Value.slice (Option.some ad) n c].toList := by rw [he]
  simp at e2
  obtain ⟨_, rfl⟩ := e2
  exact hf _ _ _ rfl
end Go.Proofs.YtblpdhnifleioaaDoor
