/- bits.Union. -/
import Derived.Test.YthlajfoipafaaaaDoorBitE
import Derived.Deep.RegionWith
import Derived.Deep.Cut
namespace Go.Proofs.YthlajfoipafaaaaDoor
open Go.RowKit Go.Shelf

/-- The slice value v reads as the bits bs. -/
def BtRow (w : World) (v : Value) (bs : List (Int × List Int)) : Prop :=
  ∃ A c, v = .slice A bs.length c ∧ bs.length ≤ c ∧ (0 < bs.length → ∃ ad : Addr, A = some ad ∧ ad.block < w.heap.size ∧ ∀ j b, bs[j]? = some b → ∃ u, w.cell? (ad.add (j * 2)) = some (.int .i64 b.1) ∧ w.cell? (ad.add (j * 2 + 1)) = some u ∧ Ints w w.heap.size u b.2)
theorem BtRow.on {w w' : World} {v : Value} {bs : List (Int × List Int)} (h : BtRow w v bs) (hb : Below w.heap.size w w') : BtRow w' v bs := by
  obtain ⟨A, c, hv, hc, ha⟩ := h
  refine ⟨A, c, hv, hc, fun h0 => ?_⟩
  obtain ⟨ad, e, hb1, hcell⟩ := ha h0
  refine ⟨ad, e, Nat.lt_of_lt_of_le hb1 hb.size, fun j b hj => ?_⟩
  obtain ⟨u, h1, h2, h3⟩ := hcell j b hj
  exact ⟨u, (hb.cell (by rw [add_block]; exact hb1)).trans h1, (hb.cell (by rw [add_block]; exact hb1)).trans h2, h3.on hb⟩
theorem BtRow.form {w : World} {v : Value} {bs : List (Int × List Int)} (h : BtRow w v bs) : ∃ A c, v = .slice A bs.length c ∧ bs.length ≤ c := by
  obtain ⟨A, c, hv, hc, _⟩ := h
  exact ⟨A, c, hv, hc⟩
theorem BtRow.at_ {w : World} {A : Option Addr} {n c k : Nat} {bs : List (Int × List Int)} (h : BtRow w (.slice A n c) bs) (hk : k < bs.length) :
    ∃ (ad : Addr) (u : Value), A = some ad ∧ ad.block < w.heap.size ∧ w.cell? (ad.add (k * 2)) = some (.int .i64 bs[k].1) ∧ w.cell? ⟨(ad.add (k * 2)).block, (ad.add (k * 2)).off + 1, none⟩ = some u ∧ Ints w w.heap.size u bs[k].2 := by
  obtain ⟨A', c', hv, _, ha⟩ := h
  injection hv with h1 h2 h3
  subst h1
  obtain ⟨ad, e, hb, hc⟩ := ha (by omega)
  obtain ⟨u, c1, c2, c3⟩ := hc k _ (List.getElem?_eq_getElem hk)
  rw [← add_add] at c2
  exact ⟨ad, u, e, hb, c1, c2, c3⟩
theorem BtRow.nil (w : World) : BtRow w (.slice none 0 0) [] := ⟨none, 0, rfl, Nat.le_refl _, fun h => absurd h (by simp)⟩

def likeB (n : Int) (b : Int × List Int) : Bool := rightB b.1 b.2 && decide (b.1 = n)
/-- What Union answers. -/
def unionOf (n : Int) (on : List Int) (more : List (Int × List Int)) : Int × List Int × Int :=
  if rightB n on && more.all (likeB n) then (n, onsOf (putBits (vecOf n on) (more.flatMap (·.2))), 0) else (0, [], 1)

theorem unionOf_no (n : Int) (on : List Int) (more : List (Int × List Int)) : (∃ b ∈ more, likeB n b = false) → unionOf n on more = (0, [], 1) := by
  rintro ⟨b, hb, h⟩
  unfold unionOf
  rw [if_neg]
  simp only [Bool.and_eq_true, List.all_eq_true, not_and, Classical.not_forall]
  exact fun _ => ⟨b, hb, by simp [h]⟩
theorem unionOf_yes (n : Int) (on : List Int) (more : List (Int × List Int)) (hr : rightB n on = true) : (∀ b ∈ more, likeB n b = true) → unionOf n on more = (n, onsOf (putBits (vecOf n on) (more.flatMap (·.2))), 0) := by
  intro h
  unfold unionOf
  rw [if_pos]
  simp only [Bool.and_eq_true, List.all_eq_true]
  exact ⟨hr, h⟩

end Go.Proofs.YthlajfoipafaaaaDoor
