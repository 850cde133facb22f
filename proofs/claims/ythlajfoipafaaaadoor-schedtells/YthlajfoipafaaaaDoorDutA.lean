/- Package duty's small functions: whether a slot may be, an epoch of a chain, how many committees, where one begins, who holds a number, the seed, a committee's number. -/
import Derived.Test.YthlajfoipafaaaaDoorShuF
import Derived.Test.YthlajfoipafaaaaDoorClkD
import Derived.Test.YthlajfoipafaaaaDoorLagL
namespace Go.Proofs.YthlajfoipafaaaaDoor
open Go.RowKit Go.Lib

/-- Both variables lie as they were laid. -/
def Both (w : World) : Prop := Tab w ∧ Spans w
theorem Both.on {w w' : World} (h : Both w) (hb : Below w.heap.size w w') : Both w' := ⟨h.1.on hb, h.2.on hb⟩
/-- A chain that fits. -/
structure FitD (V S C N T D R K G : Nat) : Prop where
  v1 : 1 ≤ V
  v2 : V ≤ 1024
  s1 : 1 ≤ S
  s2 : S ≤ 32
  c1 : 1 ≤ C
  c2 : C ≤ 8
  n1 : 1 ≤ N
  n2 : N ≤ 64
  t1 : 1 ≤ T
  t2 : T ≤ 1000
  d2 : D ≤ T
  r1 : 1 ≤ R
  r2 : R ≤ 64
  k2 : K ≤ 90
  g1 : 1 ≤ G
  g2 : G ≤ 16
theorem FitD.fits {V S C N T D R K G : Nat} (h : FitD V S C N T D R K G) : fitsC V S C N T D R K G = true := by
  obtain ⟨_, _, _, _, _, _, _, _, _, _, _, _, _, _, _, _⟩ := h
  rw [fitsC_iff]; omega
theorem fit_nat {v s c n t d r k g : Int} (h : fitsC v s c n t d r k g = true) : ∃ V S C N T D R K G : Nat, v = V ∧ s = S ∧ c = C ∧ n = N ∧ t = T ∧ d = D ∧ r = R ∧ k = K ∧ g = G ∧ FitD V S C N T D R K G := by
  rw [fitsC_iff] at h
  exact ⟨v.toNat, s.toNat, c.toNat, n.toNat, t.toNat, d.toNat, r.toNat, k.toNat, g.toNat, by omega, by omega, by omega, by omega, by omega, by omega, by omega, by omega, by omega, by omega, by omega, by omega, by omega, by omega, by omega, by omega, by omega, by omega, by omega, by omega, by omega, by omega, by omega, by omega, by omega⟩
/-- How many committees an epoch has. -/
def numC (S C : Nat) : Nat := S * C
theorem numC_bd {S C : Nat} (h1 : 1 ≤ S) (h2 : S ≤ 32) (h3 : 1 ≤ C) (h4 : C ≤ 8) : 1 ≤ numC S C ∧ numC S C ≤ 256 :=
  ⟨Nat.mul_pos h1 h3, Nat.mul_le_mul h2 h4⟩
/-- Where a committee begins. -/
def bndC (V M k : Nat) : Nat := V * k / M
theorem tdiv_nat (a b : Nat) : ((a : Int).tdiv (b : Int)) = ((a / b : Nat) : Int) := by
  rw [Int.tdiv_eq_ediv_of_nonneg (by omega)]; rfl
theorem tmod_nat (a b : Nat) : ((a : Int).tmod (b : Int)) = ((a % b : Nat) : Int) := by
  rw [Int.tmod_eq_emod_of_nonneg (by omega)]; rfl
theorem wrap_small {n : Int} (h0 : 0 ≤ n) (h : n ≤ 9223372036854775807) : IntKind.i64.wrap n = n := IntWalk.i64_in n (by omega)

theorem RowAt.later7 {w : World} {g : Nat} {t : TypeId} {l : List Value} (h : RowAt w g t l) (i : Nat) (v : Value) (hv : l[i]? = some v) : ∀ p : Later w, p.W.cell? ⟨g, i, none⟩ = some v := fun p => by
  rw [(h.on p.h).cell]; exact hv
end Go.Proofs.YthlajfoipafaaaaDoor
