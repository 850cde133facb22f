/- Layer 7: Sign and Check with their answers named; small words for its laws. -/
import Derived.Test.YtjjccoliknngcaaOrcU
import Derived.Test.YtjjccoliknngcaaOrcV
import Derived.OpenShut
namespace Go.Proofs.Ytjjccoliknngcaa
open Go.RowKit Go.Lib

/-- Sign of few keys, with the answer named. -/
theorem Sign_eq (r : Nat) (v : Value) (ks : List Nat) (l : List Pr) (hl : signL r ks = l) (w : World) (hv : Wds w w.heap.size v ks) (h9 : ks.length ≤ 2048) :
    Calls Try.prog 25 #[.int .u64 r, v] w fun e w' => ∃ A c, e = .returned (.tuple #[.agg #[.bool false, .slice A l.length c], .int .i64 0]) ∧ Prs w' w'.heap.size (.slice A l.length c) l ∧ Below w.heap.size w w' := by
  have := oSign_any r v ks w hv (by unfold maxLen; omega)
  unfold signO at this
  rw [if_neg (by omega), hl] at this
  exact this
theorem Check_eq (A K P : Option Addr) (n c kn kc pn pc : Nat) (t l : List Pr) (ks : List Nat) (root : Nat) (f b : Bool) (hb : checkO t ks root f l = b) (hn : kn = ks.length) (hp : pn = l.length) (w : World) (hv : Prs w w.heap.size (.slice A n c) t) (hK : Wds w w.heap.size (.slice K kn kc) ks) (hP : Prs w w.heap.size (.slice P pn pc) l)
    (hfit : ∀ x ∈ ks, x < 18446744073709551616) (h9 : t.length ≤ 100000) (h9k : ks.length ≤ 100000) (h9l : l.length ≤ 100000) :
    Calls Try.prog 21 #[.slice A n c, .agg #[.slice K kn kc, .int .u64 root, .bool f, .slice P pn pc]] w fun e w' => e = .returned (.bool b) ∧ Below w.heap.size w w' := by
  subst hn hp hb
  exact oCheck_any (.slice A n c) t K P kc pc ks root f l w hv hK hP hfit h9 h9k h9l

theorem Elems.form' {α : Type} {enc : α → Value} {w : World} {B : Nat} {A : Option Addr} {l c : Nat} {xs : List α} (h : Elems enc w B (.slice A l c) xs) : xs.length ≤ c := by
  obtain ⟨A', c', hv, hc, _⟩ := h
  injection hv with h1 h2 h3
  subst h3
  exact hc
/-- A slice's elements from the n-th on. -/
theorem Elems.past {α : Type} {enc : α → Value} {w : World} {B : Nat} {A : Option Addr} {l c : Nat} {xs : List α} (h : Elems enc w B (.slice A l c) xs) (n : Nat) (hn : n ≤ xs.length) : Elems enc w B (.slice (if c = n then A else A.map (fun x => x.add n)) (xs.length - n) (c - n)) (xs.drop n) := by
  obtain ⟨A', c', hv, hc, ha⟩ := h
  injection hv with h1 h2 h3
  subst h1; subst h3
  refine ⟨_, c - n, by rw [List.length_drop], by rw [List.length_drop]; omega, fun h0 => ?_⟩
  rw [List.length_drop] at h0
  obtain ⟨ad, e, hb, hcell⟩ := ha (by omega)
  subst e
  refine ⟨ad.add n, by rw [if_neg (by omega)]; rfl, by rw [add_block]; exact hb, fun j s hs => ?_⟩
  rw [add_add]
  rw [List.getElem?_drop] at hs
  exact hcell (n + j) s hs

theorem tableO_right {t : List Pr} (h : Rise t) (hl : t.length ≤ 60) : rightO t = true := (rightO_iff _).2 ⟨by omega, h⟩
theorem sign_one (r k : Nat) : signL r [k] = [(k, r)] := by simp [signL, ins, nil_mrg]
theorem check_none (t : List Pr) (r : Nat) (f : Bool) (l : List Pr) : checkO t [] r f l = false := by unfold checkO; simp
theorem merge_ways {x1 x2 x3 : Bool} {n l : Nat} (h1 : x1 = true → x2 = true → x3 = true) (h2 : x3 = true → 0 < n → x1 = true) (h3 : x3 = true → n < l → x2 = true) (zP : n = 0 → x1 = false) (zR : n = l → x2 = false) (hn : n ≤ l) :
    (x3 = false ∧ x1 = false) ∨ (x3 = false ∧ x1 = true ∧ x2 = false) ∨ (x3 = true ∧
      ((((0 : Int) < n) = True ∧ (0 < n) = True ∧ ((n : Int) < l) = True ∧ (n < l) = True ∧ x1 = true ∧ x2 = true) ∨
       (((0 : Int) < n) = True ∧ (0 < n) = True ∧ ((n : Int) < l) = False ∧ (n < l) = False ∧ x1 = true ∧ x2 = false) ∨
       (((0 : Int) < n) = False ∧ (0 < n) = False ∧ ((n : Int) < l) = True ∧ (n < l) = True ∧ x1 = false ∧ x2 = true) ∨
       (((0 : Int) < n) = False ∧ (0 < n) = False ∧ ((n : Int) < l) = False ∧ (n < l) = False ∧ x1 = false ∧ x2 = false))) := by
  cases x3
  · cases x1
    · exact .inl ⟨rfl, rfl⟩
    · cases x2
      · exact .inr (.inl ⟨rfl, rfl, rfl⟩)
      · exact absurd (h1 rfl rfl) (by simp)
  · refine .inr (.inr ⟨rfl, ?_⟩)
    by_cases a : 0 < n <;> by_cases b : n < l
    · exact .inl ⟨eq_true (by omega), eq_true a, eq_true (by omega), eq_true b, h2 rfl a, h3 rfl b⟩
    · exact .inr (.inl ⟨eq_true (by omega), eq_true a, eq_false (by omega), eq_false b, h2 rfl a, zR (by omega)⟩)
    · exact .inr (.inr (.inl ⟨eq_false (by omega), eq_false a, eq_true (by omega), eq_true b, zP (by omega), h3 rfl b⟩))
    · exact .inr (.inr (.inr ⟨eq_false (by omega), eq_false a, eq_false (by omega), eq_false b, zP (by omega), zR (by omega)⟩))
theorem two_toks {w : World} {g : Nat} {t : TypeId} {f h : Bool} {u v : Value} {a b : List Pr} (hr : RowAt w g t [.bool f, u, .bool h, v]) (hu : Prs w w.heap.size u a) (hv : Prs w w.heap.size v b) : TkRow w (.slice (some ⟨g, 0, none⟩) 2 2) [(f, a), (h, b)] :=
  TkRow.of (xs := [(f, u), (h, v)]) hr (.cons ⟨_, rfl, hu⟩ (.cons ⟨_, rfl, hv⟩ (.nil _)))
theorem Tk.of {w : World} {f : Bool} {v : Value} {l : List Pr} (h : Prs w w.heap.size v l) : Tk w (.agg #[.bool f, v]) f l := ⟨_, rfl, h⟩
theorem two_max {f h : Bool} {a b : List Pr} (ha : a.length ≤ maxLen) (hb : b.length ≤ maxLen) : ∀ t ∈ [(f, a), (h, b)], t.2.length ≤ maxLen := by
  intro t ht
  simp at ht
  rcases ht with rfl | rfl
  · exact ha
  · exact hb

end Go.Proofs.Ytjjccoliknngcaa
