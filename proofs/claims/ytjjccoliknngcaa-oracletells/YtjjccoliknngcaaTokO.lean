/- Layer 5's contracts with their answers named, without bytes; rows of tokens. -/
import Derived.Test.YtjjccoliknngcaaTokI
import Derived.Test.YtjjccoliknngcaaTokKo
import Derived.Test.YtjjccoliknngcaaTokM
namespace Go.Proofs.Ytjjccoliknngcaa
open Go.RowKit

theorem small {α : Type} {l : List α} (h : l.length ≤ 1000000) : l.length ≤ maxLen := by unfold maxLen; omega
theorem Tk.named {w : World} {x : Value} {f : Bool} {l : List Pr} (h : Tk w x f l) : ∃ A c, x = .agg #[.bool f, .slice A l.length c] ∧ Tk w (.agg #[.bool f, .slice A l.length c]) f l := by
  obtain ⟨A, c, rfl, _, hv⟩ := h.form
  exact ⟨A, c, rfl, ⟨_, rfl, hv⟩⟩
theorem Tk.prs {w : World} {v : Value} {f g : Bool} {l : List Pr} (h : Tk w (.agg #[.bool f, v]) g l) : Prs w w.heap.size v l := by
  obtain ⟨v', hx, hv⟩ := h
  injection hx with hx
  have : #[Value.bool f, v].toList = #[Value.bool g, v'].toList := by rw [hx]
  simp at this
  rw [this.2]; exact hv
theorem Tk.cap {w : World} {A : Option Addr} {n c : Nat} {f g : Bool} {l : List Pr} (h : Tk w (.agg #[.bool f, .slice A n c]) g l) : l.length ≤ c := by
  obtain ⟨A', c', hv, hc, _⟩ := h.prs
  injection hv with h1 h2 h3
  subst h3
  exact hc.1
/-- A token's two cells. -/
def tokCells (x : Bool × Value) : List Value := [.bool x.1, x.2]
theorem tokCells_get : ∀ (xs : List (Bool × Value)) (j : Nat) (x : Bool × Value), xs[j]? = some x → (xs.flatMap tokCells)[j * 2]? = some (.bool x.1) ∧ (xs.flatMap tokCells)[j * 2 + 1]? = some x.2
  | [], j, x, h => by simp at h
  | y :: xs, 0, x, h => by
    simp at h; subst h
    simp [tokCells]
  | y :: xs, j + 1, x, h => by
    have := tokCells_get xs j x (by simpa using h)
    rw [show (j + 1) * 2 = j * 2 + 2 by omega, List.flatMap_cons]
    simpa [tokCells] using this
def Reads (w : World) (xs : List (Bool × Value)) (ts : List Tok) : Prop := xs.length = ts.length ∧ ∀ (j : Nat) (x : Bool × Value) (t : Tok), xs[j]? = some x → ts[j]? = some t → x.1 = t.1 ∧ Prs w w.heap.size x.2 t.2
theorem Reads.nil (w : World) : Reads w [] [] := ⟨rfl, fun j x t h => by simp at h⟩
theorem Reads.cons {w : World} {v : Value} {f : Bool} {l : List Pr} {xs : List (Bool × Value)} {ts : List Tok} (h : Tk w (.agg #[.bool f, v]) f l) (k : Reads w xs ts) : Reads w ((f, v) :: xs) ((f, l) :: ts) := by
  refine ⟨by simp [k.1], fun j x t hx ht => ?_⟩
  cases j with
  | zero => simp at hx ht; subst hx; subst ht; exact ⟨rfl, h.prs⟩
  | succ j => exact k.2 j x t (by simpa using hx) (by simpa using ht)
theorem TkRow.of {w : World} {g : Nat} {t : TypeId} {xs : List (Bool × Value)} {ts : List Tok} (h : RowAt w g t (xs.flatMap tokCells)) (hr : Reads w xs ts) : TkRow w (.slice (some ⟨g, 0, none⟩) ts.length ts.length) ts := by
  refine ⟨_, ts.length, rfl, Nat.le_refl _, fun _ => ⟨⟨g, 0, none⟩, rfl, h.lt, fun j b hj => ?_⟩⟩
  have hjl : j < xs.length := by
    rw [hr.1]
    rcases Nat.lt_or_ge j ts.length with k | k
    · exact k
    · rw [List.getElem?_eq_none k] at hj; cases hj
  obtain ⟨c1, c2⟩ := tokCells_get xs j _ (List.getElem?_eq_getElem hjl)
  obtain ⟨e1, e2⟩ := hr.2 j _ b (List.getElem?_eq_getElem hjl) hj
  rw [addr0, addr0, h.cell, h.cell]
  exact ⟨_, by rw [c1, e1], c2, e2⟩

theorem One_eq (k r : Nat) (w : World) :
    Calls Try.prog 42 #[.int .u64 k, .int .u64 r] w fun e w' => ∃ A c, e = .returned (.agg #[.bool false, .slice A 1 c]) ∧ Tk w' (.agg #[.bool false, .slice A 1 c]) false [(k, r)] ∧ Below w.heap.size w w' :=
  (One_any k r w).mono fun e w' ⟨x, he, hx, hb⟩ => by obtain ⟨A, c, rfl, h⟩ := hx.named; exact ⟨A, c, he, h, hb⟩
theorem Token_eq (v : Value) (raw : List Int) (f : Bool) (l : List Pr) (w : World) (hl : tokL raw = l) (hv : Ints w w.heap.size v raw) (hI : ∀ r ∈ raw, I64 r) (h9 : raw.length ≤ maxLen) :
    Calls Try.prog 20 #[v, .bool f] w fun e w' => ∃ A c, e = .returned (.agg #[.bool f, .slice A l.length c]) ∧ Tk w' (.agg #[.bool f, .slice A l.length c]) f l ∧ Below w.heap.size w w' :=
  (Token_any v raw f w hv hI h9).mono fun e w' ⟨x, he, hx, hb⟩ => by rw [hl] at hx; obtain ⟨A, c, rfl, h⟩ := hx.named; exact ⟨A, c, he, h, hb⟩
theorem Merge_eq (v : Value) (ts : List Tok) (w : World) (n : Int) (f : Bool) (l : List Pr) (hT : mergeT ts = (n, f, l)) (hv : TkRow w v ts) (h9 : ts.length ≤ 1000000) (h9t : ∀ t ∈ ts, t.2.length ≤ maxLen) :
    Calls Try.prog 28 #[v] w fun e w' => ∃ A c, e = .returned (.tuple #[.agg #[.bool f, .slice A l.length c], .int .i64 n]) ∧ Tk w' (.agg #[.bool f, .slice A l.length c]) f l ∧ Below w.heap.size w w' :=
  (Merge_any v ts w hv h9 h9t).mono fun e w' ⟨x, he, hx, hb⟩ => by rw [hT] at he hx; obtain ⟨A, c, rfl, h⟩ := hx.named; exact ⟨A, c, he, h, hb⟩
theorem Keys_eq (x : Value) (f : Bool) (l : List Pr) (root : Nat) (w : World) (ks : List Nat) (b : Bool) (hT : keysT root l = (ks, b)) (hx : Tk w x f l) (h9 : l.length ≤ 1000000) :
    Calls Try.prog 29 #[x, .int .u64 root] w fun e w' => ∃ A c, e = .returned (.tuple #[.slice A ks.length c, .bool b]) ∧ Wds w' w'.heap.size (.slice A ks.length c) ks ∧ Below w.heap.size w w' :=
  (Keys_any x f l root w hx (small h9)).mono fun e w' ⟨v, he, hv, hb⟩ => by rw [hT] at he hv; obtain ⟨A, c, rfl, _⟩ := hv.form; exact ⟨A, c, he, hv, hb⟩
theorem Right_eq (x : Value) (f : Bool) (l : List Pr) (w : World) (b : Bool) (hT : rightT l = b) (hx : Tk w x f l) (h9 : l.length ≤ 1000000) :
    Calls Try.prog 43 #[x] w fun e w' => e = .returned (.bool b) ∧ Below w.heap.size w w' := by rw [← hT]; exact tRight_any x f l w hx (small h9)
theorem Same_eq (x y : Value) (f g : Bool) (a b : List Pr) (w : World) (r : Bool) (hT : sameT f g a b = r) (hx : Tk w x f a) (hy : Tk w y g b) (h9 : a.length ≤ 1000000) (h9b : b.length ≤ 1000000) :
    Calls Try.prog 26 #[x, y] w fun e w' => e = .returned (.bool r) ∧ Below w.heap.size w w' := by rw [← hT]; exact rSame_any x y f g a b w hx hy (small h9) (small h9b)
theorem sameT_refl (f : Bool) (l : List Pr) : sameT f f l l = true := by simp [sameT]
end Go.Proofs.Ytjjccoliknngcaa
