/- What the laws of package churn call first.
   A world behind some calls; the contracts over it. -/
import Derived.Test.YtjipibpcnheniaaDoorChuD
namespace Go.Proofs.YtjipibpcnheniaaDoor
open Go.RowKit

theorem aw_s0 (W : World) (h : Tab W) : Calls Tryd.prog 47 #[.string ⟨#[]⟩] W fun e w' => e = .returned (.int .u64 14695981039346656037) ∧ Below W.heap.size W w' := Sum_any ⟨#[]⟩ W (by decide) h
theorem aw_sa (W : World) (h : Tab W) : Calls Tryd.prog 47 #[.string ⟨#[97]⟩] W fun e w' => e = .returned (.int .u64 12638187200555641996) ∧ Below W.heap.size W w' := by
  have := Sum_any ⟨#[97]⟩ W (by decide) h
  rwa [show moreH 14695981039346656037 (⟨#[97]⟩ : ByteArray).data.toList = 12638187200555641996 by decide] at this
theorem aw_f0 (W : World) (h : Tab W) : Calls Tryd.prog 25 #[.slice none 0 0] W fun e w' => e = .returned (.int .u64 14695981039346656037) ∧ Below W.heap.size W w' :=
  Fold_any [] (.slice none 0 0) W (Elems.nil _ _ _) (by decide) h
theorem aw_d0 (v : Value) (W : World) : Calls Tryd.prog 83 #[.int .i64 0, v] W fun e w' => e = .returned (.int .i64 0) ∧ W = w' := Draw_no 0 v W (by decide)
theorem aw_m0 (W : World) (h : Tab W) : Calls Tryd.prog 54 #[.int .u64 7, .string ⟨#[]⟩] W fun e w' => e = .returned (.int .u64 7) ∧ Below W.heap.size W w' := More_any 7 ⟨#[]⟩ W (by decide) (by decide) h

end Go.Proofs.YtjipibpcnheniaaDoor

namespace Go.Proofs.YtjipibpcnheniaaDoor
open Go.RowKit

/-- The table still lies in W, and all that lay in w. -/
def At (w W : World) : Prop := Tab W ∧ Below w.heap.size w W
theorem At.refl {w : World} (h : Tab w) : At w w := ⟨h, Below.refl _ _⟩
theorem At.step {w W W' : World} (h : At w W) (hb : Below W.heap.size W W') : At w W' := ⟨h.1.on hb, bstepH h.2 hb h.2.size⟩
theorem At.alloc {w W : World} (h : At w W) (o : Obj) : At w (W.alloc o) := h.step ((Below.refl _ _).alloc (Nat.le_refl _) o)
theorem At.drew {w W : World} (h : At w W) : At w W.drew := h.step (Below.refl _ _).drew
theorem at_of {f : Nat} {args : Array Value} {w W : World} {r : Value} (h : At w W) (c : Calls Tryd.prog f args W fun e w' => e = .returned r ∧ Below W.heap.size W w') : Calls Tryd.prog f args W fun e w' => e = .returned r ∧ At w w' :=
  c.mono fun _ _ ⟨he, hb⟩ => ⟨he, h.step hb⟩
theorem at_same {f : Nat} {args : Array Value} {w W : World} {r : Value} (h : At w W) (c : Calls Tryd.prog f args W fun e w' => e = .returned r ∧ W = w') : Calls Tryd.prog f args W fun e w' => e = .returned r ∧ At w w' :=
  c.mono fun _ _ ⟨he, hb⟩ => ⟨he, hb ▸ h⟩

theorem at_more (h : Nat) (t : ByteArray) (r : Nat) (hr : moreH h t.data.toList = r) (hh : h < 18446744073709551616) (ht : t.size ≤ 1000) {w W : World} (hA : At w W) :
    Calls Tryd.prog 54 #[.int .u64 h, .string t] W fun e w' => e = .returned (.int .u64 r) ∧ At w w' := by
  subst hr; exact at_of hA (More_any h t W hh ht hA.1)
theorem at_sum (t : ByteArray) (r : Nat) (hr : moreH 14695981039346656037 t.data.toList = r) (ht : t.size ≤ 1000) {w W : World} (hA : At w W) :
    Calls Tryd.prog 47 #[.string t] W fun e w' => e = .returned (.int .u64 r) ∧ At w w' := by
  subst hr; exact at_of hA (Sum_any t W ht hA.1)
theorem at_fold (ws : List Nat) (v : Value) (r : Nat) (hr : foldB ws = r) (hl : ws.length ≤ 1000) {w W : World} (hv : Words W W.heap.size v ws) (hA : At w W) :
    Calls Tryd.prog 25 #[v] W fun e w' => e = .returned (.int .u64 r) ∧ At w w' := by
  subst hr; exact at_of hA (Fold_any ws v W hv hl hA.1)
theorem at_draw (n : Int) (ws : List Nat) (v : Value) (r : Nat) (hr : drawOf n ws = r) (hl : ws.length ≤ 1000) (hn : n < 9223372036854775808) {w W : World} (hv : Words W W.heap.size v ws) (hA : At w W) :
    Calls Tryd.prog 83 #[.int .i64 n, v] W fun e w' => e = .returned (.int .i64 r) ∧ At w w' := by
  subst hr; exact at_of hA (Draw_any n ws v W hv hl hA.1 hn)
theorem at_bit (ws : List Nat) (v : Value) (r : Bool) (hr : bitOf ws = r) (hl : ws.length ≤ 1000) {w W : World} (hv : Words W W.heap.size v ws) (hA : At w W) :
    Calls Tryd.prog 85 #[v] W fun e w' => e = .returned (.bool r) ∧ At w w' := by
  subst hr; exact at_of hA (Bit_any ws v W hv hl hA.1)
theorem At.words {w W : World} {v : Value} {ws : List Nat} (hA : At w W) (hv : Words w w.heap.size v ws) : Words W W.heap.size v ws := hv.on hA.2
theorem u64_of_wf {a : Int} (h : (Lit.int .u64 a).wf = true) : ∃ n : Nat, a = n ∧ n < 18446744073709551616 := by
  have e1 : IntKind.u64.min = 0 := by rfl
  have e2 : IntKind.u64.max = 18446744073709551615 := by rfl
  simp [Lit.wf, e1, e2] at h
  exact ⟨a.toNat, by omega, by omega⟩
theorem i64_of_wf {a : Int} (h : (Lit.int .i64 a).wf = true) : -9223372036854775808 ≤ a ∧ a ≤ 9223372036854775807 := by
  have e1 : IntKind.i64.min = -9223372036854775808 := by rfl
  have e2 : IntKind.i64.max = 9223372036854775807 := by rfl
  simp [Lit.wf, e1, e2] at h
  exact h
theorem u8_of_wf {a : Int} (h : (Lit.int .u8 a).wf = true) : ∃ n : Nat, a = n ∧ n < 256 := by
  have e1 : IntKind.u8.min = 0 := by rfl
  have e2 : IntKind.u8.max = 255 := by rfl
  simp [Lit.wf, e1, e2] at h
  exact ⟨a.toNat, by omega, by omega⟩
theorem beq_of_ne {a b : Nat} (h : a ≠ b) : ((a : Int) == (b : Int)) = false := by
  simp; omega
theorem ext_le (s : ByteArray) (n : Nat) : (s.extract 0 n).size ≤ n := by rw [ByteArray.size_extract]; omega
end Go.Proofs.YtjipibpcnheniaaDoor
