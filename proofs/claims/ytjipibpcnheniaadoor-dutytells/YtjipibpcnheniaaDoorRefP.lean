/- mootbellref01.Put and Take of eight bytes, alone. -/
import Derived.Test.YtjipibpcnheniaaDoorOctD
import Derived.WalkLawsBesides
import Derived.Laws.IdiomStrings
import Derived.Deep.RegionWith
import Derived.Lib.BufferRead
import Derived.Deep.QuietTactic
import Derived.BigQuiet
import Derived.Deep.AppendLies
import Derived.OwnWalk
namespace Go.Proofs.YtjipibpcnheniaaDoor
open Go.RowKit


theorem refput_byte (x k : Nat) : ((x : Int) / 2 ^ (8 * k) % 256) = ((UInt8.ofNat (x / 256 ^ k)).toNat : Int) := by
  have e2 : ((x / 2 ^ (8 * k) : Nat) : Int) = (x : Int) / 2 ^ (8 * k) := by rw [Int.natCast_ediv, Int.natCast_pow]; rfl
  rw [UInt8.toNat_ofNat', ← pow_8, ← e2]
  generalize x / 2 ^ (8 * k) = y
  omega

theorem refput_val (x k : Nat) : ((x : Int) / 2 ^ (8 * k)).tmod 256 % 256 = ((UInt8.ofNat (x / 256 ^ k)).toNat : Int) := by
  have h0 : (0 : Int) ≤ (x : Int) / 2 ^ (8 * k) := Int.ediv_nonneg (by omega) (Int.le_of_lt (Int.pow_pos (by decide)))
  rw [Int.tmod_eq_emod_of_nonneg h0, Int.emod_emod_of_dvd _ (Int.dvd_refl _), refput_byte]

set_option maxHeartbeats 1000000 in
theorem refPut_yes (x n : Nat) (w : World) (h1 : 1 ≤ n) (h8 : n ≤ 8) :
    Calls Tryd.prog 57 #[.int .u64 x, .int .i64 n] w fun e w' => e = .returned (.string ⟨(leBytes x n).toArray⟩) ∧ Below w.heap.size w w' := by
  obtain ⟨i0, hi, hz0, hz1, hz2⟩ := info_parts info_byte
  have hd8 : decide ((n : Int) ≤ 8) = true := by simp; omega
  go_enter Tryd.func57, Tryd.ntmps57
  go_wp2_with fail
  go_loopw [5, 6] (fun o i wr => ∃ k : Nat, k ≤ n ∧ i = .int .i64 k ∧ wr.ownsRow w.heap.size 5 1 o k (byteVals (leBytes x k)) ∧ Below w.heap.size w wr) (fun _ i _ => n - (intOf i).toNat)
  case atStart => exact ⟨0, Nat.zero_le _, rfl, World.ownsRow_nil _ _ _ _, Below.refl _ _⟩
  case round =>
    obtain ⟨k, hk, rfl, hown, hb⟩ := hrel
    have hz := hb.size
    by_cases hlt : k < n
    · have hown' : ∀ g, u5.ownBlock = some g → w.heap.size ≤ g := fun g hg => (hown.lt g hg).1
      go_wp2_with (at_builtin; refine wpList_append_own _ rfl _ _ 94 rfl w.heap.size 5 i0 (.int .u8 0) 1 1 Tryd.underlying94 hi hz0 hz1 hz2 rfl (by decide) _ _ _ rfl (hown.alloc _) ⟨wr.heap.size, 0, none⟩ 1 1 [.int .u8 (((x : Int) / 2 ^ (8 * k)).tmod 256 % 256)] rfl rfl ?c1 ?c2 ?c3 ?c4 ?c5 ?_)
      case c1 =>
        intro j u hj
        match j, hj with
        | 0, hj => simp at hj; subst hj; simp [Addr.add]
      case c2 => intro u hu; simp at hu; subst hu; rfl
      case c3 => unfold maxLen; omega
      case c4 => omega
      case c5 => simp; omega
      intro v' w1 hown1 hgrow _
      have R : w1.ownsRow w.heap.size 5 1 v' (k + 1) (byteVals (leBytes x (k + 1))) := by
        have e : byteVals (leBytes x (k + 1)) = byteVals (leBytes x k) ++ [.int .u8 (((x : Int) / 2 ^ (8 * k)).tmod 256 % 256)] := by
          rw [leBytes_snoc, refput_val]; simp [byteVals]
        rw [e]; exact hown1
      have hbn : Below w.heap.size w w1 := (hb.alloc hz _).grown hgrow (by simp; omega) (fun g hg => hown' g hg)
      clear hown1 hgrow hown hb hown'
      go_wp2_with fail
      go_roundw
      case rel => exact ⟨k + 1, by omega, by go_num, R, hbn⟩
      case measure => simp [intOf]; omega
    · obtain rfl : k = n := by omega
      obtain ⟨g, cap, hv, _, _⟩ := hown.form (by omega)
      subst hv
      have hcells := hown.cells (g := g) rfl
      have hcv := run_convert_bytes_back (P := Tryd.prog) wr 94 9 5 ⟨g, 0, none⟩ cap (leBytes x k) Tryd.underlying94 Tryd.underlying5 Tryd.underlying9 (fun j hj => by
        exact hcells j _ (by simp [byteVals, List.getElem?_eq_getElem hj]))
      rw [leBytes_length] at hcv
      clear hown hcells
      go_wp2_with fail
      go_ret
      exact ⟨rfl, hb⟩


theorem rPut8 (m : Nat) (w : World) : Calls Tryd.prog 57 #[.int .u64 m, .int .i64 8] w fun e w' => e = .returned (.string ⟨(leBytes m 8).toArray⟩) ∧ Below w.heap.size w w' := refPut_yes m 8 w (by decide) (by decide)
theorem size_le (l : List UInt8) : (⟨l.toArray⟩ : ByteArray).size = l.length := by simp [ByteArray.size]

end Go.Proofs.YtjipibpcnheniaaDoor
