/- mootbellref01.Put and Take of eight bytes, alone. -/
import Derived.Test.YtblpdhnifleioaaOctD
import Derived.WalkLawsBesides
import Derived.Laws.IdiomStrings
import Derived.Deep.RegionWith
import Derived.Lib.BufferRead
import Derived.Deep.QuietTactic
import Derived.BigQuiet
import Derived.Deep.AppendLies
import Derived.OwnWalk
namespace Go.Proofs.Ytblpdhnifleioaa
open Go.RowKit


theorem refput_byte (x k : Nat) : ((x : Int) / 2 ^ (8 * k) % 256) = ((UInt8.ofNat (x / 256 ^ k)).toNat : Int) := by
  have e2 : ((x / 2 ^ (8 * k) : Nat) : Int) = (x : Int) / 2 ^ (8 * k) := by rw [Int.natCast_ediv, Int.natCast_pow]; rfl
  rw [UInt8.toNat_ofNat', ← pow_8, ← e2]
  generalize x / 2 ^ (8 * k) = y
  omega

theorem refput_val (x k : Nat) : ((x : Int) / 2 ^ (8 * k)).tmod 256 % 256 = ((UInt8.ofNat (x / 256 ^ k)).toNat : Int) := by
  have h0 : (0 : Int) ≤ (x : Int) / 2 ^ (8 * k) := Int.ediv_nonneg (by omega) (Int.le_of_lt (Int.pow_pos (by decide)))
  rw [Int.tmod_eq_emod_of_nonneg h0, Int.emod_emod_of_dvd _ (Int.dvd_refl _), refput_byte]

theorem size_le (l : List UInt8) : (⟨l.toArray⟩ : ByteArray).size = l.length := by simp [ByteArray.size]

end Go.Proofs.Ytblpdhnifleioaa
