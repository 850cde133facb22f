/- A drawn region walked by hand: the beginning, with what has come up written out (the kernel then needs not run back through each step). No program. -/
import Derived.Deep.RegionHeld
namespace Go.Proofs.Ytcamhaeelkjigaa
open Go

theorem held_start {P : Program} {Q : Exit → Act → World → Prop} {S : World → Prop} {ops : Array Oper} {id : Nat} {a : Act} {w : World} (n : Nat) (L : Array Bool) (hm : P.follows .mixedOrders = true) (hn : ops.size = n) (hL : Array.replicate n false = L) (hS : S w.drew)
    (h : S w.drew → wpAnyH P .any ops Q S n L a w.drew) : (Code.region id ops true).wp P Q a w := by
  subst hn; subst hL
  exact wp_region_held_drew hm hS h
end Go.Proofs.Ytcamhaeelkjigaa
