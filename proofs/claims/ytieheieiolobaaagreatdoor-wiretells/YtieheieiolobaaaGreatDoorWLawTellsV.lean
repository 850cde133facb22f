/- The walk of the law WireTells.
   The law WireTells, for all that may come in. -/
import Derived.Test.YtieheieiolobaaaGreatDoorWirZ
import Derived.Test.YtieheieiolobaaaGreatDoorRegT
import Derived.Test.YtieheieiolobaaaGreatDoorKeepW
import Derived.Deep.RegionHeld3
import Derived.Deep.CutRange
import Derived.Deep.LoopGhost
import Derived.Lib.MinMax
import Derived.Deep.QuietTactic
import Derived.BigQuiet
namespace Go.Proofs.YtieheieiolobaaaGreatDoor
open Go.RowKit Go.Shelf

theorem take_len_ {α : Type} (l : List α) (k : Nat) : l.take (l.take k).length = l.take k := by
  rw [List.length_take]
  rcases Nat.le_total k l.length with h | h
  · rw [Nat.min_eq_left h]
  · rw [Nat.min_eq_right h, List.take_of_length_le (Nat.le_refl _), List.take_of_length_le h]
theorem take_bt {w : World} {n : Int} {A : Option Addr} {c : Nat} {on : List Int} (h : Bt w (.agg #[.int .i64 n, .slice A on.length c]) n on) : Bt w (.agg #[.int .i64 n, .slice A (on.take 40).length c]) n (on.take 40) := by
  refine ⟨_, rfl, ?_⟩
  have := h.ints.first (on.take 40).length (by simp; omega)
  rwa [take_len_] at this
theorem take_tk {w : World} {f : Bool} {A : Option Addr} {c : Nat} {l : List Pr} (h : Tk w (.agg #[.bool f, .slice A l.length c]) f l) : Tk w (.agg #[.bool f, .slice A (l.take 40).length c]) f (l.take 40) := by
  obtain ⟨v, hx, hv⟩ := h
  simp at hx
  subst hx
  refine ⟨_, rfl, ?_⟩
  have := hv.first (l.take 40).length (by simp; omega)
  rwa [take_len_] at this
/-- A new slice of nine texts, none of them long; all that lay lies as it lay. -/
def Nine (w wx : World) (sl : Value) : Prop := ∃ (q : Nat) (a0 a1 a2 a3 a4 a5 a6 a7 a8 : ByteArray), sl = .slice (some ⟨q, 0, none⟩) 9 9 ∧ (a0.size ≤ 9000 ∧ a1.size ≤ 9000 ∧ a2.size ≤ 9000 ∧ a3.size ≤ 9000 ∧ a4.size ≤ 9000 ∧ a5.size ≤ 9000 ∧ a6.size ≤ 9000 ∧ a7.size ≤ 9000 ∧ a8.size ≤ 9000) ∧ RowAt wx q 9 [.string a0, .string a1, .string a2, .string a3, .string a4, .string a5, .string a6, .string a7, .string a8] ∧ Below w.heap.size w wx
theorem nine_cells {W : World} {q : Nat} {t : TypeId} {a0 a1 a2 a3 a4 a5 a6 a7 a8 : ByteArray} (h : RowAt W q t [.string a0, .string a1, .string a2, .string a3, .string a4, .string a5, .string a6, .string a7, .string a8]) (hz : a0.size ≤ 9000 ∧ a1.size ≤ 9000 ∧ a2.size ≤ 9000 ∧ a3.size ≤ 9000 ∧ a4.size ≤ 9000 ∧ a5.size ≤ 9000 ∧ a6.size ≤ 9000 ∧ a7.size ≤ 9000 ∧ a8.size ≤ 9000) (j : Nat) (hj : j < 9) :
    ∃ x : ByteArray, x.size ≤ 9000 ∧ W.cell? ⟨q, j, none⟩ = some (.string x) := by
  obtain ⟨h0, h1, h2, h3, h4, h5, h6, h7, h8⟩ := hz
  have hj9 : j = 0 ∨ j = 1 ∨ j = 2 ∨ j = 3 ∨ j = 4 ∨ j = 5 ∨ j = 6 ∨ j = 7 ∨ j = 8 := by omega
  rcases hj9 with rfl | rfl | rfl | rfl | rfl | rfl | rfl | rfl | rfl
  · exact ⟨a0, h0, by rw [h.cell]; rfl⟩
  · exact ⟨a1, h1, by rw [h.cell]; rfl⟩
  · exact ⟨a2, h2, by rw [h.cell]; rfl⟩
  · exact ⟨a3, h3, by rw [h.cell]; rfl⟩
  · exact ⟨a4, h4, by rw [h.cell]; rfl⟩
  · exact ⟨a5, h5, by rw [h.cell]; rfl⟩
  · exact ⟨a6, h6, by rw [h.cell]; rfl⟩
  · exact ⟨a7, h7, by rw [h.cell]; rfl⟩
  · exact ⟨a8, h8, by rw [h.cell]; rfl⟩
theorem wp_region_later0 {P : Program} {id : Nat} {Q : Exit → Act → World → Prop} {a : Act} {w : World} {l : List Oper} (hm : P.follows .mixedOrders = true) (hB : Region.lexB .any l.toArray = true)
    (h : wpQuiet P l.toArray (fun w' => ∃ p : LaterT w, w' = p.W) (fun a' => ∀ w', (∃ p : LaterT w, w' = p.W) → Q .normal a' w') l a) : (Code.region id l.toArray true).wp P Q a w :=
  wp_region_quiet (C := fun w' => ∃ p : LaterT w, w' = p.W) hm hB ⟨⟨w.drew, (Below.refl _ w).drew⟩, rfl⟩ (by simpa using h)
theorem root_two (d0 d1 d2 d3 d4 : Nat) : ∃ RO : Nat, (∀ W, Tab W → Calls Tryz.prog 21 #[.agg #[.int .u64 (d0 : Int), .int .u64 (d1 : Int), .int .u64 (d2 : Int), .int .u64 (d3 : Int), .int .u64 (d4 : Int)]] W fun e w' => e = .returned (.int .u64 (RO : Int)) ∧ Below W.heap.size W w') ∧
    (∀ W, Calls Tryz.prog 22 #[.agg #[.int .u64 (d0 : Int), .int .u64 (d1 : Int), .int .u64 (d2 : Int), .int .u64 (d3 : Int), .int .u64 (d4 : Int)]] W fun e w' => e = .returned (.int .u64 (RO : Int)) ∧ Below W.heap.size W w') :=
  ⟨_, fun W hT => Root_any d0 d1 d2 d3 d4 W hT, fun W => rRoot_any d0 d1 d2 d3 d4 W⟩
theorem record_two (a b c : Nat) : ∃ S : ByteArray, (∀ W, Calls Tryz.prog 23 #[.agg #[.int .u64 (a : Int), .int .u64 (b : Int), .int .u64 (c : Int)]] W fun e w' => e = .returned (.string S) ∧ Below W.heap.size W w') ∧
    (∀ W, Calls Tryz.prog 24 #[.agg #[.int .u64 (a : Int), .int .u64 (b : Int), .int .u64 (c : Int)]] W fun e w' => e = .returned (.string S) ∧ Below W.heap.size W w') :=
  ⟨_, fun W => Record_any a b c W, fun W => rRecord_any a b c _ rfl W⟩
theorem sameV_same (ds : List Nat) (n : Int) (on : List Int) (f : Bool) (l : List Pr) : sameV ds ds n on n on f f l l = true := by simp [sameV, sameB, sameT]
set_option maxHeartbeats 16000000 in
set_option maxRecDepth 100000 in
theorem tells_walk (e0 e1 e2 e3 e4 v0 v1 v2 v3 v4 r0 r1 r2 : Nat) (vn : Int) (von : List Int) (vl : List Pr) (vf : Bool) (vA vB : Option Addr) (vc vk : Nat) (s : ByteArray) (y at_ x0 x1 x2 x3 x4 n : Int) (xon pr po : List Int) (A B C : Option Addr) (c k j : Nat) (b : Bool) (ch : UInt8) (w : World)
    (d0 d1 d2 d3 d4 N f0 f1 f2 f3 f4 P y0 : Nat) (g : Bool) (ON OP : List Int) (lo r m : List Pr) (hs : s.size ≤ maxLen) (hat : I64 at_) (hT : Tab w)
    (tv : Bt w (.agg #[.int .i64 vn, .slice vA von.length vc]) vn von) (pv : Tk w (.agg #[.bool vf, .slice vB vl.length vk]) vf vl) (hvc : von.length ≤ vc) (hvk : vl.length ≤ vk)
    (cX : ∀ W, Below w.heap.size w W → Calls Tryz.prog 5 #[.agg #[.int .i64 x0, .int .i64 x1, .int .i64 x2, .int .i64 x3, .int .i64 x4, .int .i64 n, .slice A xon.length c, .slice B pr.length k, .bool b]] W (VoteAns d0 d1 d2 d3 d4 N ON b lo W))
    (cA : ∀ W, Below w.heap.size w W → Calls Tryz.prog 6 #[.agg #[.int .i64 x0, .int .i64 x1, .int .i64 x2, .int .i64 x3, .int .i64 x4, .int .i64 n, .slice A xon.length c, .slice B pr.length k, .bool b], .int .i64 y, .slice C po.length j] W (AggAns y0 g m f0 f1 f2 f3 f4 P OP b r W))
    (h1 : RightVote d0 d1 d2 d3 d4 N ON lo) (h3 : RightVote f0 f1 f2 f3 f4 P OP r) (hm : rightT m = true) (h9m : m.length ≤ 30) :
    Calls Tryz.prog 3 #[.agg #[.int .u64 (e0 : Int), .int .u64 (e1 : Int), .int .u64 (e2 : Int), .int .u64 (e3 : Int), .int .u64 (e4 : Int)], .agg #[.int .u64 (v0 : Int), .int .u64 (v1 : Int), .int .u64 (v2 : Int), .int .u64 (v3 : Int), .int .u64 (v4 : Int), .int .i64 vn, .slice vA von.length vc, .bool vf, .slice vB vl.length vk], .agg #[.int .i64 x0, .int .i64 x1, .int .i64 x2, .int .i64 x3, .int .i64 x4, .int .i64 n, .slice A xon.length c, .slice B pr.length k, .bool b], .int .i64 y, .slice C po.length j, .agg #[.int .u64 (r0 : Int), .int .u64 (r1 : Int), .int .u64 (r2 : Int)], .string s, .int .i64 at_, .int .u8 (ch.toNat : Int)] w fun e w' => e = .returned (.bool true) ∧ Below w.heap.size w w' := by
  have tW := take_bt tv
  have pW := take_tk pv
  have e40 : min (von.length : Int) 40 = ((von.take 40).length : Int) := by simp; omega
  have q40 : min (vl.length : Int) 40 = ((vl.take 40).length : Int) := by simp; omega
  have z40 : (von.take 40).length ≤ 40 := by simp; omega
  have u40 : (vl.take 40).length ≤ 40 := by simp; omega
  have le40 : (von.take 40).length ≤ von.length := by simp; omega
  have lq40 : (vl.take 40).length ≤ vl.length := by simp; omega
  generalize von.take 40 = on at tW e40 z40 le40
  generalize vl.take 40 = l at pW q40 u40 lq40
  have ic : (on.length : Int) ≤ (vc : Int) := by omega
  have ik : (l.length : Int) ≤ (vk : Int) := by omega
  have i0 : (0 : Int) ≤ (on.length : Int) := by omega
  have j0 : (0 : Int) ≤ (l.length : Int) := by omega
  clear le40 lq40 hvc hvk
  obtain ⟨Sw, Ew, -, -, cw, rw_⟩ := vote_both v0 v1 v2 v3 v4 vn on vf l (by omega) (by omega)
  obtain ⟨S1, E1, s1, g1, c1_, r1_⟩ := vote_both d0 d1 d2 d3 d4 N ON b lo (Nat.le_trans h1.h9 (by decide)) (Nat.le_trans h1.h9l (by decide))
  obtain ⟨T1, G1, t1, k1_, ca1, ra1⟩ := agg_both y0 f0 f1 f2 f3 f4 P OP b g r m (Nat.le_trans h3.h9 (by decide)) (Nat.le_trans h3.h9l (by decide)) (Nat.le_trans h9m (by decide))
  obtain ⟨T2, G2, -, -, ca2, ra2⟩ := agg_both y0 v0 v1 v2 v3 v4 vn on vf g l m (by omega) (by omega) (Nat.le_trans h9m (by decide))
  obtain ⟨T3, G3, -, -, ca3, ra3⟩ := agg_both y0 f0 f1 f2 f3 f4 P OP b vf r l (Nat.le_trans h3.h9 (by decide)) (Nat.le_trans h3.h9l (by decide)) (by omega)
  obtain rfl : E1 = 0 := g1 h1.hr h1.ht
  obtain rfl : G1 = 0 := k1_ hm h3.hr h3.ht
  have zS : S1.size ≤ 3000 := by have := (h1.len b).2; rw [← s1 rfl, list_len] at this; omega
  have zT : T1.size ≤ 3000 := by have h := aggB_length y0 g m (voteB [f0, f1, f2, f3, f4] P OP b r); rw [← t1 rfl, list_len] at h; have := (h3.len b).2; omega
  clear s1 t1 g1 k1_ h1 h3 hm h9m tv pv z40 u40
  unfold maxLen at hs
  obtain ⟨m200, e200⟩ : ∃ m200 : Nat, min (s.size : Int) 200 = (m200 : Int) := ⟨min s.size 200, by omega⟩
  have l200 : m200 ≤ 200 := by omega
  have i200 : (m200 : Int) ≤ (s.size : Int) := by omega
  obtain ⟨T, eT⟩ : ∃ T, s.extract 0 m200 = T := ⟨_, rfl⟩
  have zY : T.size ≤ 2000 := by rw [← eT, ByteArray.size_extract]; omega
  obtain ⟨m24, e24⟩ : ∃ m24 : Nat, min (T.size : Int) 24 = (m24 : Int) := ⟨min T.size 24, by omega⟩
  have i24 : (m24 : Int) ≤ (T.size : Int) := by omega
  have o24 : (0 : Int) ≤ (m24 : Int) := by omega
  have zZ : (T.extract 0 m24).size ≤ 2000 := by rw [ByteArray.size_extract]; omega
  obtain ⟨P9, e9⟩ : ∃ P9, pickN at_ 9 = P9 := ⟨_, rfl⟩
  have l9 := pickN_lt at_ 9 (by decide)
  have tP := fun W => pick6_any at_ 9 W hat (by decide) (by decide)
  rw [e9] at l9 tP
  clear e9
  have I3 : I64 (40 + (P9 : Int)) := by unfold I64; omega
  have I4 : I64 (8 + (P9 : Int)) := by unfold I64; omega
  obtain ⟨K1, zK1, tu1⟩ := turned_fix S1 at_ ch hat (by omega)
  obtain ⟨K2, zK2, tu2⟩ := turned_fix T1 at_ ch hat (by omega)
  obtain ⟨K3, zK3, tu3⟩ := turned_fix S1 (40 + (P9 : Int)) ch I3 (by omega)
  obtain ⟨K4, zK4, tu4⟩ := turned_fix T1 (8 + (P9 : Int)) ch I4 (by omega)
  have o1 : IntKind.i64.wrap (40 + (P9 : Int)) = 40 + (P9 : Int) := IntWalk.i64_in _ (by omega)
  have o2 : IntKind.i64.wrap (8 + (P9 : Int)) = 8 + (P9 : Int) := IntWalk.i64_in _ (by omega)
  have HO := Lib.hid (And.intro o1 o2)
  clear o1 o2 l9 I3 I4
  have HT2 := Lib.hid (And.intro e200 (And.intro eT e24))
  clear e200 eT e24
  go_enter Tryz.func3, Tryz.ntmps3
  go_upto_region 1 with (fail)
  obtain ⟨WA, WAdef⟩ : ∃ WA, WA = (((w.alloc (.cells #[.int .u64 (e0 : Int), .int .u64 (e1 : Int), .int .u64 (e2 : Int), .int .u64 (e3 : Int), .int .u64 (e4 : Int)] 24)).alloc (.cells #[.int .u64 (v0 : Int), .int .u64 (v1 : Int), .int .u64 (v2 : Int), .int .u64 (v3 : Int), .int .u64 (v4 : Int), .int .i64 vn, .slice vA von.length vc, .bool vf, .slice vB vl.length vk] 32)).alloc (.cells #[.int .i64 x0, .int .i64 x1, .int .i64 x2, .int .i64 x3, .int .i64 x4, .int .i64 n, .slice A xon.length c, .slice B pr.length k, .bool b] 35)).alloc (.cells #[.int .u64 (r0 : Int), .int .u64 (r1 : Int), .int .u64 (r2 : Int)] 37) := ⟨_, rfl⟩
  have RD : RowAt WA w.heap.size 24 [.int .u64 (e0 : Int), .int .u64 (e1 : Int), .int .u64 (e2 : Int), .int .u64 (e3 : Int), .int .u64 (e4 : Int)] := by
    rw [WAdef]; exact (((RowAt.new w 24 #[.int .u64 (e0 : Int), .int .u64 (e1 : Int), .int .u64 (e2 : Int), .int .u64 (e3 : Int), .int .u64 (e4 : Int)]).alloc _).alloc _).alloc _
  have RV : RowAt WA (w.heap.size + 1) 32 [.int .u64 (v0 : Int), .int .u64 (v1 : Int), .int .u64 (v2 : Int), .int .u64 (v3 : Int), .int .u64 (v4 : Int), .int .i64 vn, .slice vA von.length vc, .bool vf, .slice vB vl.length vk] := by
    have := RowAt.new (w.alloc (.cells #[.int .u64 (e0 : Int), .int .u64 (e1 : Int), .int .u64 (e2 : Int), .int .u64 (e3 : Int), .int .u64 (e4 : Int)] 24)) 32 #[.int .u64 (v0 : Int), .int .u64 (v1 : Int), .int .u64 (v2 : Int), .int .u64 (v3 : Int), .int .u64 (v4 : Int), .int .i64 vn, .slice vA von.length vc, .bool vf, .slice vB vl.length vk]
    rw [World.size_alloc] at this
    rw [WAdef]; exact (this.alloc _).alloc _
  have RX : RowAt WA (w.heap.size + 1 + 1) 35 [.int .i64 x0, .int .i64 x1, .int .i64 x2, .int .i64 x3, .int .i64 x4, .int .i64 n, .slice A xon.length c, .slice B pr.length k, .bool b] := by
    have := RowAt.new ((w.alloc (.cells #[.int .u64 (e0 : Int), .int .u64 (e1 : Int), .int .u64 (e2 : Int), .int .u64 (e3 : Int), .int .u64 (e4 : Int)] 24)).alloc (.cells #[.int .u64 (v0 : Int), .int .u64 (v1 : Int), .int .u64 (v2 : Int), .int .u64 (v3 : Int), .int .u64 (v4 : Int), .int .i64 vn, .slice vA von.length vc, .bool vf, .slice vB vl.length vk] 32)) 35 #[.int .i64 x0, .int .i64 x1, .int .i64 x2, .int .i64 x3, .int .i64 x4, .int .i64 n, .slice A xon.length c, .slice B pr.length k, .bool b]
    rw [World.size_alloc, World.size_alloc] at this
    rw [WAdef]; exact this.alloc _
  have RR : RowAt WA (w.heap.size + 1 + 1 + 1) 37 [.int .u64 (r0 : Int), .int .u64 (r1 : Int), .int .u64 (r2 : Int)] := by
    have := RowAt.new (((w.alloc (.cells #[.int .u64 (e0 : Int), .int .u64 (e1 : Int), .int .u64 (e2 : Int), .int .u64 (e3 : Int), .int .u64 (e4 : Int)] 24)).alloc (.cells #[.int .u64 (v0 : Int), .int .u64 (v1 : Int), .int .u64 (v2 : Int), .int .u64 (v3 : Int), .int .u64 (v4 : Int), .int .i64 vn, .slice vA von.length vc, .bool vf, .slice vB vl.length vk] 32)).alloc (.cells #[.int .i64 x0, .int .i64 x1, .int .i64 x2, .int .i64 x3, .int .i64 x4, .int .i64 n, .slice A xon.length c, .slice B pr.length k, .bool b] 35)) 37 #[.int .u64 (r0 : Int), .int .u64 (r1 : Int), .int .u64 (r2 : Int)]
    rw [World.size_alloc, World.size_alloc, World.size_alloc] at this
    rw [WAdef]; exact this
  have b0 : Below w.heap.size w WA := by
    rw [WAdef]; exact ((((Below.refl _ _).alloc (Nat.le_refl _) _).alloc (by simp) _).alloc (by simp; omega) _).alloc (by simp; omega) _
  rw [← WAdef]
  clear WAdef
  generalize hgv : w.heap.size + 1 = gv at *
  generalize hgx : gv + 1 = gx at *
  generalize hgr : gx + 1 = gr at *
  have l0 : w.heap.size < gv ∧ gv < gx ∧ gx < gr := by omega
  clear hgv hgx hgr
  go_wp2_with fail
  with_reducible refine (awake_wire _).mono ?_
  rintro e w1 ⟨rfl, b1⟩
  replace RD := RD.on b1
  replace RV := RV.on b1
  replace RX := RX.on b1
  replace RR := RR.on b1
  replace b0 := b0.trans (b1.mono b0.size)
  clear b1
  have a0 := RV.cell 0
  have a1 := RV.cell 1
  have a2 := RV.cell 2
  have a3 := RV.cell 3
  have a4 := RV.cell 4
  have a5 := RV.cell 5
  have a6 := RV.cell 6
  have a7 := RV.cell 7
  have a8 := RV.cell 8
  simp only [List.getElem?_cons_succ, List.getElem?_cons_zero] at a0 a1 a2 a3 a4 a5 a6 a7 a8
  go_upto_region 3 with (fail)
  clear a0 a1 a2 a3 a4 a5 a6 a7 a8
  have RW : RowAt (w1.alloc (.cells #[.int .u64 (v0 : Int), .int .u64 (v1 : Int), .int .u64 (v2 : Int), .int .u64 (v3 : Int), .int .u64 (v4 : Int), .int .i64 vn, .slice vA von.length vc, .bool vf, .slice vB vl.length vk] 32)) w1.heap.size 32 [.int .u64 (v0 : Int), .int .u64 (v1 : Int), .int .u64 (v2 : Int), .int .u64 (v3 : Int), .int .u64 (v4 : Int), .int .i64 vn, .slice vA von.length vc, .bool vf, .slice vB vl.length vk] := RowAt.new w1 32 #[.int .u64 (v0 : Int), .int .u64 (v1 : Int), .int .u64 (v2 : Int), .int .u64 (v3 : Int), .int .u64 (v4 : Int), .int .i64 vn, .slice vA von.length vc, .bool vf, .slice vB vl.length vk]
  have b1 := (Below.refl w1.heap.size w1).alloc (Nat.le_refl _) (.cells #[.int .u64 (v0 : Int), .int .u64 (v1 : Int), .int .u64 (v2 : Int), .int .u64 (v3 : Int), .int .u64 (v4 : Int), .int .i64 vn, .slice vA von.length vc, .bool vf, .slice vB vl.length vk] 32)
  have gw_lt : gr < w1.heap.size := RR.lt
  replace RD := RD.on b1
  replace RV := RV.on b1
  replace RX := RX.on b1
  replace RR := RR.on b1
  replace b0 := b0.trans (b1.mono b0.size)
  clear b1
  generalize w1.heap.size = gw at *
  generalize w1.alloc (.cells #[.int .u64 (v0 : Int), .int .u64 (v1 : Int), .int .u64 (v2 : Int), .int .u64 (v3 : Int), .int .u64 (v4 : Int), .int .i64 vn, .slice vA von.length vc, .bool vf, .slice vB vl.length vk] 32) = w2 at *
  have a0 := RV.cell 0
  have a1 := RV.cell 1
  have a2 := RV.cell 2
  have a3 := RV.cell 3
  have a4 := RV.cell 4
  have a5 := RV.cell 5
  have a6 := RV.cell 6
  have a7 := RV.cell 7
  have a8 := RV.cell 8
  simp only [List.getElem?_cons_succ, List.getElem?_cons_zero] at a0 a1 a2 a3 a4 a5 a6 a7 a8
  have q0 := RW.cell 0
  have q1 := RW.cell 1
  have q2 := RW.cell 2
  have q3 := RW.cell 3
  have q4 := RW.cell 4
  have q5 := RW.cell 5
  have q6 := RW.cell 6
  have q7 := RW.cell 7
  have q8 := RW.cell 8
  simp only [List.getElem?_cons_succ, List.getElem?_cons_zero] at q0 q1 q2 q3 q4 q5 q6 q7 q8
  have z6 := RW.frozen 6
  have z8 := RW.frozen 8
  have n1 : ¬ (gw = gv) := by omega
  have n2 : ¬ (gv = gw) := by omega
  go_upto_region 5 with (fail)
  clear n1 n2 z6 z8 a0 a1 a2 a3 a4 a5 a6 a7 a8 q0 q1 q2 q3 q4 q5 q6 q7 q8
  replace RD := ((RD.far (p := ⟨gw, 6, none⟩) (show w.heap.size ≠ gw by omega) (.slice vA on.length vc)).far (p := ⟨gw, 8, none⟩) (show w.heap.size ≠ gw by omega) (.slice vB l.length vk))
  replace RV := ((RV.far (p := ⟨gw, 6, none⟩) (show gv ≠ gw by omega) (.slice vA on.length vc)).far (p := ⟨gw, 8, none⟩) (show gv ≠ gw by omega) (.slice vB l.length vk))
  replace RX := ((RX.far (p := ⟨gw, 6, none⟩) (show gx ≠ gw by omega) (.slice vA on.length vc)).far (p := ⟨gw, 8, none⟩) (show gx ≠ gw by omega) (.slice vB l.length vk))
  replace RR := ((RR.far (p := ⟨gw, 6, none⟩) (show gr ≠ gw by omega) (.slice vA on.length vc)).far (p := ⟨gw, 8, none⟩) (show gr ≠ gw by omega) (.slice vB l.length vk))
  replace RW := ((RW.set 6 (.slice vA on.length vc)).set 8 (.slice vB l.length vk))
  simp only [List.set_cons_zero, List.set_cons_succ] at RW
  replace b0 := ((b0.setCell (p := ⟨gw, 6, none⟩) (show w.heap.size ≤ gw by omega) (.slice vA on.length vc)).setCell (p := ⟨gw, 8, none⟩) (show w.heap.size ≤ gw by omega) (.slice vB l.length vk))
  generalize ((w2.setCell ⟨gw, 6, none⟩ (.slice vA on.length vc)).setCell ⟨gw, 8, none⟩ (.slice vB l.length vk)) = w3 at *
  have HE := Lib.hid (And.intro e40 q40)
  clear e40 q40 ic ik i0 j0
  replace tW := tW.on b0
  replace pW := pW.on b0
  clear RV
  have a0 := RX.cell 0
  have a1 := RX.cell 1
  have a2 := RX.cell 2
  have a3 := RX.cell 3
  have a4 := RX.cell 4
  have a5 := RX.cell 5
  have a6 := RX.cell 6
  have a7 := RX.cell 7
  have a8 := RX.cell 8
  simp only [List.getElem?_cons_succ, List.getElem?_cons_zero] at a0 a1 a2 a3 a4 a5 a6 a7 a8
  go_wp2_with fail
  with_reducible refine (cX _ b0).mono ?_
  rintro e w4 ⟨A1, c1, B1, k1, rfl, t1, p1, b1, -, -⟩
  clear cX a0 a1 a2 a3 a4 a5 a6 a7 a8
  replace RD := RD.on b1
  replace RX := RX.on b1
  replace RR := RR.on b1
  replace RW := RW.on b1
  replace tW := tW.on b1
  replace pW := pW.on b1
  replace b0 := b0.trans (b1.mono b0.size)
  clear b1
  go_upto_region 6 with (fail)
  have R1 : RowAt (w4.alloc (.cells #[.int .u64 (d0 : Int), .int .u64 (d1 : Int), .int .u64 (d2 : Int), .int .u64 (d3 : Int), .int .u64 (d4 : Int), .int .i64 (N : Int), .slice A1 ON.length c1, .bool b, .slice B1 lo.length k1] 32)) w4.heap.size 32 [.int .u64 (d0 : Int), .int .u64 (d1 : Int), .int .u64 (d2 : Int), .int .u64 (d3 : Int), .int .u64 (d4 : Int), .int .i64 (N : Int), .slice A1 ON.length c1, .bool b, .slice B1 lo.length k1] := RowAt.new w4 32 #[.int .u64 (d0 : Int), .int .u64 (d1 : Int), .int .u64 (d2 : Int), .int .u64 (d3 : Int), .int .u64 (d4 : Int), .int .i64 (N : Int), .slice A1 ON.length c1, .bool b, .slice B1 lo.length k1]
  have b1 := (Below.refl w4.heap.size w4).alloc (Nat.le_refl _) (.cells #[.int .u64 (d0 : Int), .int .u64 (d1 : Int), .int .u64 (d2 : Int), .int .u64 (d3 : Int), .int .u64 (d4 : Int), .int .i64 (N : Int), .slice A1 ON.length c1, .bool b, .slice B1 lo.length k1] 32)
  have h1_lt : gw < w4.heap.size := RW.lt
  replace RD := RD.on b1
  replace RX := RX.on b1
  replace RR := RR.on b1
  replace RW := RW.on b1
  replace tW := tW.on b1
  replace pW := pW.on b1
  replace t1 := t1.on b1
  replace p1 := p1.on b1
  replace b0 := b0.trans (b1.mono b0.size)
  clear b1
  generalize w4.heap.size = h1 at *
  generalize w4.alloc (.cells #[.int .u64 (d0 : Int), .int .u64 (d1 : Int), .int .u64 (d2 : Int), .int .u64 (d3 : Int), .int .u64 (d4 : Int), .int .i64 (N : Int), .slice A1 ON.length c1, .bool b, .slice B1 lo.length k1] 32) = w5 at *
  have a0 := RX.cell 0
  have a1 := RX.cell 1
  have a2 := RX.cell 2
  have a3 := RX.cell 3
  have a4 := RX.cell 4
  have a5 := RX.cell 5
  have a6 := RX.cell 6
  have a7 := RX.cell 7
  have a8 := RX.cell 8
  simp only [List.getElem?_cons_succ, List.getElem?_cons_zero] at a0 a1 a2 a3 a4 a5 a6 a7 a8
  go_wp2_with fail
  with_reducible refine (cA _ b0).mono ?_
  rintro e w6 ⟨C4, j4, A4, c4, B4, k4, rfl, p4, t4, p5, b1, -, -, -⟩
  clear cA RX a0 a1 a2 a3 a4 a5 a6 a7 a8
  replace RD := RD.on b1
  replace RR := RR.on b1
  replace RW := RW.on b1
  replace R1 := R1.on b1
  replace tW := tW.on b1
  replace pW := pW.on b1
  replace t1 := t1.on b1
  replace p1 := p1.on b1
  replace b0 := b0.trans (b1.mono b0.size)
  clear b1
  go_upto_region 7 with (fail)
  have R2 : RowAt (w6.alloc (.cells #[.int .u64 (y0 : Int), .bool g, .slice C4 m.length j4, .int .u64 (f0 : Int), .int .u64 (f1 : Int), .int .u64 (f2 : Int), .int .u64 (f3 : Int), .int .u64 (f4 : Int), .int .i64 (P : Int), .slice A4 OP.length c4, .bool b, .slice B4 r.length k4] 41)) w6.heap.size 41 [.int .u64 (y0 : Int), .bool g, .slice C4 m.length j4, .int .u64 (f0 : Int), .int .u64 (f1 : Int), .int .u64 (f2 : Int), .int .u64 (f3 : Int), .int .u64 (f4 : Int), .int .i64 (P : Int), .slice A4 OP.length c4, .bool b, .slice B4 r.length k4] := RowAt.new w6 41 #[.int .u64 (y0 : Int), .bool g, .slice C4 m.length j4, .int .u64 (f0 : Int), .int .u64 (f1 : Int), .int .u64 (f2 : Int), .int .u64 (f3 : Int), .int .u64 (f4 : Int), .int .i64 (P : Int), .slice A4 OP.length c4, .bool b, .slice B4 r.length k4]
  have b1 := (Below.refl w6.heap.size w6).alloc (Nat.le_refl _) (.cells #[.int .u64 (y0 : Int), .bool g, .slice C4 m.length j4, .int .u64 (f0 : Int), .int .u64 (f1 : Int), .int .u64 (f2 : Int), .int .u64 (f3 : Int), .int .u64 (f4 : Int), .int .i64 (P : Int), .slice A4 OP.length c4, .bool b, .slice B4 r.length k4] 41)
  have h2_lt : h1 < w6.heap.size := R1.lt
  replace RD := RD.on b1
  replace RR := RR.on b1
  replace RW := RW.on b1
  replace R1 := R1.on b1
  replace tW := tW.on b1
  replace pW := pW.on b1
  replace t1 := t1.on b1
  replace p1 := p1.on b1
  replace p4 := p4.on b1
  replace t4 := t4.on b1
  replace p5 := p5.on b1
  replace b0 := b0.trans (b1.mono b0.size)
  clear b1
  generalize w6.heap.size = h2 at *
  generalize w6.alloc (.cells #[.int .u64 (y0 : Int), .bool g, .slice C4 m.length j4, .int .u64 (f0 : Int), .int .u64 (f1 : Int), .int .u64 (f2 : Int), .int .u64 (f3 : Int), .int .u64 (f4 : Int), .int .i64 (P : Int), .slice A4 OP.length c4, .bool b, .slice B4 r.length k4] 41) = w7 at *
  have a0 := R2.cell 0
  have a1 := R2.cell 1
  have a2 := R2.cell 2
  have a3 := R2.cell 3
  have a4 := R2.cell 4
  have a5 := R2.cell 5
  have a6 := R2.cell 6
  have a7 := R2.cell 7
  have a8 := R2.cell 8
  have a9 := R2.cell 9
  have a10 := R2.cell 10
  have a11 := R2.cell 11
  simp only [List.getElem?_cons_succ, List.getElem?_cons_zero] at a0 a1 a2 a3 a4 a5 a6 a7 a8 a9 a10 a11
  go_upto_region 8 with (fail)
  clear a0 a1 a2 a3 a4 a5 a6 a7 a8 a9 a10 a11
  have b7 := Below.refl w7.heap.size w7
  have R3 : RowAt (w7.alloc (.cells #[.int .u64 (y0 : Int), .bool g, .slice C4 m.length j4, .int .u64 (f0 : Int), .int .u64 (f1 : Int), .int .u64 (f2 : Int), .int .u64 (f3 : Int), .int .u64 (f4 : Int), .int .i64 (P : Int), .slice A4 OP.length c4, .bool b, .slice B4 r.length k4] 41)) w7.heap.size 41 [.int .u64 (y0 : Int), .bool g, .slice C4 m.length j4, .int .u64 (f0 : Int), .int .u64 (f1 : Int), .int .u64 (f2 : Int), .int .u64 (f3 : Int), .int .u64 (f4 : Int), .int .i64 (P : Int), .slice A4 OP.length c4, .bool b, .slice B4 r.length k4] := RowAt.new w7 41 #[.int .u64 (y0 : Int), .bool g, .slice C4 m.length j4, .int .u64 (f0 : Int), .int .u64 (f1 : Int), .int .u64 (f2 : Int), .int .u64 (f3 : Int), .int .u64 (f4 : Int), .int .i64 (P : Int), .slice A4 OP.length c4, .bool b, .slice B4 r.length k4]
  have b1 := (Below.refl w7.heap.size w7).alloc (Nat.le_refl _) (.cells #[.int .u64 (y0 : Int), .bool g, .slice C4 m.length j4, .int .u64 (f0 : Int), .int .u64 (f1 : Int), .int .u64 (f2 : Int), .int .u64 (f3 : Int), .int .u64 (f4 : Int), .int .i64 (P : Int), .slice A4 OP.length c4, .bool b, .slice B4 r.length k4] 41)
  have h3_lt : h2 < w7.heap.size := R2.lt
  replace RD := RD.on b1
  replace RR := RR.on b1
  replace RW := RW.on b1
  replace R1 := R1.on b1
  replace R2 := R2.on b1
  replace b0 := b0.trans (b1.mono b0.size)
  replace b7 := b7.trans (b1.mono (by have := b7.size; omega))
  clear b1
  generalize hh3 : w7.heap.size = h3 at *
  generalize w7.alloc (.cells #[.int .u64 (y0 : Int), .bool g, .slice C4 m.length j4, .int .u64 (f0 : Int), .int .u64 (f1 : Int), .int .u64 (f2 : Int), .int .u64 (f3 : Int), .int .u64 (f4 : Int), .int .i64 (P : Int), .slice A4 OP.length c4, .bool b, .slice B4 r.length k4] 41) = w8 at *
  have a0 := RW.cell 0
  have a1 := RW.cell 1
  have a2 := RW.cell 2
  have a3 := RW.cell 3
  have a4 := RW.cell 4
  have a5 := RW.cell 5
  have a6 := RW.cell 6
  have a7 := RW.cell 7
  have a8 := RW.cell 8
  simp only [List.getElem?_cons_succ, List.getElem?_cons_zero] at a0 a1 a2 a3 a4 a5 a6 a7 a8
  have q0 := R3.cell 0
  have q1 := R3.cell 1
  have q2 := R3.cell 2
  have q3 := R3.cell 3
  have q4 := R3.cell 4
  have q5 := R3.cell 5
  have q6 := R3.cell 6
  have q7 := R3.cell 7
  have q8 := R3.cell 8
  have q9 := R3.cell 9
  have q10 := R3.cell 10
  have q11 := R3.cell 11
  simp only [List.getElem?_cons_succ, List.getElem?_cons_zero] at q0 q1 q2 q3 q4 q5 q6 q7 q8 q9 q10 q11
  have z3 := R3.frozen 3
  have z4 := R3.frozen 4
  have z5 := R3.frozen 5
  have z6 := R3.frozen 6
  have z7 := R3.frozen 7
  have z8 := R3.frozen 8
  have z9 := R3.frozen 9
  have z10 := R3.frozen 10
  have z11 := R3.frozen 11
  go_upto_region 9 with (fail)
  clear a0 a1 a2 a3 a4 a5 a6 a7 a8 q0 q1 q2 q3 q4 q5 q6 q7 q8 q9 q10 q11 z3 z4 z5 z6 z7 z8 z9 z10 z11
  replace RD := (((((((((RD.far (p := ⟨h3, 3, none⟩) (show w.heap.size ≠ h3 by omega) (.int .u64 (v0 : Int))).far (p := ⟨h3, 4, none⟩) (show w.heap.size ≠ h3 by omega) (.int .u64 (v1 : Int))).far (p := ⟨h3, 5, none⟩) (show w.heap.size ≠ h3 by omega) (.int .u64 (v2 : Int))).far (p := ⟨h3, 6, none⟩) (show w.heap.size ≠ h3 by omega) (.int .u64 (v3 : Int))).far (p := ⟨h3, 7, none⟩) (show w.heap.size ≠ h3 by omega) (.int .u64 (v4 : Int))).far (p := ⟨h3, 8, none⟩) (show w.heap.size ≠ h3 by omega) (.int .i64 vn)).far (p := ⟨h3, 9, none⟩) (show w.heap.size ≠ h3 by omega) (.slice vA on.length vc)).far (p := ⟨h3, 10, none⟩) (show w.heap.size ≠ h3 by omega) (.bool vf)).far (p := ⟨h3, 11, none⟩) (show w.heap.size ≠ h3 by omega) (.slice vB l.length vk))
  replace RR := (((((((((RR.far (p := ⟨h3, 3, none⟩) (show gr ≠ h3 by omega) (.int .u64 (v0 : Int))).far (p := ⟨h3, 4, none⟩) (show gr ≠ h3 by omega) (.int .u64 (v1 : Int))).far (p := ⟨h3, 5, none⟩) (show gr ≠ h3 by omega) (.int .u64 (v2 : Int))).far (p := ⟨h3, 6, none⟩) (show gr ≠ h3 by omega) (.int .u64 (v3 : Int))).far (p := ⟨h3, 7, none⟩) (show gr ≠ h3 by omega) (.int .u64 (v4 : Int))).far (p := ⟨h3, 8, none⟩) (show gr ≠ h3 by omega) (.int .i64 vn)).far (p := ⟨h3, 9, none⟩) (show gr ≠ h3 by omega) (.slice vA on.length vc)).far (p := ⟨h3, 10, none⟩) (show gr ≠ h3 by omega) (.bool vf)).far (p := ⟨h3, 11, none⟩) (show gr ≠ h3 by omega) (.slice vB l.length vk))
  replace RW := (((((((((RW.far (p := ⟨h3, 3, none⟩) (show gw ≠ h3 by omega) (.int .u64 (v0 : Int))).far (p := ⟨h3, 4, none⟩) (show gw ≠ h3 by omega) (.int .u64 (v1 : Int))).far (p := ⟨h3, 5, none⟩) (show gw ≠ h3 by omega) (.int .u64 (v2 : Int))).far (p := ⟨h3, 6, none⟩) (show gw ≠ h3 by omega) (.int .u64 (v3 : Int))).far (p := ⟨h3, 7, none⟩) (show gw ≠ h3 by omega) (.int .u64 (v4 : Int))).far (p := ⟨h3, 8, none⟩) (show gw ≠ h3 by omega) (.int .i64 vn)).far (p := ⟨h3, 9, none⟩) (show gw ≠ h3 by omega) (.slice vA on.length vc)).far (p := ⟨h3, 10, none⟩) (show gw ≠ h3 by omega) (.bool vf)).far (p := ⟨h3, 11, none⟩) (show gw ≠ h3 by omega) (.slice vB l.length vk))
  replace R1 := (((((((((R1.far (p := ⟨h3, 3, none⟩) (show h1 ≠ h3 by omega) (.int .u64 (v0 : Int))).far (p := ⟨h3, 4, none⟩) (show h1 ≠ h3 by omega) (.int .u64 (v1 : Int))).far (p := ⟨h3, 5, none⟩) (show h1 ≠ h3 by omega) (.int .u64 (v2 : Int))).far (p := ⟨h3, 6, none⟩) (show h1 ≠ h3 by omega) (.int .u64 (v3 : Int))).far (p := ⟨h3, 7, none⟩) (show h1 ≠ h3 by omega) (.int .u64 (v4 : Int))).far (p := ⟨h3, 8, none⟩) (show h1 ≠ h3 by omega) (.int .i64 vn)).far (p := ⟨h3, 9, none⟩) (show h1 ≠ h3 by omega) (.slice vA on.length vc)).far (p := ⟨h3, 10, none⟩) (show h1 ≠ h3 by omega) (.bool vf)).far (p := ⟨h3, 11, none⟩) (show h1 ≠ h3 by omega) (.slice vB l.length vk))
  replace R2 := (((((((((R2.far (p := ⟨h3, 3, none⟩) (show h2 ≠ h3 by omega) (.int .u64 (v0 : Int))).far (p := ⟨h3, 4, none⟩) (show h2 ≠ h3 by omega) (.int .u64 (v1 : Int))).far (p := ⟨h3, 5, none⟩) (show h2 ≠ h3 by omega) (.int .u64 (v2 : Int))).far (p := ⟨h3, 6, none⟩) (show h2 ≠ h3 by omega) (.int .u64 (v3 : Int))).far (p := ⟨h3, 7, none⟩) (show h2 ≠ h3 by omega) (.int .u64 (v4 : Int))).far (p := ⟨h3, 8, none⟩) (show h2 ≠ h3 by omega) (.int .i64 vn)).far (p := ⟨h3, 9, none⟩) (show h2 ≠ h3 by omega) (.slice vA on.length vc)).far (p := ⟨h3, 10, none⟩) (show h2 ≠ h3 by omega) (.bool vf)).far (p := ⟨h3, 11, none⟩) (show h2 ≠ h3 by omega) (.slice vB l.length vk))
  replace R3 := (((((((((R3.set 3 (.int .u64 (v0 : Int))).set 4 (.int .u64 (v1 : Int))).set 5 (.int .u64 (v2 : Int))).set 6 (.int .u64 (v3 : Int))).set 7 (.int .u64 (v4 : Int))).set 8 (.int .i64 vn)).set 9 (.slice vA on.length vc)).set 10 (.bool vf)).set 11 (.slice vB l.length vk))
  simp only [List.set_cons_zero, List.set_cons_succ] at R3
  replace b0 := (((((((((b0.setCell (p := ⟨h3, 3, none⟩) (show w.heap.size ≤ h3 by omega) (.int .u64 (v0 : Int))).setCell (p := ⟨h3, 4, none⟩) (show w.heap.size ≤ h3 by omega) (.int .u64 (v1 : Int))).setCell (p := ⟨h3, 5, none⟩) (show w.heap.size ≤ h3 by omega) (.int .u64 (v2 : Int))).setCell (p := ⟨h3, 6, none⟩) (show w.heap.size ≤ h3 by omega) (.int .u64 (v3 : Int))).setCell (p := ⟨h3, 7, none⟩) (show w.heap.size ≤ h3 by omega) (.int .u64 (v4 : Int))).setCell (p := ⟨h3, 8, none⟩) (show w.heap.size ≤ h3 by omega) (.int .i64 vn)).setCell (p := ⟨h3, 9, none⟩) (show w.heap.size ≤ h3 by omega) (.slice vA on.length vc)).setCell (p := ⟨h3, 10, none⟩) (show w.heap.size ≤ h3 by omega) (.bool vf)).setCell (p := ⟨h3, 11, none⟩) (show w.heap.size ≤ h3 by omega) (.slice vB l.length vk))
  replace b7 := (((((((((b7.setCell (p := ⟨h3, 3, none⟩) (show h3 ≤ h3 by omega) (.int .u64 (v0 : Int))).setCell (p := ⟨h3, 4, none⟩) (show h3 ≤ h3 by omega) (.int .u64 (v1 : Int))).setCell (p := ⟨h3, 5, none⟩) (show h3 ≤ h3 by omega) (.int .u64 (v2 : Int))).setCell (p := ⟨h3, 6, none⟩) (show h3 ≤ h3 by omega) (.int .u64 (v3 : Int))).setCell (p := ⟨h3, 7, none⟩) (show h3 ≤ h3 by omega) (.int .u64 (v4 : Int))).setCell (p := ⟨h3, 8, none⟩) (show h3 ≤ h3 by omega) (.int .i64 vn)).setCell (p := ⟨h3, 9, none⟩) (show h3 ≤ h3 by omega) (.slice vA on.length vc)).setCell (p := ⟨h3, 10, none⟩) (show h3 ≤ h3 by omega) (.bool vf)).setCell (p := ⟨h3, 11, none⟩) (show h3 ≤ h3 by omega) (.slice vB l.length vk))
  generalize (((((((((w8.setCell ⟨h3, 3, none⟩ (.int .u64 (v0 : Int))).setCell ⟨h3, 4, none⟩ (.int .u64 (v1 : Int))).setCell ⟨h3, 5, none⟩ (.int .u64 (v2 : Int))).setCell ⟨h3, 6, none⟩ (.int .u64 (v3 : Int))).setCell ⟨h3, 7, none⟩ (.int .u64 (v4 : Int))).setCell ⟨h3, 8, none⟩ (.int .i64 vn)).setCell ⟨h3, 9, none⟩ (.slice vA on.length vc)).setCell ⟨h3, 10, none⟩ (.bool vf)).setCell ⟨h3, 11, none⟩ (.slice vB l.length vk)) = w9 at *
  have a0 := R2.cell 0
  have a1 := R2.cell 1
  have a2 := R2.cell 2
  have a3 := R2.cell 3
  have a4 := R2.cell 4
  have a5 := R2.cell 5
  have a6 := R2.cell 6
  have a7 := R2.cell 7
  have a8 := R2.cell 8
  have a9 := R2.cell 9
  have a10 := R2.cell 10
  have a11 := R2.cell 11
  simp only [List.getElem?_cons_succ, List.getElem?_cons_zero] at a0 a1 a2 a3 a4 a5 a6 a7 a8 a9 a10 a11
  go_upto_region 10 with (fail)
  clear a0 a1 a2 a3 a4 a5 a6 a7 a8 a9 a10 a11
  have R4 : RowAt (w9.alloc (.cells #[.int .u64 (y0 : Int), .bool g, .slice C4 m.length j4, .int .u64 (f0 : Int), .int .u64 (f1 : Int), .int .u64 (f2 : Int), .int .u64 (f3 : Int), .int .u64 (f4 : Int), .int .i64 (P : Int), .slice A4 OP.length c4, .bool b, .slice B4 r.length k4] 41)) w9.heap.size 41 [.int .u64 (y0 : Int), .bool g, .slice C4 m.length j4, .int .u64 (f0 : Int), .int .u64 (f1 : Int), .int .u64 (f2 : Int), .int .u64 (f3 : Int), .int .u64 (f4 : Int), .int .i64 (P : Int), .slice A4 OP.length c4, .bool b, .slice B4 r.length k4] := RowAt.new w9 41 #[.int .u64 (y0 : Int), .bool g, .slice C4 m.length j4, .int .u64 (f0 : Int), .int .u64 (f1 : Int), .int .u64 (f2 : Int), .int .u64 (f3 : Int), .int .u64 (f4 : Int), .int .i64 (P : Int), .slice A4 OP.length c4, .bool b, .slice B4 r.length k4]
  have b1 := (Below.refl w9.heap.size w9).alloc (Nat.le_refl _) (.cells #[.int .u64 (y0 : Int), .bool g, .slice C4 m.length j4, .int .u64 (f0 : Int), .int .u64 (f1 : Int), .int .u64 (f2 : Int), .int .u64 (f3 : Int), .int .u64 (f4 : Int), .int .i64 (P : Int), .slice A4 OP.length c4, .bool b, .slice B4 r.length k4] 41)
  have h4_lt : h3 < w9.heap.size := R3.lt
  replace RD := RD.on b1
  replace RR := RR.on b1
  replace RW := RW.on b1
  replace R1 := R1.on b1
  replace R2 := R2.on b1
  replace R3 := R3.on b1
  replace b0 := b0.trans (b1.mono b0.size)
  replace b7 := b7.trans (b1.mono (by have := b7.size; omega))
  clear b1
  generalize w9.heap.size = h4 at *
  generalize w9.alloc (.cells #[.int .u64 (y0 : Int), .bool g, .slice C4 m.length j4, .int .u64 (f0 : Int), .int .u64 (f1 : Int), .int .u64 (f2 : Int), .int .u64 (f3 : Int), .int .u64 (f4 : Int), .int .i64 (P : Int), .slice A4 OP.length c4, .bool b, .slice B4 r.length k4] 41) = w10 at *
  have a7 := RW.cell 7
  have a8 := RW.cell 8
  have q1 := R4.cell 1
  have q2 := R4.cell 2
  simp only [List.getElem?_cons_succ, List.getElem?_cons_zero] at a7 a8 q1 q2
  have z1 := R4.frozen 1
  have z2 := R4.frozen 2
  go_upto_region 11 with (fail)
  clear a7 a8 q1 q2 z1 z2
  replace RD := ((RD.far (p := ⟨h4, 1, none⟩) (show w.heap.size ≠ h4 by omega) (.bool vf)).far (p := ⟨h4, 2, none⟩) (show w.heap.size ≠ h4 by omega) (.slice vB l.length vk))
  replace RR := ((RR.far (p := ⟨h4, 1, none⟩) (show gr ≠ h4 by omega) (.bool vf)).far (p := ⟨h4, 2, none⟩) (show gr ≠ h4 by omega) (.slice vB l.length vk))
  replace RW := ((RW.far (p := ⟨h4, 1, none⟩) (show gw ≠ h4 by omega) (.bool vf)).far (p := ⟨h4, 2, none⟩) (show gw ≠ h4 by omega) (.slice vB l.length vk))
  replace R1 := ((R1.far (p := ⟨h4, 1, none⟩) (show h1 ≠ h4 by omega) (.bool vf)).far (p := ⟨h4, 2, none⟩) (show h1 ≠ h4 by omega) (.slice vB l.length vk))
  replace R2 := ((R2.far (p := ⟨h4, 1, none⟩) (show h2 ≠ h4 by omega) (.bool vf)).far (p := ⟨h4, 2, none⟩) (show h2 ≠ h4 by omega) (.slice vB l.length vk))
  replace R3 := ((R3.far (p := ⟨h4, 1, none⟩) (show h3 ≠ h4 by omega) (.bool vf)).far (p := ⟨h4, 2, none⟩) (show h3 ≠ h4 by omega) (.slice vB l.length vk))
  replace R4 := ((R4.set 1 (.bool vf)).set 2 (.slice vB l.length vk))
  simp only [List.set_cons_zero, List.set_cons_succ] at R4
  replace b0 := ((b0.setCell (p := ⟨h4, 1, none⟩) (show w.heap.size ≤ h4 by omega) (.bool vf)).setCell (p := ⟨h4, 2, none⟩) (show w.heap.size ≤ h4 by omega) (.slice vB l.length vk))
  replace b7 := ((b7.setCell (p := ⟨h4, 1, none⟩) (show h3 ≤ h4 by omega) (.bool vf)).setCell (p := ⟨h4, 2, none⟩) (show h3 ≤ h4 by omega) (.slice vB l.length vk))
  generalize ((w10.setCell ⟨h4, 1, none⟩ (.bool vf)).setCell ⟨h4, 2, none⟩ (.slice vB l.length vk)) = w11 at *
  replace tW := tW.on (by rw [hh3]; exact b7)
  replace pW := pW.on (by rw [hh3]; exact b7)
  replace t1 := t1.on (by rw [hh3]; exact b7)
  replace p1 := p1.on (by rw [hh3]; exact b7)
  replace p4 := p4.on (by rw [hh3]; exact b7)
  replace t4 := t4.on (by rw [hh3]; exact b7)
  replace p5 := p5.on (by rw [hh3]; exact b7)
  clear b7 hh3 gw_lt h1_lt h2_lt h3_lt h4_lt
  have a0 := RW.cell 0
  have a1 := RW.cell 1
  have a2 := RW.cell 2
  have a3 := RW.cell 3
  have a4 := RW.cell 4
  have a5 := RW.cell 5
  have a6 := RW.cell 6
  have a7 := RW.cell 7
  have a8 := RW.cell 8
  simp only [List.getElem?_cons_succ, List.getElem?_cons_zero] at a0 a1 a2 a3 a4 a5 a6 a7 a8
  have q0 := R1.cell 0
  have q1 := R1.cell 1
  have q2 := R1.cell 2
  have q3 := R1.cell 3
  have q4 := R1.cell 4
  have q5 := R1.cell 5
  have q6 := R1.cell 6
  have q7 := R1.cell 7
  have q8 := R1.cell 8
  simp only [List.getElem?_cons_succ, List.getElem?_cons_zero] at q0 q1 q2 q3 q4 q5 q6 q7 q8
  go_upto_region 12 with (fail)
  clear a0 a1 a2 a3 a4 a5 a6 a7 a8 q0 q1 q2 q3 q4 q5 q6 q7 q8
  have RQ1 : RowAt (w11.alloc (.cells #[.int .u64 (v0 : Int), .int .u64 (v1 : Int), .int .u64 (v2 : Int), .int .u64 (v3 : Int), .int .u64 (v4 : Int), .int .i64 vn, .slice vA on.length vc, .bool vf, .slice vB l.length vk, .int .u64 (d0 : Int), .int .u64 (d1 : Int), .int .u64 (d2 : Int), .int .u64 (d3 : Int), .int .u64 (d4 : Int), .int .i64 (N : Int), .slice A1 ON.length c1, .bool b, .slice B1 lo.length k1] 32)) w11.heap.size 32 [.int .u64 (v0 : Int), .int .u64 (v1 : Int), .int .u64 (v2 : Int), .int .u64 (v3 : Int), .int .u64 (v4 : Int), .int .i64 vn, .slice vA on.length vc, .bool vf, .slice vB l.length vk, .int .u64 (d0 : Int), .int .u64 (d1 : Int), .int .u64 (d2 : Int), .int .u64 (d3 : Int), .int .u64 (d4 : Int), .int .i64 (N : Int), .slice A1 ON.length c1, .bool b, .slice B1 lo.length k1] := RowAt.new w11 32 #[.int .u64 (v0 : Int), .int .u64 (v1 : Int), .int .u64 (v2 : Int), .int .u64 (v3 : Int), .int .u64 (v4 : Int), .int .i64 vn, .slice vA on.length vc, .bool vf, .slice vB l.length vk, .int .u64 (d0 : Int), .int .u64 (d1 : Int), .int .u64 (d2 : Int), .int .u64 (d3 : Int), .int .u64 (d4 : Int), .int .i64 (N : Int), .slice A1 ON.length c1, .bool b, .slice B1 lo.length k1]
  have b1 := (Below.refl w11.heap.size w11).alloc (Nat.le_refl _) (.cells #[.int .u64 (v0 : Int), .int .u64 (v1 : Int), .int .u64 (v2 : Int), .int .u64 (v3 : Int), .int .u64 (v4 : Int), .int .i64 vn, .slice vA on.length vc, .bool vf, .slice vB l.length vk, .int .u64 (d0 : Int), .int .u64 (d1 : Int), .int .u64 (d2 : Int), .int .u64 (d3 : Int), .int .u64 (d4 : Int), .int .i64 (N : Int), .slice A1 ON.length c1, .bool b, .slice B1 lo.length k1] 32)
  have Q1_lt : h4 < w11.heap.size := R4.lt
  replace RD := RD.on b1
  replace RR := RR.on b1
  replace RW := RW.on b1
  replace R1 := R1.on b1
  replace R2 := R2.on b1
  replace R3 := R3.on b1
  replace R4 := R4.on b1
  replace tW := tW.on b1
  replace pW := pW.on b1
  replace t1 := t1.on b1
  replace p1 := p1.on b1
  replace p4 := p4.on b1
  replace t4 := t4.on b1
  replace p5 := p5.on b1
  replace b0 := b0.trans (b1.mono b0.size)
  clear b1
  generalize w11.heap.size = Q1 at *
  generalize w11.alloc (.cells #[.int .u64 (v0 : Int), .int .u64 (v1 : Int), .int .u64 (v2 : Int), .int .u64 (v3 : Int), .int .u64 (v4 : Int), .int .i64 vn, .slice vA on.length vc, .bool vf, .slice vB l.length vk, .int .u64 (d0 : Int), .int .u64 (d1 : Int), .int .u64 (d2 : Int), .int .u64 (d3 : Int), .int .u64 (d4 : Int), .int .i64 (N : Int), .slice A1 ON.length c1, .bool b, .slice B1 lo.length k1] 32) = w12 at *
  clear Q1_lt
  have n1 : (Sw.toList != Sw.toList) = false := by simp
  have n2 : (Ew != Ew) = false := by simp
  have n3 : (S1.toList != S1.toList) = false := by simp
  go_wp2_with fail
  go_loopg [97] 2 (fun gk i wr => ∃ i0 : Int, i = .int .i64 i0 ∧ i0 + (gk : Int) = 2 ∧ 0 ≤ i0 ∧ Below w12.heap.size w12 wr)
  case atStart => exact ⟨0, rfl, rfl, Int.le_refl _, Below.refl _ _⟩
  case round =>
    obtain ⟨i0, rfl, hi0, hi1, hb⟩ := hrel
    cases gk with
    | succ gko =>
      have hcs : i0 = 0 ∨ i0 = 1 := by omega
      have R := RQ1.on hb
      rcases hcs with rfl | rfl
      · have RB : RowAt (wr.alloc (.cells #[.int .u64 (v0 : Int), .int .u64 (v1 : Int), .int .u64 (v2 : Int), .int .u64 (v3 : Int), .int .u64 (v4 : Int), .int .i64 vn, .slice vA on.length vc, .bool vf, .slice vB l.length vk] 32)) wr.heap.size 32 [.int .u64 (v0 : Int), .int .u64 (v1 : Int), .int .u64 (v2 : Int), .int .u64 (v3 : Int), .int .u64 (v4 : Int), .int .i64 vn, .slice vA on.length vc, .bool vf, .slice vB l.length vk] := RowAt.new wr 32 #[.int .u64 (v0 : Int), .int .u64 (v1 : Int), .int .u64 (v2 : Int), .int .u64 (v3 : Int), .int .u64 (v4 : Int), .int .i64 vn, .slice vA on.length vc, .bool vf, .slice vB l.length vk]
        have a0 := R.cell 0
        have a1 := R.cell 1
        have a2 := R.cell 2
        have a3 := R.cell 3
        have a4 := R.cell 4
        have a5 := R.cell 5
        have a6 := R.cell 6
        have a7 := R.cell 7
        have a8 := R.cell 8
        simp only [List.getElem?_cons_succ, List.getElem?_cons_zero] at a0 a1 a2 a3 a4 a5 a6 a7 a8
        have hb2 := hb.alloc hb.size (.cells #[.int .u64 (v0 : Int), .int .u64 (v1 : Int), .int .u64 (v2 : Int), .int .u64 (v3 : Int), .int .u64 (v4 : Int), .int .i64 vn, .slice vA on.length vc, .bool vf, .slice vB l.length vk] 32)
        have m_pW := pW.on hb2
        have m_tW := tW.on hb2
        go_wp2_with fail
        with_reducible refine (cw _ _ _ _ _ m_tW m_pW).mono ?_
        rintro e u1 ⟨rfl, b2⟩
        replace m_pW := m_pW.on b2
        replace m_tW := m_tW.on b2
        replace RB := RB.on b2
        replace hb2 := hb2.trans (b2.mono hb2.size)
        clear b2 R a0 a1 a2 a3 a4 a5 a6 a7 a8
        have a0 := RB.cell 0
        have a1 := RB.cell 1
        have a2 := RB.cell 2
        have a3 := RB.cell 3
        have a4 := RB.cell 4
        have a5 := RB.cell 5
        have a6 := RB.cell 6
        have a7 := RB.cell 7
        have a8 := RB.cell 8
        simp only [List.getElem?_cons_succ, List.getElem?_cons_zero] at a0 a1 a2 a3 a4 a5 a6 a7 a8
        go_wp2_with fail
        with_reducible refine (rw_ _ _ _ _ _ m_tW m_pW).mono ?_
        rintro e u2 ⟨rfl, b2⟩
        replace hb2 := hb2.trans (b2.mono hb2.size)
        clear b2 RB m_pW m_tW a0 a1 a2 a3 a4 a5 a6 a7 a8
        go_wp2_with fail
        go_roundg gko
        case measure => omega
        case rel => exact ⟨_, rfl, by omega, by omega, hb2⟩
      · have RB : RowAt (wr.alloc (.cells #[.int .u64 (d0 : Int), .int .u64 (d1 : Int), .int .u64 (d2 : Int), .int .u64 (d3 : Int), .int .u64 (d4 : Int), .int .i64 (N : Int), .slice A1 ON.length c1, .bool b, .slice B1 lo.length k1] 32)) wr.heap.size 32 [.int .u64 (d0 : Int), .int .u64 (d1 : Int), .int .u64 (d2 : Int), .int .u64 (d3 : Int), .int .u64 (d4 : Int), .int .i64 (N : Int), .slice A1 ON.length c1, .bool b, .slice B1 lo.length k1] := RowAt.new wr 32 #[.int .u64 (d0 : Int), .int .u64 (d1 : Int), .int .u64 (d2 : Int), .int .u64 (d3 : Int), .int .u64 (d4 : Int), .int .i64 (N : Int), .slice A1 ON.length c1, .bool b, .slice B1 lo.length k1]
        have a0 := R.cell 9
        have a1 := R.cell 10
        have a2 := R.cell 11
        have a3 := R.cell 12
        have a4 := R.cell 13
        have a5 := R.cell 14
        have a6 := R.cell 15
        have a7 := R.cell 16
        have a8 := R.cell 17
        simp only [List.getElem?_cons_succ, List.getElem?_cons_zero] at a0 a1 a2 a3 a4 a5 a6 a7 a8
        have hb2 := hb.alloc hb.size (.cells #[.int .u64 (d0 : Int), .int .u64 (d1 : Int), .int .u64 (d2 : Int), .int .u64 (d3 : Int), .int .u64 (d4 : Int), .int .i64 (N : Int), .slice A1 ON.length c1, .bool b, .slice B1 lo.length k1] 32)
        have m_p1 := p1.on hb2
        have m_t1 := t1.on hb2
        go_wp2_with fail
        with_reducible refine (c1_ _ _ _ _ _ m_t1 m_p1).mono ?_
        rintro e u1 ⟨rfl, b2⟩
        replace m_p1 := m_p1.on b2
        replace m_t1 := m_t1.on b2
        replace RB := RB.on b2
        replace hb2 := hb2.trans (b2.mono hb2.size)
        clear b2 R a0 a1 a2 a3 a4 a5 a6 a7 a8
        have a0 := RB.cell 0
        have a1 := RB.cell 1
        have a2 := RB.cell 2
        have a3 := RB.cell 3
        have a4 := RB.cell 4
        have a5 := RB.cell 5
        have a6 := RB.cell 6
        have a7 := RB.cell 7
        have a8 := RB.cell 8
        simp only [List.getElem?_cons_succ, List.getElem?_cons_zero] at a0 a1 a2 a3 a4 a5 a6 a7 a8
        go_wp2_with fail
        with_reducible refine (r1_ _ _ _ _ _ m_t1 m_p1).mono ?_
        rintro e u2 ⟨rfl, b2⟩
        replace hb2 := hb2.trans (b2.mono hb2.size)
        clear b2 RB m_p1 m_t1 a0 a1 a2 a3 a4 a5 a6 a7 a8
        go_wp2_with fail
        go_roundg gko
        case measure => omega
        case rel => exact ⟨_, rfl, by omega, by omega, hb2⟩
    | zero =>
      obtain rfl : i0 = 2 := by omega
      clear hi0 hi1 RQ1
      replace RD := RD.on hb
      replace RR := RR.on hb
      replace RW := RW.on hb
      replace R1 := R1.on hb
      replace R2 := R2.on hb
      replace R3 := R3.on hb
      replace R4 := R4.on hb
      replace tW := tW.on hb
      replace pW := pW.on hb
      replace t1 := t1.on hb
      replace p1 := p1.on hb
      replace p4 := p4.on hb
      replace t4 := t4.on hb
      replace p5 := p5.on hb
      replace b0 := b0.trans (hb.mono b0.size)
      clear hb
      obtain ⟨w13, hwr⟩ : ∃ z, z = wr := ⟨_, rfl⟩
      subst hwr
      clear cw rw_ c1_ n1 n2 n3
      have a0 := R2.cell 0
      have a1 := R2.cell 1
      have a2 := R2.cell 2
      have a3 := R2.cell 3
      have a4 := R2.cell 4
      have a5 := R2.cell 5
      have a6 := R2.cell 6
      have a7 := R2.cell 7
      have a8 := R2.cell 8
      have a9 := R2.cell 9
      have a10 := R2.cell 10
      have a11 := R2.cell 11
      simp only [List.getElem?_cons_succ, List.getElem?_cons_zero] at a0 a1 a2 a3 a4 a5 a6 a7 a8 a9 a10 a11
      have q0 := R3.cell 0
      have q1 := R3.cell 1
      have q2 := R3.cell 2
      have q3 := R3.cell 3
      have q4 := R3.cell 4
      have q5 := R3.cell 5
      have q6 := R3.cell 6
      have q7 := R3.cell 7
      have q8 := R3.cell 8
      have q9 := R3.cell 9
      have q10 := R3.cell 10
      have q11 := R3.cell 11
      simp only [List.getElem?_cons_succ, List.getElem?_cons_zero] at q0 q1 q2 q3 q4 q5 q6 q7 q8 q9 q10 q11
      have o0 := R4.cell 0
      have o1 := R4.cell 1
      have o2 := R4.cell 2
      have o3 := R4.cell 3
      have o4 := R4.cell 4
      have o5 := R4.cell 5
      have o6 := R4.cell 6
      have o7 := R4.cell 7
      have o8 := R4.cell 8
      have o9 := R4.cell 9
      have o10 := R4.cell 10
      have o11 := R4.cell 11
      simp only [List.getElem?_cons_succ, List.getElem?_cons_zero] at o0 o1 o2 o3 o4 o5 o6 o7 o8 o9 o10 o11
      go_upto_region 20 with (fail)
      clear a0 a1 a2 a3 a4 a5 a6 a7 a8 a9 a10 a11 q0 q1 q2 q3 q4 q5 q6 q7 q8 q9 q10 q11 o0 o1 o2 o3 o4 o5 o6 o7 o8 o9 o10 o11
      have RQ2 : RowAt (w13.alloc (.cells #[.int .u64 (y0 : Int), .bool g, .slice C4 m.length j4, .int .u64 (f0 : Int), .int .u64 (f1 : Int), .int .u64 (f2 : Int), .int .u64 (f3 : Int), .int .u64 (f4 : Int), .int .i64 (P : Int), .slice A4 OP.length c4, .bool b, .slice B4 r.length k4, .int .u64 (y0 : Int), .bool g, .slice C4 m.length j4, .int .u64 (v0 : Int), .int .u64 (v1 : Int), .int .u64 (v2 : Int), .int .u64 (v3 : Int), .int .u64 (v4 : Int), .int .i64 vn, .slice vA on.length vc, .bool vf, .slice vB l.length vk, .int .u64 (y0 : Int), .bool vf, .slice vB l.length vk, .int .u64 (f0 : Int), .int .u64 (f1 : Int), .int .u64 (f2 : Int), .int .u64 (f3 : Int), .int .u64 (f4 : Int), .int .i64 (P : Int), .slice A4 OP.length c4, .bool b, .slice B4 r.length k4] 41)) w13.heap.size 41 [.int .u64 (y0 : Int), .bool g, .slice C4 m.length j4, .int .u64 (f0 : Int), .int .u64 (f1 : Int), .int .u64 (f2 : Int), .int .u64 (f3 : Int), .int .u64 (f4 : Int), .int .i64 (P : Int), .slice A4 OP.length c4, .bool b, .slice B4 r.length k4, .int .u64 (y0 : Int), .bool g, .slice C4 m.length j4, .int .u64 (v0 : Int), .int .u64 (v1 : Int), .int .u64 (v2 : Int), .int .u64 (v3 : Int), .int .u64 (v4 : Int), .int .i64 vn, .slice vA on.length vc, .bool vf, .slice vB l.length vk, .int .u64 (y0 : Int), .bool vf, .slice vB l.length vk, .int .u64 (f0 : Int), .int .u64 (f1 : Int), .int .u64 (f2 : Int), .int .u64 (f3 : Int), .int .u64 (f4 : Int), .int .i64 (P : Int), .slice A4 OP.length c4, .bool b, .slice B4 r.length k4] := RowAt.new w13 41 #[.int .u64 (y0 : Int), .bool g, .slice C4 m.length j4, .int .u64 (f0 : Int), .int .u64 (f1 : Int), .int .u64 (f2 : Int), .int .u64 (f3 : Int), .int .u64 (f4 : Int), .int .i64 (P : Int), .slice A4 OP.length c4, .bool b, .slice B4 r.length k4, .int .u64 (y0 : Int), .bool g, .slice C4 m.length j4, .int .u64 (v0 : Int), .int .u64 (v1 : Int), .int .u64 (v2 : Int), .int .u64 (v3 : Int), .int .u64 (v4 : Int), .int .i64 vn, .slice vA on.length vc, .bool vf, .slice vB l.length vk, .int .u64 (y0 : Int), .bool vf, .slice vB l.length vk, .int .u64 (f0 : Int), .int .u64 (f1 : Int), .int .u64 (f2 : Int), .int .u64 (f3 : Int), .int .u64 (f4 : Int), .int .i64 (P : Int), .slice A4 OP.length c4, .bool b, .slice B4 r.length k4]
      have b1 := (Below.refl w13.heap.size w13).alloc (Nat.le_refl _) (.cells #[.int .u64 (y0 : Int), .bool g, .slice C4 m.length j4, .int .u64 (f0 : Int), .int .u64 (f1 : Int), .int .u64 (f2 : Int), .int .u64 (f3 : Int), .int .u64 (f4 : Int), .int .i64 (P : Int), .slice A4 OP.length c4, .bool b, .slice B4 r.length k4, .int .u64 (y0 : Int), .bool g, .slice C4 m.length j4, .int .u64 (v0 : Int), .int .u64 (v1 : Int), .int .u64 (v2 : Int), .int .u64 (v3 : Int), .int .u64 (v4 : Int), .int .i64 vn, .slice vA on.length vc, .bool vf, .slice vB l.length vk, .int .u64 (y0 : Int), .bool vf, .slice vB l.length vk, .int .u64 (f0 : Int), .int .u64 (f1 : Int), .int .u64 (f2 : Int), .int .u64 (f3 : Int), .int .u64 (f4 : Int), .int .i64 (P : Int), .slice A4 OP.length c4, .bool b, .slice B4 r.length k4] 41)
      have Q2_lt : h4 < w13.heap.size := R4.lt
      replace RD := RD.on b1
      replace RR := RR.on b1
      replace RW := RW.on b1
      replace R1 := R1.on b1
      replace R2 := R2.on b1
      replace R3 := R3.on b1
      replace R4 := R4.on b1
      replace tW := tW.on b1
      replace pW := pW.on b1
      replace t1 := t1.on b1
      replace p1 := p1.on b1
      replace p4 := p4.on b1
      replace t4 := t4.on b1
      replace p5 := p5.on b1
      replace b0 := b0.trans (b1.mono b0.size)
      clear b1
      generalize w13.heap.size = Q2 at *
      generalize w13.alloc (.cells #[.int .u64 (y0 : Int), .bool g, .slice C4 m.length j4, .int .u64 (f0 : Int), .int .u64 (f1 : Int), .int .u64 (f2 : Int), .int .u64 (f3 : Int), .int .u64 (f4 : Int), .int .i64 (P : Int), .slice A4 OP.length c4, .bool b, .slice B4 r.length k4, .int .u64 (y0 : Int), .bool g, .slice C4 m.length j4, .int .u64 (v0 : Int), .int .u64 (v1 : Int), .int .u64 (v2 : Int), .int .u64 (v3 : Int), .int .u64 (v4 : Int), .int .i64 vn, .slice vA on.length vc, .bool vf, .slice vB l.length vk, .int .u64 (y0 : Int), .bool vf, .slice vB l.length vk, .int .u64 (f0 : Int), .int .u64 (f1 : Int), .int .u64 (f2 : Int), .int .u64 (f3 : Int), .int .u64 (f4 : Int), .int .i64 (P : Int), .slice A4 OP.length c4, .bool b, .slice B4 r.length k4] 41) = w14 at *
      clear Q2_lt
      have n_T1 : (T1.toList != T1.toList) = false := by simp
      have n_T2 : (T2.toList != T2.toList) = false := by simp
      have n_G2 : (G2 != G2) = false := by simp
      have n_T3 : (T3.toList != T3.toList) = false := by simp
      have n_G3 : (G3 != G3) = false := by simp
      go_wp2_with fail
      go_loopg [125] 3 (fun gk i wr => ∃ i0 : Int, i = .int .i64 i0 ∧ i0 + (gk : Int) = 3 ∧ 0 ≤ i0 ∧ Below w14.heap.size w14 wr)
      case atStart => exact ⟨0, rfl, rfl, Int.le_refl _, Below.refl _ _⟩
      case round =>
        obtain ⟨i0, rfl, hi0, hi1, hb⟩ := hrel
        cases gk with
        | succ gko =>
          have hcs : i0 = 0 ∨ i0 = 1 ∨ i0 = 2 := by omega
          have R := RQ2.on hb
          rcases hcs with rfl | rfl | rfl
          · have RB : RowAt (wr.alloc (.cells #[.int .u64 (y0 : Int), .bool g, .slice C4 m.length j4, .int .u64 (f0 : Int), .int .u64 (f1 : Int), .int .u64 (f2 : Int), .int .u64 (f3 : Int), .int .u64 (f4 : Int), .int .i64 (P : Int), .slice A4 OP.length c4, .bool b, .slice B4 r.length k4] 41)) wr.heap.size 41 [.int .u64 (y0 : Int), .bool g, .slice C4 m.length j4, .int .u64 (f0 : Int), .int .u64 (f1 : Int), .int .u64 (f2 : Int), .int .u64 (f3 : Int), .int .u64 (f4 : Int), .int .i64 (P : Int), .slice A4 OP.length c4, .bool b, .slice B4 r.length k4] := RowAt.new wr 41 #[.int .u64 (y0 : Int), .bool g, .slice C4 m.length j4, .int .u64 (f0 : Int), .int .u64 (f1 : Int), .int .u64 (f2 : Int), .int .u64 (f3 : Int), .int .u64 (f4 : Int), .int .i64 (P : Int), .slice A4 OP.length c4, .bool b, .slice B4 r.length k4]
            have a0 := R.cell 0
            have a1 := R.cell 1
            have a2 := R.cell 2
            have a3 := R.cell 3
            have a4 := R.cell 4
            have a5 := R.cell 5
            have a6 := R.cell 6
            have a7 := R.cell 7
            have a8 := R.cell 8
            have a9 := R.cell 9
            have a10 := R.cell 10
            have a11 := R.cell 11
            simp only [List.getElem?_cons_succ, List.getElem?_cons_zero] at a0 a1 a2 a3 a4 a5 a6 a7 a8 a9 a10 a11
            have hb2 := hb.alloc hb.size (.cells #[.int .u64 (y0 : Int), .bool g, .slice C4 m.length j4, .int .u64 (f0 : Int), .int .u64 (f1 : Int), .int .u64 (f2 : Int), .int .u64 (f3 : Int), .int .u64 (f4 : Int), .int .i64 (P : Int), .slice A4 OP.length c4, .bool b, .slice B4 r.length k4] 41)
            have m_p4 := p4.on hb2
            have m_p5 := p5.on hb2
            have m_t4 := t4.on hb2
            go_wp2_with fail
            with_reducible refine (ca1 _ _ _ _ _ _ _ m_t4 m_p5 m_p4).mono ?_
            rintro e u1 ⟨rfl, b2⟩
            replace m_p4 := m_p4.on b2
            replace m_p5 := m_p5.on b2
            replace m_t4 := m_t4.on b2
            replace RB := RB.on b2
            replace hb2 := hb2.trans (b2.mono hb2.size)
            clear b2 R a0 a1 a2 a3 a4 a5 a6 a7 a8 a9 a10 a11
            have a0 := RB.cell 0
            have a1 := RB.cell 1
            have a2 := RB.cell 2
            have a3 := RB.cell 3
            have a4 := RB.cell 4
            have a5 := RB.cell 5
            have a6 := RB.cell 6
            have a7 := RB.cell 7
            have a8 := RB.cell 8
            have a9 := RB.cell 9
            have a10 := RB.cell 10
            have a11 := RB.cell 11
            simp only [List.getElem?_cons_succ, List.getElem?_cons_zero] at a0 a1 a2 a3 a4 a5 a6 a7 a8 a9 a10 a11
            go_wp2_with fail
            with_reducible refine (ra1 _ _ _ _ _ _ _ m_t4 m_p5 m_p4).mono ?_
            rintro e u2 ⟨rfl, b2⟩
            replace hb2 := hb2.trans (b2.mono hb2.size)
            clear b2 RB m_p4 m_p5 m_t4 a0 a1 a2 a3 a4 a5 a6 a7 a8 a9 a10 a11
            go_wp2_with fail
            go_roundg gko
            case measure => omega
            case rel => exact ⟨_, rfl, by omega, by omega, hb2⟩
          · have RB : RowAt (wr.alloc (.cells #[.int .u64 (y0 : Int), .bool g, .slice C4 m.length j4, .int .u64 (v0 : Int), .int .u64 (v1 : Int), .int .u64 (v2 : Int), .int .u64 (v3 : Int), .int .u64 (v4 : Int), .int .i64 vn, .slice vA on.length vc, .bool vf, .slice vB l.length vk] 41)) wr.heap.size 41 [.int .u64 (y0 : Int), .bool g, .slice C4 m.length j4, .int .u64 (v0 : Int), .int .u64 (v1 : Int), .int .u64 (v2 : Int), .int .u64 (v3 : Int), .int .u64 (v4 : Int), .int .i64 vn, .slice vA on.length vc, .bool vf, .slice vB l.length vk] := RowAt.new wr 41 #[.int .u64 (y0 : Int), .bool g, .slice C4 m.length j4, .int .u64 (v0 : Int), .int .u64 (v1 : Int), .int .u64 (v2 : Int), .int .u64 (v3 : Int), .int .u64 (v4 : Int), .int .i64 vn, .slice vA on.length vc, .bool vf, .slice vB l.length vk]
            have a0 := R.cell 12
            have a1 := R.cell 13
            have a2 := R.cell 14
            have a3 := R.cell 15
            have a4 := R.cell 16
            have a5 := R.cell 17
            have a6 := R.cell 18
            have a7 := R.cell 19
            have a8 := R.cell 20
            have a9 := R.cell 21
            have a10 := R.cell 22
            have a11 := R.cell 23
            simp only [List.getElem?_cons_succ, List.getElem?_cons_zero] at a0 a1 a2 a3 a4 a5 a6 a7 a8 a9 a10 a11
            have hb2 := hb.alloc hb.size (.cells #[.int .u64 (y0 : Int), .bool g, .slice C4 m.length j4, .int .u64 (v0 : Int), .int .u64 (v1 : Int), .int .u64 (v2 : Int), .int .u64 (v3 : Int), .int .u64 (v4 : Int), .int .i64 vn, .slice vA on.length vc, .bool vf, .slice vB l.length vk] 41)
            have m_p4 := p4.on hb2
            have m_pW := pW.on hb2
            have m_tW := tW.on hb2
            go_wp2_with fail
            with_reducible refine (ca2 _ _ _ _ _ _ _ m_tW m_pW m_p4).mono ?_
            rintro e u1 ⟨rfl, b2⟩
            replace m_p4 := m_p4.on b2
            replace m_pW := m_pW.on b2
            replace m_tW := m_tW.on b2
            replace RB := RB.on b2
            replace hb2 := hb2.trans (b2.mono hb2.size)
            clear b2 R a0 a1 a2 a3 a4 a5 a6 a7 a8 a9 a10 a11
            have a0 := RB.cell 0
            have a1 := RB.cell 1
            have a2 := RB.cell 2
            have a3 := RB.cell 3
            have a4 := RB.cell 4
            have a5 := RB.cell 5
            have a6 := RB.cell 6
            have a7 := RB.cell 7
            have a8 := RB.cell 8
            have a9 := RB.cell 9
            have a10 := RB.cell 10
            have a11 := RB.cell 11
            simp only [List.getElem?_cons_succ, List.getElem?_cons_zero] at a0 a1 a2 a3 a4 a5 a6 a7 a8 a9 a10 a11
            go_wp2_with fail
            with_reducible refine (ra2 _ _ _ _ _ _ _ m_tW m_pW m_p4).mono ?_
            rintro e u2 ⟨rfl, b2⟩
            replace hb2 := hb2.trans (b2.mono hb2.size)
            clear b2 RB m_p4 m_pW m_tW a0 a1 a2 a3 a4 a5 a6 a7 a8 a9 a10 a11
            go_wp2_with fail
            go_roundg gko
            case measure => omega
            case rel => exact ⟨_, rfl, by omega, by omega, hb2⟩
          · have RB : RowAt (wr.alloc (.cells #[.int .u64 (y0 : Int), .bool vf, .slice vB l.length vk, .int .u64 (f0 : Int), .int .u64 (f1 : Int), .int .u64 (f2 : Int), .int .u64 (f3 : Int), .int .u64 (f4 : Int), .int .i64 (P : Int), .slice A4 OP.length c4, .bool b, .slice B4 r.length k4] 41)) wr.heap.size 41 [.int .u64 (y0 : Int), .bool vf, .slice vB l.length vk, .int .u64 (f0 : Int), .int .u64 (f1 : Int), .int .u64 (f2 : Int), .int .u64 (f3 : Int), .int .u64 (f4 : Int), .int .i64 (P : Int), .slice A4 OP.length c4, .bool b, .slice B4 r.length k4] := RowAt.new wr 41 #[.int .u64 (y0 : Int), .bool vf, .slice vB l.length vk, .int .u64 (f0 : Int), .int .u64 (f1 : Int), .int .u64 (f2 : Int), .int .u64 (f3 : Int), .int .u64 (f4 : Int), .int .i64 (P : Int), .slice A4 OP.length c4, .bool b, .slice B4 r.length k4]
            have a0 := R.cell 24
            have a1 := R.cell 25
            have a2 := R.cell 26
            have a3 := R.cell 27
            have a4 := R.cell 28
            have a5 := R.cell 29
            have a6 := R.cell 30
            have a7 := R.cell 31
            have a8 := R.cell 32
            have a9 := R.cell 33
            have a10 := R.cell 34
            have a11 := R.cell 35
            simp only [List.getElem?_cons_succ, List.getElem?_cons_zero] at a0 a1 a2 a3 a4 a5 a6 a7 a8 a9 a10 a11
            have hb2 := hb.alloc hb.size (.cells #[.int .u64 (y0 : Int), .bool vf, .slice vB l.length vk, .int .u64 (f0 : Int), .int .u64 (f1 : Int), .int .u64 (f2 : Int), .int .u64 (f3 : Int), .int .u64 (f4 : Int), .int .i64 (P : Int), .slice A4 OP.length c4, .bool b, .slice B4 r.length k4] 41)
            have m_p5 := p5.on hb2
            have m_pW := pW.on hb2
            have m_t4 := t4.on hb2
            go_wp2_with fail
            with_reducible refine (ca3 _ _ _ _ _ _ _ m_t4 m_p5 m_pW).mono ?_
            rintro e u1 ⟨rfl, b2⟩
            replace m_p5 := m_p5.on b2
            replace m_pW := m_pW.on b2
            replace m_t4 := m_t4.on b2
            replace RB := RB.on b2
            replace hb2 := hb2.trans (b2.mono hb2.size)
            clear b2 R a0 a1 a2 a3 a4 a5 a6 a7 a8 a9 a10 a11
            have a0 := RB.cell 0
            have a1 := RB.cell 1
            have a2 := RB.cell 2
            have a3 := RB.cell 3
            have a4 := RB.cell 4
            have a5 := RB.cell 5
            have a6 := RB.cell 6
            have a7 := RB.cell 7
            have a8 := RB.cell 8
            have a9 := RB.cell 9
            have a10 := RB.cell 10
            have a11 := RB.cell 11
            simp only [List.getElem?_cons_succ, List.getElem?_cons_zero] at a0 a1 a2 a3 a4 a5 a6 a7 a8 a9 a10 a11
            go_wp2_with fail
            with_reducible refine (ra3 _ _ _ _ _ _ _ m_t4 m_p5 m_pW).mono ?_
            rintro e u2 ⟨rfl, b2⟩
            replace hb2 := hb2.trans (b2.mono hb2.size)
            clear b2 RB m_p5 m_pW m_t4 a0 a1 a2 a3 a4 a5 a6 a7 a8 a9 a10 a11
            go_wp2_with fail
            go_roundg gko
            case measure => omega
            case rel => exact ⟨_, rfl, by omega, by omega, hb2⟩
        | zero =>
          obtain rfl : i0 = 3 := by omega
          clear hi0 hi1 RQ2
          replace RD := RD.on hb
          replace RR := RR.on hb
          replace RW := RW.on hb
          replace R1 := R1.on hb
          replace R2 := R2.on hb
          replace R3 := R3.on hb
          replace R4 := R4.on hb
          replace tW := tW.on hb
          replace pW := pW.on hb
          replace t1 := t1.on hb
          replace p1 := p1.on hb
          replace p4 := p4.on hb
          replace t4 := t4.on hb
          replace p5 := p5.on hb
          replace b0 := b0.trans (hb.mono b0.size)
          clear hb
          obtain ⟨w15, hwr⟩ : ∃ z, z = wr := ⟨_, rfl⟩
          subst hwr
          clear ca1 ca2 ra2 ca3 ra3 n_T1 n_T2 n_G2 n_T3 n_G3 R3 R4 RW
          clear tW pW
          have a0 := R1.cell 0
          have a1 := R1.cell 1
          have a2 := R1.cell 2
          have a3 := R1.cell 3
          have a4 := R1.cell 4
          have a5 := R1.cell 5
          have a6 := R1.cell 6
          have a7 := R1.cell 7
          have a8 := R1.cell 8
          simp only [List.getElem?_cons_succ, List.getElem?_cons_zero] at a0 a1 a2 a3 a4 a5 a6 a7 a8
          go_wp2_with fail
          with_reducible refine (r1_ _ _ _ _ _ t1 p1).mono ?_
          rintro e w16 ⟨rfl, b1⟩
          clear r1_ t1 p1 a0 a1 a2 a3 a4 a5 a6 a7 a8
          clear R1
          replace RD := RD.on b1
          replace RR := RR.on b1
          replace R2 := R2.on b1
          replace p4 := p4.on b1
          replace t4 := t4.on b1
          replace p5 := p5.on b1
          replace b0 := b0.trans (b1.mono b0.size)
          clear b1
          have a0 := R2.cell 0
          have a1 := R2.cell 1
          have a2 := R2.cell 2
          have a3 := R2.cell 3
          have a4 := R2.cell 4
          have a5 := R2.cell 5
          have a6 := R2.cell 6
          have a7 := R2.cell 7
          have a8 := R2.cell 8
          have a9 := R2.cell 9
          have a10 := R2.cell 10
          have a11 := R2.cell 11
          simp only [List.getElem?_cons_succ, List.getElem?_cons_zero] at a0 a1 a2 a3 a4 a5 a6 a7 a8 a9 a10 a11
          go_wp2_with fail
          with_reducible refine (ra1 _ _ _ _ _ _ _ t4 p5 p4).mono ?_
          rintro e w17 ⟨rfl, b1⟩
          clear ra1 t4 p5 p4 R2 a0 a1 a2 a3 a4 a5 a6 a7 a8 a9 a10 a11
          replace RD := RD.on b1
          replace RR := RR.on b1
          replace b0 := b0.trans (b1.mono b0.size)
          clear b1
          obtain ⟨e200, eT, e24⟩ := HT2.out
          obtain ⟨o1, o2⟩ := HO.out
          go_upto_region 30 with (fail)
          clear e200 eT
          have HU1 := fun p : LaterT w17 => laterT_of (tu1 p.W)
          have HU2 := fun p : LaterT w17 => laterT_of (tu2 p.W)
          have HU3 := fun p : LaterT w17 => laterT_of (tu3 p.W)
          have HU4 := fun p : LaterT w17 => laterT_of (tu4 p.W)
          have HPK := fun p : LaterT w17 => laterT_same (tP p.W)
          clear tu1 tu2 tu3 tu4 tP
          refine wp_region_later_tail1 31 2 (by kernel_rfl) (by kernel_rfl) (by simp only [Nat.reduceAdd, List.getElem?_cons_succ, List.getElem?_cons_zero]; rfl) (.inl ⟨rfl, fun _ => rfl⟩) (by exact fun _ _ _ h => h) ?_
          simp only [List.take_succ_cons, List.take_zero]
          (try simp only [Act.put]); (try simp only [List.setIfInBounds_toArray]); (try simp only [List.set_cons_succ, List.set_cons_zero])
          repeat (go_big_quiet_step (first | (go_at_call 12; with_reducible exact HPK _) | (go_at_call 11; with_reducible exact HU1 _) | (go_at_call 11; with_reducible exact HU2 _) | (go_at_call 11; with_reducible exact HU3 _) | (go_at_call 11; with_reducible exact HU4 _)))
          refine wpQuiet_nil ?_
          intro w' hw'
          obtain ⟨pq, rfl⟩ := hw'
          have b1 := pq.h
          generalize pq.W = w18 at b1 ⊢
          clear pq HU1 HU2 HU3 HU4 HPK
          replace RD := RD.on b1
          replace RR := RR.on b1
          replace b0 := b0.trans (b1.mono b0.size)
          clear b1
          simp only [List.drop_succ_cons, List.drop_zero, List.take_succ_cons, List.take_zero]
          go_wp2_with fail
          have zN : T.size ≤ 9000 ∧ S1.size ≤ 9000 ∧ K1.size ≤ 9000 ∧ (S1 ++ T).size ≤ 9000 ∧ T1.size ≤ 9000 ∧ K2.size ≤ 9000 ∧ (T.extract 0 m24).size ≤ 9000 ∧ K3.size ≤ 9000 ∧ K4.size ≤ 9000 := by
            have e := ByteArray.size_append (a := S1) (b := T)
            refine ⟨by omega, by omega, by omega, by omega, by omega, by omega, by omega, by omega, by omega⟩
          have RN := RowAt.new w18 9 #[.string T, .string S1, .string K1, .string (S1 ++ T), .string T1, .string K2, .string (T.extract 0 m24), .string K3, .string K4]
          have b1 := (Below.refl w18.heap.size w18).alloc (Nat.le_refl _) (.cells #[.string T, .string S1, .string K1, .string (S1 ++ T), .string T1, .string K2, .string (T.extract 0 m24), .string K3, .string K4] 9)
          replace RD := RD.on b1
          replace RR := RR.on b1
          replace b0 := b0.trans (b1.mono b0.size)
          clear b1
          generalize w18.heap.size = q at *
          generalize w18.alloc (.cells #[.string T, .string S1, .string K1, .string (S1 ++ T), .string T1, .string K2, .string (T.extract 0 m24), .string K3, .string K4] 9) = w19 at *
          clear zK1 zK2 zK3 zK4 zS zT zY zZ l200 i200 i24 o24 e24 HT2 HO o1 o2
          go_loopw [196] (fun i wr => ∃ k : Nat, k ≤ 9 ∧ i = .int .i64 k ∧ Below w19.heap.size w19 wr) (fun i _ => 9 - (intOf i).toNat)
          case atStart => exact ⟨0, Nat.zero_le _, rfl, Below.refl _ _⟩
          case round =>
            obtain ⟨i9, hi9, rfl, hb⟩ := hrel
            by_cases hlt : i9 < 9
            · obtain ⟨x, hx, cx⟩ := nine_cells (RN.on hb) zN i9 hlt
              obtain ⟨p0, p1, p2, p3, p4, pn, pon, pf, pl, PE, hp1, hp2, cu, ru⟩ := unvote_both x (by omega)
              obtain ⟨qa, qg, qm, q0, q1, q2, q3, q4, qn, qon, qf, ql, QE, hq0, hq1, hq2, cg, rg⟩ := unagg_both x (by omega)
              obtain ⟨s0, s1, s2, SE, cr, rr⟩ := unrec_both x (by omega)
              have v1 := fun (A B C D : Option Addr) (ca cb cc cd : Nat) W hx hy tx ty => SameVote_eq p0 p1 p2 p3 p4 p0 p1 p2 p3 p4 pn pn pon pon pf pf pl pl A B C D ca cb cc cd W true (sameV_same _ _ _ _ _) hx hy tx ty hp1 hp1 hp2 hp2
              have v3 := fun (A B C D G I : Option Addr) (ca cb cc cd cg ci : Nat) W hx hy tx ty px py => SameAgg_eq qa qa q0 q1 q2 q3 q4 q0 q1 q2 q3 q4 qn qn qon qon qf qf qg qg ql ql qm qm A B C D G I ca cb cc cd cg ci W true (by unfold sameA; rw [decide_eq_true rfl, sameT_refl, sameV_same]; rfl) hx hy tx ty hq1 hq1 hq2 hq2 px py hq0 hq0
              have ePE : (PE != PE) = false := by simp
              have eQE : (QE != QE) = false := by simp
              have eSE : (SE != SE) = false := by simp
              clear hx hp1 hp2 hq0 hq1 hq2
              go_wp2_with fail
              with_reducible refine (cu _).mono ?_
              rintro e y1 ⟨A5, c5, B5, k5, rfl, t1, u1, b2⟩
              clear cx
              replace hb := hb.trans (b2.mono hb.size)
              clear b2 cu
              have Q1 := RowAt.new y1 32 #[.int .u64 (p0 : Int), .int .u64 (p1 : Int), .int .u64 (p2 : Int), .int .u64 (p3 : Int), .int .u64 (p4 : Int), .int .i64 pn, .slice A5 pon.length c5, .bool pf, .slice B5 pl.length k5]
              have b3 := (Below.refl y1.heap.size y1).alloc (Nat.le_refl _) (.cells #[.int .u64 (p0 : Int), .int .u64 (p1 : Int), .int .u64 (p2 : Int), .int .u64 (p3 : Int), .int .u64 (p4 : Int), .int .i64 pn, .slice A5 pon.length c5, .bool pf, .slice B5 pl.length k5] 32)
              replace t1 := t1.on b3
              replace u1 := u1.on b3
              replace hb := hb.trans (b3.mono hb.size)
              clear b3
              go_upto_region 34 with (fail)
              generalize y1.heap.size = g1 at t1 u1 Q1 hb ⊢
              generalize y1.alloc (.cells #[.int .u64 (p0 : Int), .int .u64 (p1 : Int), .int .u64 (p2 : Int), .int .u64 (p3 : Int), .int .u64 (p4 : Int), .int .i64 pn, .slice A5 pon.length c5, .bool pf, .slice B5 pl.length k5] 32) = z1 at t1 u1 Q1 hb ⊢
              go_wp2_with fail
              with_reducible refine (ru _).mono ?_
              rintro e y2 ⟨A6, c6, B6, k6, rfl, t2, u2, b2⟩
              replace t1 := t1.on b2
              replace u1 := u1.on b2
              replace Q1 := Q1.on b2
              replace hb := hb.trans (b2.mono hb.size)
              clear b2 ru
              have Q2 := RowAt.new y2 32 #[.int .u64 (p0 : Int), .int .u64 (p1 : Int), .int .u64 (p2 : Int), .int .u64 (p3 : Int), .int .u64 (p4 : Int), .int .i64 pn, .slice A6 pon.length c6, .bool pf, .slice B6 pl.length k6]
              have b3 := (Below.refl y2.heap.size y2).alloc (Nat.le_refl _) (.cells #[.int .u64 (p0 : Int), .int .u64 (p1 : Int), .int .u64 (p2 : Int), .int .u64 (p3 : Int), .int .u64 (p4 : Int), .int .i64 pn, .slice A6 pon.length c6, .bool pf, .slice B6 pl.length k6] 32)
              replace t1 := t1.on b3
              replace u1 := u1.on b3
              replace t2 := t2.on b3
              replace u2 := u2.on b3
              replace Q1 := Q1.on b3
              replace hb := hb.trans (b3.mono hb.size)
              clear b3
              go_upto_region 35 with (fail)
              generalize y2.heap.size = g2 at t1 u1 t2 u2 Q1 Q2 hb ⊢
              generalize y2.alloc (.cells #[.int .u64 (p0 : Int), .int .u64 (p1 : Int), .int .u64 (p2 : Int), .int .u64 (p3 : Int), .int .u64 (p4 : Int), .int .i64 pn, .slice A6 pon.length c6, .bool pf, .slice B6 pl.length k6] 32) = z2 at t1 u1 t2 u2 Q1 Q2 hb ⊢
              go_wp2_with fail
              with_reducible refine (cg _).mono ?_
              rintro e y3 ⟨C7, j7, A7, c7, B7, k7, rfl, o3, t3, u3, b2⟩
              replace t1 := t1.on b2
              replace u1 := u1.on b2
              replace t2 := t2.on b2
              replace u2 := u2.on b2
              replace Q1 := Q1.on b2
              replace Q2 := Q2.on b2
              replace hb := hb.trans (b2.mono hb.size)
              clear b2 cg
              have Q3 := RowAt.new y3 41 #[.int .u64 (qa : Int), .bool qg, .slice C7 qm.length j7, .int .u64 (q0 : Int), .int .u64 (q1 : Int), .int .u64 (q2 : Int), .int .u64 (q3 : Int), .int .u64 (q4 : Int), .int .i64 qn, .slice A7 qon.length c7, .bool qf, .slice B7 ql.length k7]
              have b3 := (Below.refl y3.heap.size y3).alloc (Nat.le_refl _) (.cells #[.int .u64 (qa : Int), .bool qg, .slice C7 qm.length j7, .int .u64 (q0 : Int), .int .u64 (q1 : Int), .int .u64 (q2 : Int), .int .u64 (q3 : Int), .int .u64 (q4 : Int), .int .i64 qn, .slice A7 qon.length c7, .bool qf, .slice B7 ql.length k7] 41)
              replace t1 := t1.on b3
              replace u1 := u1.on b3
              replace t2 := t2.on b3
              replace u2 := u2.on b3
              replace o3 := o3.on b3
              replace t3 := t3.on b3
              replace u3 := u3.on b3
              replace Q1 := Q1.on b3
              replace Q2 := Q2.on b3
              replace hb := hb.trans (b3.mono hb.size)
              clear b3
              go_upto_region 36 with (fail)
              generalize y3.heap.size = g3 at t1 u1 t2 u2 o3 t3 u3 Q1 Q2 Q3 hb ⊢
              generalize y3.alloc (.cells #[.int .u64 (qa : Int), .bool qg, .slice C7 qm.length j7, .int .u64 (q0 : Int), .int .u64 (q1 : Int), .int .u64 (q2 : Int), .int .u64 (q3 : Int), .int .u64 (q4 : Int), .int .i64 qn, .slice A7 qon.length c7, .bool qf, .slice B7 ql.length k7] 41) = z3 at t1 u1 t2 u2 o3 t3 u3 Q1 Q2 Q3 hb ⊢
              go_wp2_with fail
              with_reducible refine (rg _).mono ?_
              rintro e y4 ⟨C8, j8, A8, c8, B8, k8, rfl, o4, t4, u4_, b2⟩
              replace t1 := t1.on b2
              replace u1 := u1.on b2
              replace t2 := t2.on b2
              replace u2 := u2.on b2
              replace o3 := o3.on b2
              replace t3 := t3.on b2
              replace u3 := u3.on b2
              replace Q1 := Q1.on b2
              replace Q2 := Q2.on b2
              replace Q3 := Q3.on b2
              replace hb := hb.trans (b2.mono hb.size)
              clear b2 rg
              have Q4 := RowAt.new y4 41 #[.int .u64 (qa : Int), .bool qg, .slice C8 qm.length j8, .int .u64 (q0 : Int), .int .u64 (q1 : Int), .int .u64 (q2 : Int), .int .u64 (q3 : Int), .int .u64 (q4 : Int), .int .i64 qn, .slice A8 qon.length c8, .bool qf, .slice B8 ql.length k8]
              have b3 := (Below.refl y4.heap.size y4).alloc (Nat.le_refl _) (.cells #[.int .u64 (qa : Int), .bool qg, .slice C8 qm.length j8, .int .u64 (q0 : Int), .int .u64 (q1 : Int), .int .u64 (q2 : Int), .int .u64 (q3 : Int), .int .u64 (q4 : Int), .int .i64 qn, .slice A8 qon.length c8, .bool qf, .slice B8 ql.length k8] 41)
              replace t1 := t1.on b3
              replace u1 := u1.on b3
              replace t2 := t2.on b3
              replace u2 := u2.on b3
              replace o3 := o3.on b3
              replace t3 := t3.on b3
              replace u3 := u3.on b3
              replace o4 := o4.on b3
              replace t4 := t4.on b3
              replace u4_ := u4_.on b3
              replace Q1 := Q1.on b3
              replace Q2 := Q2.on b3
              replace Q3 := Q3.on b3
              replace hb := hb.trans (b3.mono hb.size)
              clear b3
              go_upto_region 37 with (fail)
              generalize y4.heap.size = g4 at t1 u1 t2 u2 o3 t3 u3 o4 t4 u4_ Q1 Q2 Q3 Q4 hb ⊢
              generalize y4.alloc (.cells #[.int .u64 (qa : Int), .bool qg, .slice C8 qm.length j8, .int .u64 (q0 : Int), .int .u64 (q1 : Int), .int .u64 (q2 : Int), .int .u64 (q3 : Int), .int .u64 (q4 : Int), .int .i64 qn, .slice A8 qon.length c8, .bool qf, .slice B8 ql.length k8] 41) = z4 at t1 u1 t2 u2 o3 t3 u3 o4 t4 u4_ Q1 Q2 Q3 Q4 hb ⊢
              go_wp2_with fail
              with_reducible refine (cr _).mono ?_
              rintro e y5 ⟨rfl, b2⟩
              replace t1 := t1.on b2
              replace u1 := u1.on b2
              replace t2 := t2.on b2
              replace u2 := u2.on b2
              replace o3 := o3.on b2
              replace t3 := t3.on b2
              replace u3 := u3.on b2
              replace o4 := o4.on b2
              replace t4 := t4.on b2
              replace u4_ := u4_.on b2
              replace Q1 := Q1.on b2
              replace Q2 := Q2.on b2
              replace Q3 := Q3.on b2
              replace Q4 := Q4.on b2
              replace hb := hb.trans (b2.mono hb.size)
              clear b2 cr
              have Q5 := RowAt.new y5 37 #[.int .u64 (s0 : Int), .int .u64 (s1 : Int), .int .u64 (s2 : Int)]
              have b3 := (Below.refl y5.heap.size y5).alloc (Nat.le_refl _) (.cells #[.int .u64 (s0 : Int), .int .u64 (s1 : Int), .int .u64 (s2 : Int)] 37)
              replace t1 := t1.on b3
              replace u1 := u1.on b3
              replace t2 := t2.on b3
              replace u2 := u2.on b3
              replace o3 := o3.on b3
              replace t3 := t3.on b3
              replace u3 := u3.on b3
              replace o4 := o4.on b3
              replace t4 := t4.on b3
              replace u4_ := u4_.on b3
              replace Q1 := Q1.on b3
              replace Q2 := Q2.on b3
              replace Q3 := Q3.on b3
              replace Q4 := Q4.on b3
              replace hb := hb.trans (b3.mono hb.size)
              clear b3
              go_upto_region 38 with (fail)
              generalize y5.heap.size = g5 at t1 u1 t2 u2 o3 t3 u3 o4 t4 u4_ Q1 Q2 Q3 Q4 Q5 hb ⊢
              generalize y5.alloc (.cells #[.int .u64 (s0 : Int), .int .u64 (s1 : Int), .int .u64 (s2 : Int)] 37) = z5 at t1 u1 t2 u2 o3 t3 u3 o4 t4 u4_ Q1 Q2 Q3 Q4 Q5 hb ⊢
              go_wp2_with fail
              with_reducible refine (rr _).mono ?_
              rintro e y6 ⟨rfl, b2⟩
              replace t1 := t1.on b2
              replace u1 := u1.on b2
              replace t2 := t2.on b2
              replace u2 := u2.on b2
              replace o3 := o3.on b2
              replace t3 := t3.on b2
              replace u3 := u3.on b2
              replace o4 := o4.on b2
              replace t4 := t4.on b2
              replace u4_ := u4_.on b2
              replace Q1 := Q1.on b2
              replace Q2 := Q2.on b2
              replace Q3 := Q3.on b2
              replace Q4 := Q4.on b2
              replace Q5 := Q5.on b2
              replace hb := hb.trans (b2.mono hb.size)
              clear b2 rr
              have Q6 := RowAt.new y6 37 #[.int .u64 (s0 : Int), .int .u64 (s1 : Int), .int .u64 (s2 : Int)]
              have b3 := (Below.refl y6.heap.size y6).alloc (Nat.le_refl _) (.cells #[.int .u64 (s0 : Int), .int .u64 (s1 : Int), .int .u64 (s2 : Int)] 37)
              replace t1 := t1.on b3
              replace u1 := u1.on b3
              replace t2 := t2.on b3
              replace u2 := u2.on b3
              replace o3 := o3.on b3
              replace t3 := t3.on b3
              replace u3 := u3.on b3
              replace o4 := o4.on b3
              replace t4 := t4.on b3
              replace u4_ := u4_.on b3
              replace Q1 := Q1.on b3
              replace Q2 := Q2.on b3
              replace Q3 := Q3.on b3
              replace Q4 := Q4.on b3
              replace Q5 := Q5.on b3
              replace hb := hb.trans (b3.mono hb.size)
              clear b3
              go_upto_region 39 with (fail)
              generalize y6.heap.size = g6 at t1 u1 t2 u2 o3 t3 u3 o4 t4 u4_ Q1 Q2 Q3 Q4 Q5 Q6 hb ⊢
              generalize y6.alloc (.cells #[.int .u64 (s0 : Int), .int .u64 (s1 : Int), .int .u64 (s2 : Int)] 37) = z6 at t1 u1 t2 u2 o3 t3 u3 o4 t4 u4_ Q1 Q2 Q3 Q4 Q5 Q6 hb ⊢
              have a0 := Q1.cell 0
              have a1 := Q1.cell 1
              have a2 := Q1.cell 2
              have a3 := Q1.cell 3
              have a4 := Q1.cell 4
              have a5 := Q1.cell 5
              have a6 := Q1.cell 6
              have a7 := Q1.cell 7
              have a8 := Q1.cell 8
              have l_0 := Q2.cell 0
              have l_1 := Q2.cell 1
              have l_2 := Q2.cell 2
              have l_3 := Q2.cell 3
              have l_4 := Q2.cell 4
              have l_5 := Q2.cell 5
              have l_6 := Q2.cell 6
              have l_7 := Q2.cell 7
              have l_8 := Q2.cell 8
              simp only [List.getElem?_cons_succ, List.getElem?_cons_zero] at a0 a1 a2 a3 a4 a5 a6 a7 a8 l_0 l_1 l_2 l_3 l_4 l_5 l_6 l_7 l_8
              go_wp2_with fail
              with_reducible refine (v1 _ _ _ _ _ _ _ _ _ t1 t2 u1 u2).mono ?_
              rintro e y7 ⟨rfl, b2⟩
              clear v1 t1 t2 u1 u2 Q1 Q2 a0 a1 a2 a3 a4 a5 a6 a7 a8 l_0 l_1 l_2 l_3 l_4 l_5 l_6 l_7 l_8
              replace o3 := o3.on b2
              replace t3 := t3.on b2
              replace u3 := u3.on b2
              replace o4 := o4.on b2
              replace t4 := t4.on b2
              replace u4_ := u4_.on b2
              replace Q3 := Q3.on b2
              replace Q4 := Q4.on b2
              replace Q5 := Q5.on b2
              replace Q6 := Q6.on b2
              replace hb := hb.trans (b2.mono hb.size)
              clear b2
              have a0 := Q3.cell 0
              have a1 := Q3.cell 1
              have a2 := Q3.cell 2
              have a3 := Q3.cell 3
              have a4 := Q3.cell 4
              have a5 := Q3.cell 5
              have a6 := Q3.cell 6
              have a7 := Q3.cell 7
              have a8 := Q3.cell 8
              have a9 := Q3.cell 9
              have a10 := Q3.cell 10
              have a11 := Q3.cell 11
              have l_0 := Q4.cell 0
              have l_1 := Q4.cell 1
              have l_2 := Q4.cell 2
              have l_3 := Q4.cell 3
              have l_4 := Q4.cell 4
              have l_5 := Q4.cell 5
              have l_6 := Q4.cell 6
              have l_7 := Q4.cell 7
              have l_8 := Q4.cell 8
              have l_9 := Q4.cell 9
              have l_10 := Q4.cell 10
              have l_11 := Q4.cell 11
              simp only [List.getElem?_cons_succ, List.getElem?_cons_zero] at a0 a1 a2 a3 a4 a5 a6 a7 a8 a9 a10 a11 l_0 l_1 l_2 l_3 l_4 l_5 l_6 l_7 l_8 l_9 l_10 l_11
              go_wp2_with fail
              with_reducible refine (v3 _ _ _ _ _ _ _ _ _ _ _ _ _ t3 t4 u3 u4_ o3 o4).mono ?_
              rintro e y8 ⟨rfl, b2⟩
              clear v3 t3 t4 u3 u4_ o3 o4 Q3 Q4 a0 a1 a2 a3 a4 a5 a6 a7 a8 a9 a10 a11 l_0 l_1 l_2 l_3 l_4 l_5 l_6 l_7 l_8 l_9 l_10 l_11
              replace Q5 := Q5.on b2
              replace Q6 := Q6.on b2
              replace hb := hb.trans (b2.mono hb.size)
              clear b2
              have a0 := Q5.cell 0
              have a1 := Q5.cell 1
              have a2 := Q5.cell 2
              have l_0 := Q6.cell 0
              have l_1 := Q6.cell 1
              have l_2 := Q6.cell 2
              simp only [List.getElem?_cons_succ, List.getElem?_cons_zero] at a0 a1 a2 l_0 l_1 l_2
              go_wp2_with fail
              go_roundw
              case rel => exact ⟨i9 + 1, by omega, by go_num, hb⟩
              case measure => simp [intOf]; omega
            · obtain rfl : i9 = 9 := by omega
              clear RN zN
              replace RD := RD.on hb
              replace RR := RR.on hb
              replace b0 := b0.trans (hb.mono b0.size)
              clear hb
              obtain ⟨d0_, d1_, d2_, d3_, d4_⟩ : (∀ p : LaterT wr, p.W.cell? ⟨w.heap.size, 0, none⟩ = some (.int .u64 (e0 : Int))) ∧ (∀ p : LaterT wr, p.W.cell? ⟨w.heap.size, 1, none⟩ = some (.int .u64 (e1 : Int))) ∧ (∀ p : LaterT wr, p.W.cell? ⟨w.heap.size, 2, none⟩ = some (.int .u64 (e2 : Int))) ∧ (∀ p : LaterT wr, p.W.cell? ⟨w.heap.size, 3, none⟩ = some (.int .u64 (e3 : Int))) ∧ (∀ p : LaterT wr, p.W.cell? ⟨w.heap.size, 4, none⟩ = some (.int .u64 (e4 : Int))) := ⟨fun p => (RD.on p.h).cell 0, fun p => (RD.on p.h).cell 1, fun p => (RD.on p.h).cell 2, fun p => (RD.on p.h).cell 3, fun p => (RD.on p.h).cell 4⟩
              obtain ⟨n0_, n1_, n2_⟩ : (∀ p : LaterT wr, p.W.cell? ⟨gr, 0, none⟩ = some (.int .u64 (r0 : Int))) ∧ (∀ p : LaterT wr, p.W.cell? ⟨gr, 1, none⟩ = some (.int .u64 (r1 : Int))) ∧ (∀ p : LaterT wr, p.W.cell? ⟨gr, 2, none⟩ = some (.int .u64 (r2 : Int))) := ⟨fun p => (RR.on p.h).cell 0, fun p => (RR.on p.h).cell 1, fun p => (RR.on p.h).cell 2⟩
              obtain ⟨RO, HR1, HR2⟩ := root_two e0 e1 e2 e3 e4
              obtain ⟨RE, HE1, HE2⟩ := record_two r0 r1 r2
              have HC1 := fun p : LaterT wr => laterT_of (HR1 p.W (hT.below (b0.trans (p.h.mono b0.size)) hT.lt))
              have HC2 := fun p : LaterT wr => laterT_of (HR2 p.W)
              have HC3 := fun p : LaterT wr => laterT_of (HE1 p.W)
              have HC4 := fun p : LaterT wr => laterT_of (HE2 p.W)
              have q1_ : ((RO : Int) == (RO : Int)) = true := by simp
              have q2_ : (RE.toList == RE.toList) = true := by simp
              go_wp2_with fail
              refine wp_region_later0 (by kernel_rfl) (by kernel_rfl) ?_
              repeat (go_big_quiet_step (first | (go_at_call 21; with_reducible exact HC1 _) | (go_at_call 22; with_reducible exact HC2 _) | (go_at_call 23; with_reducible exact HC3 _) | (go_at_call 24; with_reducible exact HC4 _)))
              refine wpQuiet_nil ?_
              intro w' hw'
              obtain ⟨pq, rfl⟩ := hw'
              have b1 := b0.trans (pq.h.mono b0.size)
              generalize pq.W = w20 at b1 ⊢
              clear pq HC1 HC2 HC3 HC4
              go_wp2_with fail
              go_ret
              exact ⟨rfl, b1⟩
end Go.Proofs.YtieheieiolobaaaGreatDoor

namespace Go.Proofs.YtieheieiolobaaaGreatDoor
open Go.RowKit Go.Shelf

theorem byte_of8 {a : Int} (h : (Lit.int .u8 a).wf = true) : ∃ c : UInt8, a = (c.toNat : Int) := by
  have e1 : IntKind.u8.min = 0 := by rfl
  have e2 : IntKind.u8.max = 255 := by rfl
  simp [Lit.wf, e1, e2] at h
  exact ⟨UInt8.ofNat a.toNat, by simp; omega⟩
theorem tells_calls {w : World} (e0 e1 e2 e3 e4 : Nat) (_i0 : e0 < 18446744073709551616) (_i1 : e1 < 18446744073709551616) (_i2 : e2 < 18446744073709551616) (_i3 : e3 < 18446744073709551616) (_i4 : e4 < 18446744073709551616)
    (v0 v1 v2 v3 v4 : Nat) (vn : Int) (von : List Int) (vl : List Pr) (vf : Bool) (vA vB : Option Addr) (vc vk : Nat) (tv : Bt w (.agg #[.int .i64 vn, .slice vA von.length vc]) vn von) (pv : Tk w (.agg #[.bool vf, .slice vB vl.length vk]) vf vl) (hvc : von.length ≤ vc) (hvk : vl.length ≤ vk)
    (x0 x1 x2 x3 x4 n : Int) (on pr : List Int) (A B : Option Addr) (c k : Nat) (b : Bool) (b0 : I64 x0) (b1 : I64 x1) (b2 : I64 x2) (b3 : I64 x3) (b4 : I64 x4) (bn : I64 n) (ho : Ints w w.heap.size (.slice A on.length c) on) (io : ∀ r ∈ on, I64 r) (_lo : on.length ≤ maxLen) (hp : Ints w w.heap.size (.slice B pr.length k) pr) (ip : ∀ r ∈ pr, I64 r) (h9 : pr.length ≤ maxLen)
    (y : Int) (wy : (Lit.int .i64 y).wf = true) (po : List Int) (v : Value) (hq : Ints w w.heap.size v po) (iq : ∀ r ∈ po, -9223372036854775808 ≤ r ∧ r ≤ 9223372036854775807) (h9q : po.length ≤ maxLen)
    (r0 r1 r2 : Nat) (_j0 : r0 < 18446744073709551616) (_j1 : r1 < 18446744073709551616) (_j2 : r2 < 18446744073709551616) (s : ByteArray) (hs : s.size ≤ maxLen) (at_ : Int) (wat : (Lit.int .i64 at_).wf = true) (ch : Int) (wch : (Lit.int .u8 ch).wf = true) (hT : Tab w) :
    Calls Tryz.prog 3 #[.agg #[.int .u64 (e0 : Int), .int .u64 (e1 : Int), .int .u64 (e2 : Int), .int .u64 (e3 : Int), .int .u64 (e4 : Int)], .agg #[.int .u64 (v0 : Int), .int .u64 (v1 : Int), .int .u64 (v2 : Int), .int .u64 (v3 : Int), .int .u64 (v4 : Int), .int .i64 vn, .slice vA von.length vc, .bool vf, .slice vB vl.length vk], .agg #[.int .i64 x0, .int .i64 x1, .int .i64 x2, .int .i64 x3, .int .i64 x4, .int .i64 n, .slice A on.length c, .slice B pr.length k, .bool b], .int .i64 y, v, .agg #[.int .u64 (r0 : Int), .int .u64 (r1 : Int), .int .u64 (r2 : Int)], .string s, .int .i64 at_, .int .u8 ch] w fun e w' => e = .returned (.bool true) ∧ Below w.heap.size w w' := by
  obtain ⟨C, j, rfl, _⟩ := hq.form
  obtain ⟨cb, rfl⟩ := byte_of8 wch
  obtain ⟨d0, d1, d2, d3, d4, N, ON, l, h1, cX⟩ := raw_vote b b0 b1 b2 b3 b4 bn ho io hp ip h9
  obtain ⟨f0, f1, f2, f3, f4, P, y0, OP, r, g, m, h3, hy, hm, fm, h9m, cA⟩ := raw_agg b (i64_wf wy) b0 b1 b2 b3 b4 bn ho io hp ip h9 hq iq h9q
  exact tells_walk e0 e1 e2 e3 e4 v0 v1 v2 v3 v4 r0 r1 r2 vn von vl vf vA vB vc vk s y at_ x0 x1 x2 x3 x4 n on pr po A B C c k j b cb w d0 d1 d2 d3 d4 N f0 f1 f2 f3 f4 P y0 g ON OP l r m hs (i64_wf wat) hT tv pv hvc hvk cX cA h1 h3 hm h9m
end Go.Proofs.YtieheieiolobaaaGreatDoor
