/- awake: chapter 7's examples. -/
import Derived.Test.YtjjccoliknngcaaOrcT
namespace Go.Proofs.Ytjjccoliknngcaa
open Go.RowKit Go.Lib

theorem aw_short0 : Short [] := by unfold Short; simp
theorem aw_shortY : Short [⟨[2, 1], 7, false, awT⟩, ⟨[2, 1], 7, false, awT⟩] := by unfold Short; simp [awT]
theorem aw_shortN : Short [⟨[2, 1], 7, false, awT⟩, ⟨[1], 7, false, awT⟩] := by unfold Short; simp [awT]
theorem aw_allY : ([⟨[2, 1], 7, false, awT⟩, ⟨[2, 1], 7, false, awT⟩] : List Itm).all (Itm.ok awT) = true := by simp [Itm.ok, aw_checkY]
theorem aw_allN : ([⟨[2, 1], 7, false, awT⟩, ⟨[1], 7, false, awT⟩] : List Itm).all (Itm.ok awT) = false := by simp [Itm.ok, aw_checkL]

set_option maxHeartbeats 4000000 in
set_option maxRecDepth 100000 in
theorem awake7_any (w : World) : Calls Try.prog 9 #[] w fun e w' => e = .returned (.bool true) ∧ Below w.heap.size w w' := by
  go_enter Try.func9, Try.ntmps9
  have hA := Prs.row (l := [(2, 7), (1, 7), (2, 7)]) (RowAt.new w 27 #[.int .u64 2, .int .u64 7, .int .u64 1, .int .u64 7, .int .u64 2, .int .u64 7])
  have bA := (Below.refl w.heap.size w).alloc (Nat.le_refl _) (.cells #[.int .u64 2, .int .u64 7, .int .u64 1, .int .u64 7, .int .u64 2, .int .u64 7] 27)
  go_wp2_with fail
  with_reducible refine (aw_add (.slice (some ⟨w.heap.size, 0, none⟩) 3 3) _ hA).mono ?_
  rintro e w1 ⟨A, c, rfl, hT, b1⟩
  have B1 := bA.trans (b1.mono bA.size)
  clear hA bA b1
  have hK := Elems.row (enc := fun n : Nat => Value.int .u64 (n : Int)) (xs := [2, 1]) (RowAt.new w1 25 #[.int .u64 2, .int .u64 1])
  have bK := (Below.refl w1.heap.size w1).alloc (Nat.le_refl _) (.cells #[.int .u64 2, .int .u64 1] 25)
  go_wp2_with fail
  with_reducible refine (aw_sign (.slice (some ⟨w1.heap.size, 0, none⟩) 2 2) _ hK).mono ?_
  rintro e w2 ⟨S, sc, rfl, hS, b2⟩
  have b12 := bK.trans (b2.mono bK.size)
  replace hT := hT.on b12
  have B2 := B1.trans (b12.mono B1.size)
  clear hK bK b2 b12 B1
  go_upto_region 3 with (fail)
  have qS := RowAt.new w2 40 #[.bool false, .slice S 2 sc]
  have b3 := (Below.refl w2.heap.size w2).alloc (Nat.le_refl _) (.cells #[.bool false, .slice S 2 sc] 40)
  replace hT := hT.on b3
  replace hS := hS.on b3
  have B3 := B2.trans (b3.mono B2.size)
  clear b3 B2
  have zS := qS.lt
  generalize w2.alloc (.cells #[.bool false, .slice S 2 sc] 40) = w3 at *
  generalize w2.heap.size = gS at *
  have hA := Prs.row (l := [(2, 0), (1, 0)]) (RowAt.new w3 27 #[.int .u64 2, .int .u64 0, .int .u64 1, .int .u64 0])
  have bA := (Below.refl w3.heap.size w3).alloc (Nat.le_refl _) (.cells #[.int .u64 2, .int .u64 0, .int .u64 1, .int .u64 0] 27)
  go_wp2_with fail
  with_reducible refine (aw_addw (.slice (some ⟨w3.heap.size, 0, none⟩) 2 2) _ hA).mono ?_
  rintro e w4 ⟨N, nc, rfl, b4⟩
  have b34 := bA.trans (b4.mono bA.size)
  replace hT := hT.on b34
  replace hS := hS.on b34
  replace qS := qS.on b34
  have B4 := B3.trans (b34.mono B3.size)
  clear hA bA b4 b34 B3 zS
  -- region 4: the keys, the item
  have bK := (Below.refl w4.heap.size w4).alloc (Nat.le_refl _) (.cells #[.int .u64 2, .int .u64 1] 25)
  have k4 := RowAt.new w4 25 #[.int .u64 2, .int .u64 1]
  have qK := qS.on bK
  obtain ⟨s0, s1⟩ := qK.two
  go_upto_region 5 with (fail)
  clear s0 s1 qK
  have i4 := RowAt.new (w4.alloc (.cells #[.int .u64 2, .int .u64 1] 25)) 44 #[.slice (some ⟨w4.heap.size, 0, none⟩) 2 2, .int .u64 7, .bool false, .slice S 2 sc]
  rw [World.size_alloc] at i4
  have bI := (Below.refl _ (w4.alloc (.cells #[.int .u64 2, .int .u64 1] 25))).alloc (Nat.le_refl _) (.cells #[.slice (some ⟨w4.heap.size, 0, none⟩) 2 2, .int .u64 7, .bool false, .slice S 2 sc] 44)
  replace k4 := k4.on bI
  have bb := bK.trans (bI.mono bK.size)
  replace hT := hT.on bb
  replace hS := hS.on bb
  replace qS := qS.on bb
  have B5 := B4.trans (bb.mono B4.size)
  clear bK bI bb B4
  generalize (w4.alloc (.cells #[.int .u64 2, .int .u64 1] 25)).alloc (.cells #[.slice (some ⟨w4.heap.size, 0, none⟩) 2 2, .int .u64 7, .bool false, .slice S 2 sc] 44) = w5 at *
  generalize w4.heap.size + 1 = gI4 at *
  generalize w4.heap.size = gK4 at *
  -- region 5: the keys, the item
  have bK := (Below.refl w5.heap.size w5).alloc (Nat.le_refl _) (.cells #[.int .u64 2, .int .u64 1] 25)
  have k5 := RowAt.new w5 25 #[.int .u64 2, .int .u64 1]
  have qK := qS.on bK
  obtain ⟨s0, s1⟩ := qK.two
  go_upto_region 6 with (fail)
  clear s0 s1 qK
  have i5 := RowAt.new (w5.alloc (.cells #[.int .u64 2, .int .u64 1] 25)) 44 #[.slice (some ⟨w5.heap.size, 0, none⟩) 2 2, .int .u64 8, .bool false, .slice S 2 sc]
  rw [World.size_alloc] at i5
  have bI := (Below.refl _ (w5.alloc (.cells #[.int .u64 2, .int .u64 1] 25))).alloc (Nat.le_refl _) (.cells #[.slice (some ⟨w5.heap.size, 0, none⟩) 2 2, .int .u64 8, .bool false, .slice S 2 sc] 44)
  replace k5 := k5.on bI
  have bb := bK.trans (bI.mono bK.size)
  replace hT := hT.on bb
  replace hS := hS.on bb
  replace qS := qS.on bb
  replace k4 := k4.on bb
  replace i4 := i4.on bb
  have B6 := B5.trans (bb.mono B5.size)
  clear bK bI bb B5
  generalize (w5.alloc (.cells #[.int .u64 2, .int .u64 1] 25)).alloc (.cells #[.slice (some ⟨w5.heap.size, 0, none⟩) 2 2, .int .u64 8, .bool false, .slice S 2 sc] 44) = w6 at *
  generalize w5.heap.size + 1 = gI5 at *
  generalize w5.heap.size = gK5 at *
  -- region 6: the keys, the item
  have bK := (Below.refl w6.heap.size w6).alloc (Nat.le_refl _) (.cells #[.int .u64 1] 25)
  have k6 := RowAt.new w6 25 #[.int .u64 1]
  have qK := qS.on bK
  obtain ⟨s0, s1⟩ := qK.two
  go_upto_region 7 with (fail)
  clear s0 s1 qK
  have i6 := RowAt.new (w6.alloc (.cells #[.int .u64 1] 25)) 44 #[.slice (some ⟨w6.heap.size, 0, none⟩) 1 1, .int .u64 7, .bool false, .slice S 2 sc]
  rw [World.size_alloc] at i6
  have bI := (Below.refl _ (w6.alloc (.cells #[.int .u64 1] 25))).alloc (Nat.le_refl _) (.cells #[.slice (some ⟨w6.heap.size, 0, none⟩) 1 1, .int .u64 7, .bool false, .slice S 2 sc] 44)
  replace k6 := k6.on bI
  have bb := bK.trans (bI.mono bK.size)
  replace hT := hT.on bb
  replace hS := hS.on bb
  replace qS := qS.on bb
  replace k4 := k4.on bb
  replace i4 := i4.on bb
  replace k5 := k5.on bb
  replace i5 := i5.on bb
  have B7 := B6.trans (bb.mono B6.size)
  clear bK bI bb B6
  generalize (w6.alloc (.cells #[.int .u64 1] 25)).alloc (.cells #[.slice (some ⟨w6.heap.size, 0, none⟩) 1 1, .int .u64 7, .bool false, .slice S 2 sc] 44) = w7 at *
  generalize w6.heap.size + 1 = gI6 at *
  generalize w6.heap.size = gK6 at *
  have K4 : Wds w7 w7.heap.size (.slice (some ⟨gK4, 0, none⟩) 2 2) [2, 1] := Elems.row (enc := fun n : Nat => Value.int .u64 (n : Int)) (xs := [2, 1]) k4
  have K5 : Wds w7 w7.heap.size (.slice (some ⟨gK5, 0, none⟩) 2 2) [2, 1] := Elems.row (enc := fun n : Nat => Value.int .u64 (n : Int)) (xs := [2, 1]) k5
  have K6 : Wds w7 w7.heap.size (.slice (some ⟨gK6, 0, none⟩) 1 1) [1] := Elems.row (enc := fun n : Nat => Value.int .u64 (n : Int)) (xs := [1]) k6
  clear k4 k5 k6
  have bA := (Below.refl w7.heap.size w7).alloc (Nat.le_refl _) (.cells #[.int .u64 1, .int .u64 7, .int .u64 2, .int .u64 7] 27)
  have bB := bA
  go_wp2_with fail
  with_reducible refine (aw_pairs A c (.slice (some ⟨w7.heap.size, 0, none⟩) 2 2) _ (hT.on bB) (Prs.row (l := awT) (RowAt.new w7 27 #[.int .u64 1, .int .u64 7, .int .u64 2, .int .u64 7]))).mono ?_
  rintro e v8 ⟨rfl, bN⟩
  have bX := bB.trans (bN.mono bB.size)
  clear bN bA bB
  have bW := bX
  clear bX
  obtain ⟨s0, s1⟩ := (qS.on bW).two
  obtain ⟨x0, x1, x2, x3⟩ := (i4.on bW).four
  go_wp2_with fail
  with_reducible refine (aw_check A S c sc (some ⟨gK4, 0, none⟩) 2 2 7 [2, 1] 7 true aw_checkY rfl rfl (by decide) (by decide) _ (hT.on bW) (K4.on bW) (hS.on bW)).mono ?_
  rintro e v9 ⟨rfl, bN⟩
  have bX := bW.trans (bN.mono bW.size)
  clear bN bW
  have bW := bX
  clear bX
  clear x0 x1 x2 x3
  clear s0 s1
  obtain ⟨x0, x1, x2, x3⟩ := (i5.on bW).four
  go_wp2_with fail
  with_reducible refine (aw_check A S c sc (some ⟨gK5, 0, none⟩) 2 2 8 [2, 1] 8 false aw_checkN rfl rfl (by decide) (by decide) _ (hT.on bW) (K5.on bW) (hS.on bW)).mono ?_
  rintro e v10 ⟨rfl, bN⟩
  have bX := bW.trans (bN.mono bW.size)
  clear bN bW
  have bW := bX
  clear bX
  clear x0 x1 x2 x3
  obtain ⟨x0, x1, x2, x3⟩ := (i6.on bW).four
  go_wp2_with fail
  with_reducible refine (aw_check A S c sc (some ⟨gK6, 0, none⟩) 1 1 7 [1] 7 false aw_checkL rfl rfl (by decide) (by decide) _ (hT.on bW) (K6.on bW) (hS.on bW)).mono ?_
  rintro e v11 ⟨rfl, bN⟩
  have bX := bW.trans (bN.mono bW.size)
  clear bN bW
  have bW := bX
  clear bX
  clear x0 x1 x2 x3
  go_wp2_with fail
  with_reducible refine (aw_all A c (.slice none 0 0) [] true rfl aw_short0 (by simp) _ (hT.on bW) (ItRow.nil _)).mono ?_
  rintro e v12 ⟨rfl, bN⟩
  have bX := bW.trans (bN.mono bW.size)
  clear bN bW
  have bW := bX
  clear bX
  obtain ⟨x0, x1, x2, x3⟩ := (i4.on bW).four
  have bA := (Below.refl v12.heap.size v12).alloc (Nat.le_refl _) (.cells #[.slice (some ⟨gK4, 0, none⟩) 2 2, .int .u64 7, .bool false, .slice S 2 sc, .slice (some ⟨gK4, 0, none⟩) 2 2, .int .u64 7, .bool false, .slice S 2 sc] 44)
  have bB := bW.trans (bA.mono bW.size)
  go_wp2_with fail
  with_reducible refine (aw_all A c (.slice (some ⟨v12.heap.size, 0, none⟩) 2 2) [⟨[2, 1], 7, false, awT⟩, ⟨[2, 1], 7, false, awT⟩] true aw_allY aw_shortY (by simp) _ (hT.on bB) (two_items (i1 := ⟨[2, 1], 7, false, awT⟩) (i2 := ⟨[2, 1], 7, false, awT⟩) (RowAt.new v12 44 #[.slice (some ⟨gK4, 0, none⟩) 2 2, .int .u64 7, .bool false, .slice S 2 sc, .slice (some ⟨gK4, 0, none⟩) 2 2, .int .u64 7, .bool false, .slice S 2 sc]) (K4.on bB) (hS.on bB) (K4.on bB) (hS.on bB))).mono ?_
  rintro e v13 ⟨rfl, bN⟩
  have bX := bB.trans (bN.mono bB.size)
  clear bN bA bB bW
  have bW := bX
  clear bX
  clear x0 x1 x2 x3
  obtain ⟨x0, x1, x2, x3⟩ := (i4.on bW).four
  obtain ⟨y0, y1, y2, y3⟩ := (i6.on bW).four
  have bA := (Below.refl v13.heap.size v13).alloc (Nat.le_refl _) (.cells #[.slice (some ⟨gK4, 0, none⟩) 2 2, .int .u64 7, .bool false, .slice S 2 sc, .slice (some ⟨gK6, 0, none⟩) 1 1, .int .u64 7, .bool false, .slice S 2 sc] 44)
  have bB := bW.trans (bA.mono bW.size)
  go_wp2_with fail
  with_reducible refine (aw_all A c (.slice (some ⟨v13.heap.size, 0, none⟩) 2 2) [⟨[2, 1], 7, false, awT⟩, ⟨[1], 7, false, awT⟩] false aw_allN aw_shortN (by simp) _ (hT.on bB) (two_items (i1 := ⟨[2, 1], 7, false, awT⟩) (i2 := ⟨[1], 7, false, awT⟩) (RowAt.new v13 44 #[.slice (some ⟨gK4, 0, none⟩) 2 2, .int .u64 7, .bool false, .slice S 2 sc, .slice (some ⟨gK6, 0, none⟩) 1 1, .int .u64 7, .bool false, .slice S 2 sc]) (K4.on bB) (hS.on bB) (K6.on bB) (hS.on bB))).mono ?_
  rintro e v14 ⟨rfl, bN⟩
  have bX := bB.trans (bN.mono bB.size)
  clear bN bA bB bW
  have bW := bX
  clear bX
  clear x0 x1 x2 x3
  clear y0 y1 y2 y3
  go_wp2_with fail
  with_reducible refine (aw_rightC A c _ (hT.on bW)).mono ?_
  rintro e v15 ⟨rfl, bN⟩
  have bX := bW.trans (bN.mono bW.size)
  clear bN bW
  have bW := bX
  clear bX
  go_wp2_with fail
  with_reducible refine (aw_validY A c _ (hT.on bW)).mono ?_
  rintro e v16 ⟨rfl, bN⟩
  have bX := bW.trans (bN.mono bW.size)
  clear bN bW
  have bW := bX
  clear bX
  go_wp2_with fail
  with_reducible refine (aw_validN A c _ (hT.on bW)).mono ?_
  rintro e v17 ⟨rfl, bN⟩
  have bX := bW.trans (bN.mono bW.size)
  clear bN bW
  have bW := bX
  clear bX
  have BW := B7.trans (bW.mono B7.size)
  go_wp2_with fail
  go_ret
  exact ⟨rfl, BW⟩
end Go.Proofs.Ytjjccoliknngcaa
