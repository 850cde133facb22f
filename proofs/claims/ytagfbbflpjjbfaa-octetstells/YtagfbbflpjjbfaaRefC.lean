/- The document's own answer for layer 1: Split. -/
import Derived.Test.YtagfbbflpjjbfaaRefB
import Derived.Test.YtagfbbflpjjbfaaOctT
import Derived.Laws.Pointers
namespace Go.Proofs.Ytagfbbflpjjbfaa
open Go.RowKit

theorem rgives {s : ByteArray} {fixed many : Int} {w w' : World} {y : Int} (h : splitOf s.data.toList fixed many = ([], [], y)) (hb : Below w.heap.size w w') :
    SplitGives w (splitOf s.data.toList fixed many) (.returned (.tuple #[.string ⟨#[]⟩, .slice none 0 0, .int .i64 y])) w' := by
  rw [h]; exact ⟨_, [], rfl, Strs.nil _ _, fromOn_nil _, rfl, hb⟩

theorem stopAt_lt (s : Text) (fixed many j : Nat) (h : s.length ≤ 65536) : stopAt s fixed many j < 4294967296 := by
  unfold stopAt; split
  · exact numAt_lt _ _
  · omega

theorem refnum_int (s : ByteArray) (a b : Nat) (w : World) (hb : b = a + 4) (h : b ≤ s.size) :
    Calls Try.prog 23 #[.string (s.extract a b)] w fun e w' => e = .returned (.int .u64 (numAt s.data.toList a)) ∧ w = w' := by
  subst hb
  have hx : (s.extract a (a + 4)).size ≤ 8 := by rw [ext_size _ _ _ h]; omega
  have he : leNum (s.extract a (a + 4)).data.toList = numAt s.data.toList a := by
    rw [ext_list]; unfold numAt; rw [show a + 4 - a = 4 by omega]
  have := refnumber_any (s.extract a (a + 4)) w hx
  rw [he] at this
  exact this

set_option maxHeartbeats 2000000 in
set_option maxRecDepth 100000 in
theorem refSplit_ok (s : ByteArray) (fixed many : Nat) (w : World) (hf : fixed ≤ 65536) (hm : many ≤ 8) (hl : s.size ≤ 65536) (h : fixed + 4 * many ≤ s.size) :
    Calls Try.prog 18 #[.string s, .int .i64 fixed, .int .i64 many] w (SplitGives w (splitOf s.data.toList fixed many)) := by
  obtain ⟨i0, hi, hz0, hz1, hz2⟩ := info_parts info_str
  have hd0 : decide ((fixed : Int) < 0) = false := by simp
  have hd00 : decide ((many : Int) < 0) = false := by simp
  have hd1 : decide ((65536 : Int) < (fixed : Int)) = false := by simp; omega
  have hd2 : decide ((8 : Int) < (many : Int)) = false := by simp; omega
  have hd3 : decide ((65536 : Int) < (s.size : Int)) = false := by simp; omega
  have hd4 : decide ((s.size : Int) < (fixed : Int) + 4 * (many : Int)) = false := by simp; omega
  go_enter Try.func18, Try.ntmps18
  go_wp2_with fail
  go_loopw [9, 10] (fun o i wr => ∃ k : Nat, k ≤ many ∧ i = .int .i64 k ∧ wr.ownsRow w.heap.size 9 1 o k ((fparts s fixed many k).map Value.string) ∧ (∀ j, j < k → partOk s.data.toList fixed many j = true) ∧ Below w.heap.size w wr) (fun _ i _ => many - (intOf i).toNat)
  case atStart => exact ⟨0, Nat.zero_le _, rfl, World.ownsRow_nil _ _ _ _, fun j hj => absurd hj (by omega), Below.refl _ _⟩
  case round =>
    obtain ⟨k, hk, rfl, hown, hall, hb⟩ := hrel
    clear hd0 hd00 hd1 hd2 hd3 hd4
    have HA := Lib.hid hall
    clear hall
    have hz := hb.size
    by_cases hlt : k < many
    · have hfr := numAt_lt s.data.toList (fixed + 4 * k)
      by_cases hlast : k + 1 < many
      · have hdn : decide ((k : Int) + 1 < (many : Int)) = true := by simp; omega
        have hto := numAt_lt s.data.toList (fixed + 4 * k + 4)
        generalize hfe : numAt s.data.toList (fixed + 4 * k) = fr at *
        have HF := Lib.hid hfe
        generalize hte : numAt s.data.toList (fixed + 4 * k + 4) = to at *
        have HS := Lib.hid (show stopAt s.data.toList fixed many k = to by unfold stopAt; rw [if_pos hlast]; exact hte)
        have HT := Lib.hid hte
        clear hfe hte
        go_wp2_with fail
        with_reducible refine (refnum_int s _ _ _ ?_ ?_).mono ?_
        · omega
        · omega
        rintro e w1 ⟨rfl, rfl⟩
        rw [HF.out]
        go_wp2_with fail
        with_reducible refine (refnum_int s _ _ _ ?_ ?_).mono ?_
        · omega
        · omega
        rintro e w1 ⟨rfl, rfl⟩
        rw [HT.out]
        by_cases hgt : to < fr
        · have hdg : decide (to < fr) = true := by simpa using hgt
          have HN := Lib.hid (splitOf_fwd_no s fixed many hf hm hl h (.inl ⟨k, hlt, by unfold partOk; rw [HS.out, HF.out]; simp; omega⟩))
          go_wp2_with fail
          go_ret3
          exact rgives HN.out hb
        · have hdg : decide (to < fr) = false := by simpa using hgt
          by_cases hgl : s.size < to
          · have hdl : decide (s.size < to) = true := by simpa using hgl
            have HN := Lib.hid (splitOf_fwd_no s fixed many hf hm hl h (.inl ⟨k, hlt, by unfold partOk; rw [HS.out, HF.out, size_list]; simp; omega⟩))
            go_wp2_with fail
            go_ret3
            exact rgives HN.out hb
          · have hdl : decide (s.size < to) = false := by simpa using hgl
            have hown' : ∀ g, u9.ownBlock = some g → w.heap.size ≤ g := fun g hg => (hown.lt g hg).1
            have HP := Lib.hid (show fpart s fixed many k = s.extract fr to by unfold fpart; rw [HS.out, HF.out])
            have HQ := Lib.hid (show partOk s.data.toList fixed many k = true by unfold partOk; rw [HS.out, HF.out, size_list]; simp; omega)
            go_wp2_with (at_builtin; refine wpList_append_own _ rfl _ _ 23 rfl w.heap.size 9 i0 (.string ⟨#[]⟩) 1 16 Try.underlying23 hi hz0 hz1 hz2 rfl (by decide) _ _ _ rfl (hown.alloc _) ⟨wr.heap.size, 0, none⟩ 1 1 [.string (s.extract fr to)] rfl rfl ?c1 ?c2 ?c3 ?c4 ?c5 ?_)
            case c1 =>
              intro j u hj
              match j, hj with
              | 0, hj => simp at hj; subst hj; simp [Addr.add]
            case c2 => intro u hu; simp at hu; subst hu; rfl
            case c3 => unfold maxLen; omega
            case c4 => omega
            case c5 => simp; omega
            intro v' w1 hown1 hgrow _
            have R : w1.ownsRow w.heap.size 9 1 v' (k + 1) ((fparts s fixed many (k + 1)).map Value.string) := by
              rw [fparts_succ, List.map_append, HP.out]; exact hown1
            have hbn : Below w.heap.size w w1 := (hb.alloc hz _).grown hgrow (by simp; omega) (fun g hg => hown' g hg)
            clear hown1 hgrow hown hb hown'
            go_wp2_with fail
            go_roundw
            case rel =>
              refine ⟨k + 1, by omega, by go_num, R, ?_, hbn⟩
              intro j hj
              by_cases hjk : j < k
              · exact HA.out j hjk
              · rw [show j = k by omega]; exact HQ.out
            case measure => simp [intOf]; omega
      · have hdn : decide ((k : Int) + 1 < (many : Int)) = false := by simp; omega
        generalize hfe : numAt s.data.toList (fixed + 4 * k) = fr at *
        have HF := Lib.hid hfe
        have HS := Lib.hid (show stopAt s.data.toList fixed many k = s.size by unfold stopAt; rw [if_neg hlast, size_list])
        clear hfe
        go_wp2_with fail
        with_reducible refine (refnum_int s _ _ _ ?_ ?_).mono ?_
        · omega
        · omega
        rintro e w1 ⟨rfl, rfl⟩
        rw [HF.out]
        by_cases hgt : s.size < fr
        · have hdg : decide (s.size < fr) = true := by simpa using hgt
          have HN := Lib.hid (splitOf_fwd_no s fixed many hf hm hl h (.inl ⟨k, hlt, by unfold partOk; rw [HS.out, HF.out]; simp; omega⟩))
          go_wp2_with fail
          go_ret3
          exact rgives HN.out hb
        · have hdg : decide (s.size < fr) = false := by simpa using hgt
          have hdl : decide (s.size < s.size) = false := by simp
          have hown' : ∀ g, u9.ownBlock = some g → w.heap.size ≤ g := fun g hg => (hown.lt g hg).1
          have HP := Lib.hid (show fpart s fixed many k = s.extract fr s.size by unfold fpart; rw [HS.out, HF.out])
          have HQ := Lib.hid (show partOk s.data.toList fixed many k = true by unfold partOk; rw [HS.out, HF.out, size_list]; simp; omega)
          go_wp2_with (at_builtin; refine wpList_append_own _ rfl _ _ 23 rfl w.heap.size 9 i0 (.string ⟨#[]⟩) 1 16 Try.underlying23 hi hz0 hz1 hz2 rfl (by decide) _ _ _ rfl (hown.alloc _) ⟨wr.heap.size, 0, none⟩ 1 1 [.string (s.extract fr s.size)] rfl rfl ?e1 ?e2 ?e3 ?e4 ?e5 ?_)
          case e1 =>
            intro j u hj
            match j, hj with
            | 0, hj => simp at hj; subst hj; simp [Addr.add]
          case e2 => intro u hu; simp at hu; subst hu; rfl
          case e3 => unfold maxLen; omega
          case e4 => omega
          case e5 => simp; omega
          intro v' w1 hown1 hgrow _
          have R : w1.ownsRow w.heap.size 9 1 v' (k + 1) ((fparts s fixed many (k + 1)).map Value.string) := by
            rw [fparts_succ, List.map_append, HP.out]; exact hown1
          have hbn : Below w.heap.size w w1 := (hb.alloc hz _).grown hgrow (by simp; omega) (fun g hg => hown' g hg)
          clear hown1 hgrow hown hb hown'
          go_wp2_with fail
          go_roundw
          case rel =>
            refine ⟨k + 1, by omega, by go_num, R, ?_, hbn⟩
            intro j hj
            by_cases hjk : j < k
            · exact HA.out j hjk
            · rw [show j = k by omega]; exact HQ.out
          case measure => simp [intOf]; omega
    · obtain rfl : k = many := by omega
      have hown2 : wr.ownsRow w.heap.size 9 1 u9 (fparts s fixed k k).length ((fparts s fixed k k).map Value.string) := by rw [fparts_length]; exact hown
      have hvs := Strs.own hown2
      have hfrom : FromOn w.heap.size u9 := fun ad n c e => by subst e; exact (hown.lt ad.block rfl).1
      have hsz : (s.extract 0 fixed).size ≤ 65536 := by rw [ext_size _ _ _ (by omega)]; omega
      have hfl := fparts_length s fixed k k
      have HE := Lib.hid (show (s.extract 0 fixed).data.toList = s.data.toList.take fixed by rw [ext_list]; simp)
      have hlen : (fparts s fixed k k).length ≤ 8 := by omega
      clear hown hown2 hfl
      obtain ⟨A, c, rfl, hcc⟩ := hvs.form
      by_cases hj : wholeOf (s.data.toList.take fixed) (txts (fparts s fixed k k)) = s.data.toList
      · have HY := Lib.hid (splitOf_fwd_yes s fixed k hm hl h hj)
        have HJ := Lib.hid (joinOf_of_split (splitOf_fwd_yes s fixed k hm hl h hj))
        generalize fparts s fixed k k = qs at *
        clear hj
        go_wp2_with fail
        with_reducible refine (refJoin_any _ _ _ _ hvs (by omega) (by omega)).mono ?_
        rintro e w1 ⟨rfl, hb1⟩
        rw [HE.out, HJ.out]
        have hxx : (ByteArray.mk (s.data.toList).toArray) = s := by apply WideShapes.bytes_inj; simp
        rw [hxx]
        have hvs1 := (hvs.below hb1 (Nat.le_refl _)).more hb1.size
        have hbn : Below w.heap.size w w1 := hb.trans (hb1.mono hz)
        clear hb1 hb hvs hxx
        go_wp2_with fail
        go_ret3
        rw [HY.out]
        exact ⟨_, qs, by rw [← ext_zero]; rfl, hvs1, hfrom, rfl, hbn⟩
      · have HN := Lib.hid (splitOf_fwd_no s fixed k hf hm hl h (.inr hj))
        have hcase : (∃ t : Text, t ≠ s.data.toList ∧ joinOf (s.data.toList.take fixed) (txts (fparts s fixed k k)) = (t, 0)) ∨ joinOf (s.data.toList.take fixed) (txts (fparts s fixed k k)) = ([], 4) := by
          unfold joinOf
          split
          · exact .inl ⟨_, hj, rfl⟩
          · exact .inr rfl
        generalize fparts s fixed k k = qs at *
        clear hj
        rcases hcase with ⟨t, htn, hjo⟩ | hjo
        · have HJ := Lib.hid hjo
          have hne : (t == s.toList) = false := beq_eq_false_iff_ne.2 (by rw [ByteArray.toList_eq]; exact htn)
          clear hjo
          go_wp2_with fail
          with_reducible refine (refJoin_any _ _ _ _ hvs (by omega) (by omega)).mono ?_
          rintro e w1 ⟨rfl, hb1⟩
          rw [HE.out, HJ.out]
          have hbn : Below w.heap.size w w1 := hb.trans (hb1.mono hz)
          clear hb1 hb hvs
          go_wp2_with fail
          go_ret3
          exact rgives HN.out hbn
        · have HJ := Lib.hid hjo
          clear hjo
          go_wp2_with fail
          with_reducible refine (refJoin_any _ _ _ _ hvs (by omega) (by omega)).mono ?_
          rintro e w1 ⟨rfl, hb1⟩
          rw [HE.out, HJ.out]
          have hbn : Below w.heap.size w w1 := hb.trans (hb1.mono hz)
          clear hb1 hb hvs
          go_wp2_with fail
          go_ret3
          exact rgives HN.out hbn

theorem refSplit_any (s : ByteArray) (fixed many : Int) (w : World) (hs : s.size ≤ 9223372036854775807) :
    Calls Try.prog 18 #[.string s, .int .i64 fixed, .int .i64 many] w (SplitGives w (splitOf s.data.toList fixed many)) := by
  by_cases h1 : 0 ≤ fixed ∧ fixed ≤ 65536
  · have hd0 : decide (fixed < 0) = false := by simp; omega
    have hd1 : decide (65536 < fixed) = false := by simp; omega
    by_cases h2 : 0 ≤ many ∧ many ≤ 8
    · obtain ⟨f, rfl⟩ := Int.eq_ofNat_of_zero_le h1.1
      obtain ⟨m, rfl⟩ := Int.eq_ofNat_of_zero_le h2.1
      by_cases h3 : s.size ≤ 65536
      · by_cases h4 : f + 4 * m ≤ s.size
        · exact refSplit_ok s f m w (by omega) (by omega) h3 h4
        · have HN := Lib.hid (show splitOf s.data.toList (f : Int) (m : Int) = ([], [], 3) by
            unfold splitOf
            rw [size_list, if_pos h1, if_pos h2, if_pos h3, Int.toNat_natCast, Int.toNat_natCast, if_neg h4])
          have hd2 : decide ((8 : Int) < (m : Int)) = false := by simp; omega
          have hd00 : decide ((m : Int) < 0) = false := by simp
          have hd3 : decide ((65536 : Int) < (s.size : Int)) = false := by simp; omega
          have hd4 : decide ((s.size : Int) < (f : Int) + 4 * (m : Int)) = true := by simp; omega
          go_enter Try.func18, Try.ntmps18
          go_wp2_with fail
          go_ret3
          exact rgives HN.out (Below.refl _ _)
      · have HN := Lib.hid (show splitOf s.data.toList (f : Int) (m : Int) = ([], [], 4) by
          unfold splitOf
          rw [size_list, if_pos h1, if_pos h2, if_neg h3])
        have hd2 : decide ((8 : Int) < (m : Int)) = false := by simp; omega
        have hd00 : decide ((m : Int) < 0) = false := by simp
        have hd3 : decide ((65536 : Int) < (s.size : Int)) = true := by simp; omega
        go_enter Try.func18, Try.ntmps18
        go_wp2_with fail
        go_ret3
        exact rgives HN.out (Below.refl _ _)
    · have HN := Lib.hid (show splitOf s.data.toList fixed many = ([], [], 1) by
        unfold splitOf
        rw [if_pos h1, if_neg h2])
      by_cases hm0 : many < 0
      · have hd00 : decide (many < 0) = true := by simp; omega
        go_enter Try.func18, Try.ntmps18
        go_wp2_with fail
        go_ret3
        exact rgives HN.out (Below.refl _ _)
      · have hd00 : decide (many < 0) = false := by simp; omega
        have hd2 : decide (8 < many) = true := by simp; omega
        go_enter Try.func18, Try.ntmps18
        go_wp2_with fail
        go_ret3
        exact rgives HN.out (Below.refl _ _)
  · have HN := Lib.hid (show splitOf s.data.toList fixed many = ([], [], 1) by
      unfold splitOf
      rw [if_neg h1])
    by_cases hf0 : fixed < 0
    · have hd0 : decide (fixed < 0) = true := by simp; omega
      go_enter Try.func18, Try.ntmps18
      go_wp2_with fail
      go_ret3
      exact rgives HN.out (Below.refl _ _)
    · have hd0 : decide (fixed < 0) = false := by simp; omega
      have hd1 : decide (65536 < fixed) = true := by simp; omega
      go_enter Try.func18, Try.ntmps18
      go_wp2_with fail
      go_ret3
      exact rgives HN.out (Below.refl _ _)
end Go.Proofs.Ytagfbbflpjjbfaa
