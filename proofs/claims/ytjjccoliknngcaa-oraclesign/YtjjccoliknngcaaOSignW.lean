/- Layer 7: Sign and Check with their answers named; small words for its laws.
   Layer 7: plain facts for OracleSign and OracleOne; words of appended slices.
   The walk of OracleSign. -/
import Derived.Test.YtjjccoliknngcaaOrcV
import Derived.OpenShut
import Derived.Deep.CutRange
namespace Go.Proofs.Ytjjccoliknngcaa
open Go.RowKit Go.Lib

/-- Sign of few keys, with the answer named. -/
theorem Sign_eq (r : Nat) (v : Value) (ks : List Nat) (l : List Pr) (hl : signL r ks = l) (w : World) (hv : Wds w w.heap.size v ks) (h9 : ks.length ≤ 2048) :
    Calls Try.prog 25 #[.int .u64 r, v] w fun e w' => ∃ A c, e = .returned (.tuple #[.agg #[.bool false, .slice A l.length c], .int .i64 0]) ∧ Prs w' w'.heap.size (.slice A l.length c) l ∧ Below w.heap.size w w' := by
  have := oSign_any r v ks w hv (by unfold maxLen; omega)
  unfold signO at this
  rw [if_neg (by omega), hl] at this
  exact this
theorem Check_eq (A K P : Option Addr) (n c kn kc pn pc : Nat) (t l : List Pr) (ks : List Nat) (root : Nat) (f b : Bool) (hb : checkO t ks root f l = b) (hn : kn = ks.length) (hp : pn = l.length) (w : World) (hv : Prs w w.heap.size (.slice A n c) t) (hK : Wds w w.heap.size (.slice K kn kc) ks) (hP : Prs w w.heap.size (.slice P pn pc) l)
    (hfit : ∀ x ∈ ks, x < 18446744073709551616) (h9 : t.length ≤ 100000) (h9k : ks.length ≤ 100000) (h9l : l.length ≤ 100000) :
    Calls Try.prog 21 #[.slice A n c, .agg #[.slice K kn kc, .int .u64 root, .bool f, .slice P pn pc]] w fun e w' => e = .returned (.bool b) ∧ Below w.heap.size w w' := by
  subst hn hp hb
  exact oCheck_any (.slice A n c) t K P kc pc ks root f l w hv hK hP hfit h9 h9k h9l

theorem Elems.form' {α : Type} {enc : α → Value} {w : World} {B : Nat} {A : Option Addr} {l c : Nat} {xs : List α} (h : Elems enc w B (.slice A l c) xs) : xs.length ≤ c := by
  obtain ⟨A', c', hv, hc, _⟩ := h
  injection hv with h1 h2 h3
  subst h3
  exact hc
/-- A slice's elements from the n-th on. -/
theorem Elems.past {α : Type} {enc : α → Value} {w : World} {B : Nat} {A : Option Addr} {l c : Nat} {xs : List α} (h : Elems enc w B (.slice A l c) xs) (n : Nat) (hn : n ≤ xs.length) : Elems enc w B (.slice (if c = n then A else A.map (fun x => x.add n)) (xs.length - n) (c - n)) (xs.drop n) := by
  obtain ⟨A', c', hv, hc, ha⟩ := h
  injection hv with h1 h2 h3
  subst h1; subst h3
  refine ⟨_, c - n, by rw [List.length_drop], by rw [List.length_drop]; omega, fun h0 => ?_⟩
  rw [List.length_drop] at h0
  obtain ⟨ad, e, hb, hcell⟩ := ha (by omega)
  subst e
  refine ⟨ad.add n, by rw [if_neg (by omega)]; rfl, by rw [add_block]; exact hb, fun j s hs => ?_⟩
  rw [add_add]
  rw [List.getElem?_drop] at hs
  exact hcell (n + j) s hs

theorem tableO_right {t : List Pr} (h : Rise t) (hl : t.length ≤ 60) : rightO t = true := (rightO_iff _).2 ⟨by omega, h⟩
theorem sign_one (r k : Nat) : signL r [k] = [(k, r)] := by simp [signL, ins, nil_mrg]
theorem check_none (t : List Pr) (r : Nat) (f : Bool) (l : List Pr) : checkO t [] r f l = false := by unfold checkO; simp
theorem merge_ways {x1 x2 x3 : Bool} {n l : Nat} (h1 : x1 = true → x2 = true → x3 = true) (h2 : x3 = true → 0 < n → x1 = true) (h3 : x3 = true → n < l → x2 = true) (zP : n = 0 → x1 = false) (zR : n = l → x2 = false) (hn : n ≤ l) :
    (x3 = false ∧ x1 = false) ∨ (x3 = false ∧ x1 = true ∧ x2 = false) ∨ (x3 = true ∧
      ((((0 : Int) < n) = True ∧ (0 < n) = True ∧ ((n : Int) < l) = True ∧ (n < l) = True ∧ x1 = true ∧ x2 = true) ∨
       (((0 : Int) < n) = True ∧ (0 < n) = True ∧ ((n : Int) < l) = False ∧ (n < l) = False ∧ x1 = true ∧ x2 = false) ∨
       (((0 : Int) < n) = False ∧ (0 < n) = False ∧ ((n : Int) < l) = True ∧ (n < l) = True ∧ x1 = false ∧ x2 = true) ∨
       (((0 : Int) < n) = False ∧ (0 < n) = False ∧ ((n : Int) < l) = False ∧ (n < l) = False ∧ x1 = false ∧ x2 = false))) := by
  cases x3
  · cases x1
    · exact .inl ⟨rfl, rfl⟩
    · cases x2
      · exact .inr (.inl ⟨rfl, rfl, rfl⟩)
      · exact absurd (h1 rfl rfl) (by simp)
  · refine .inr (.inr ⟨rfl, ?_⟩)
    by_cases a : 0 < n <;> by_cases b : n < l
    · exact .inl ⟨eq_true (by omega), eq_true a, eq_true (by omega), eq_true b, h2 rfl a, h3 rfl b⟩
    · exact .inr (.inl ⟨eq_true (by omega), eq_true a, eq_false (by omega), eq_false b, h2 rfl a, zR (by omega)⟩)
    · exact .inr (.inr (.inl ⟨eq_false (by omega), eq_false a, eq_true (by omega), eq_true b, zP (by omega), h3 rfl b⟩))
    · exact .inr (.inr (.inr ⟨eq_false (by omega), eq_false a, eq_false (by omega), eq_false b, zP (by omega), zR (by omega)⟩))
theorem two_toks {w : World} {g : Nat} {t : TypeId} {f h : Bool} {u v : Value} {a b : List Pr} (hr : RowAt w g t [.bool f, u, .bool h, v]) (hu : Prs w w.heap.size u a) (hv : Prs w w.heap.size v b) : TkRow w (.slice (some ⟨g, 0, none⟩) 2 2) [(f, a), (h, b)] :=
  TkRow.of (xs := [(f, u), (h, v)]) hr (.cons ⟨_, rfl, hu⟩ (.cons ⟨_, rfl, hv⟩ (.nil _)))
theorem Tk.of {w : World} {f : Bool} {v : Value} {l : List Pr} (h : Prs w w.heap.size v l) : Tk w (.agg #[.bool f, v]) f l := ⟨_, rfl, h⟩
theorem two_max {f h : Bool} {a b : List Pr} (ha : a.length ≤ maxLen) (hb : b.length ≤ maxLen) : ∀ t ∈ [(f, a), (h, b)], t.2.length ≤ maxLen := by
  intro t ht
  simp at ht
  rcases ht with rfl | rfl
  · exact ha
  · exact hb

end Go.Proofs.Ytjjccoliknngcaa

namespace Go.Proofs.Ytjjccoliknngcaa
open Go.RowKit Go.Lib

/-- A key as a word. -/
abbrev wv (n : Nat) : Value := .int .u64 (n : Int)
theorem words_one (xs : List Nat) : ∀ u ∈ xs.map wv, u.oneCell' = true := by
  intro u hu
  obtain ⟨x, _, rfl⟩ := List.mem_map.1 hu
  rfl
theorem Elems.news {α : Type} {enc : α → Value} {w : World} {B : Nat} {A : Option Addr} {m n c : Nat} {xs : List α} (h : Elems enc w B (.slice A n c) xs) (hm : m = xs.length) : 0 < m → ∃ ad, A = some ad ∧ ∀ j u, (xs.map enc)[j]? = some u → w.cell? (ad.add j) = some u := fun h0 => by
  obtain ⟨A', c', hv, _, ha⟩ := h
  injection hv with h1 h2 h3
  subst h1
  obtain ⟨ad, e, _, hc⟩ := ha (by omega)
  refine ⟨ad, e, fun j u hj => ?_⟩
  rw [List.getElem?_map] at hj
  obtain ⟨x, hx, rfl⟩ := Option.map_eq_some_iff.1 hj
  exact hc j x hx
theorem words_own {w : World} {base : Nat} {e : TypeId} {S : Option Addr} {n c : Nat} {xs : List Nat} (h : w.ownsRow base e 1 (.slice S n c) n (xs.map wv)) (hn : n = xs.length) : Wds w w.heap.size (.slice S n c) xs := by
  subst hn
  exact Elems.own h
theorem Prs.set_box {w : World} {B G : Nat} {t : TypeId} {b : Bool} {X : Option Addr} {n c : Nat} {v : Value} {l : List Pr} (h : Prs w B v l) (r : RowAt w G t [.bool b, .slice X n c]) (b' : Bool) (v' : Value) : Prs ((w.setCell ⟨G, 0, none⟩ (.bool b')).setCell ⟨G, 1, none⟩ v') B v l := by
  have h1 := h.set_no ⟨G, 0, none⟩ (fun m e => by have := r.two.1; rw [this] at e; cases e) (.bool b')
  exact h1.set_no ⟨G, 1, none⟩ (fun m e => by have := (r.set 0 (.bool b')).two.2; rw [this] at e; cases e) v'
/-- What layer 5's Keys tell of a signature: its keys, rising, just if no two are alike. -/
theorem sign_keys (r : Nat) (ks : List Nat) (h : ks.length ≤ 2048) : ∃ L : List Nat, keysT r (signL r ks) = (L, decide ks.Nodup) ∧ (∀ x ∈ L, x ∈ ks) ∧ (∀ i j (_ : i < j) (hj : j < L.length), L[i] < L[j]) ∧ (ks.Nodup → L.length = ks.length) ∧ L.length ≤ ks.length := by
  have hs := signL_srt r ks
  have hp := signL_perm r ks
  have hr := sign_right (r := r) h
  have hl := signL_length r ks
  have hm : ∀ x ∈ (signL r ks).map (·.1), x ∈ ks := fun x hx => by
    obtain ⟨p, hp1, rfl⟩ := List.mem_map.1 hx
    exact (mem_signL.1 hp1).2
  by_cases hn : ks.Nodup
  · refine ⟨(signL r ks).map (·.1), ?_, hm, fun i j hij hj => ?_, fun _ => by rw [List.length_map, hl], by rw [List.length_map, hl]; exact Nat.le_refl _⟩
    · rw [ones_keys hn h hs hp, decide_eq_true hn]
    · have hkt := ones_keys hn h hs hp
      have hkb : keysB r (signL r ks) = true := by
        unfold keysT at hkt
        split at hkt
        · rename_i h1
          rw [Bool.and_eq_true] at h1
          exact h1.2
        · injection hkt with _ h2
          cases h2
      rw [List.length_map] at hj
      rw [List.getElem_map, List.getElem_map]
      exact keysB_rise hs hkb i j hij hj
  · refine ⟨[], ?_, fun x hx => by simp at hx, fun i j _ hj => by simp at hj, fun h => absurd h hn, Nat.zero_le _⟩
    rw [decide_eq_false hn]
    unfold keysT
    cases e : keysB r (signL r ks)
    · rw [Bool.and_false]; rfl
    · exfalso
      have h1 := keysB_nodup hs e
      have h2 := (hp.map (·.1)).nodup_iff.1 h1
      rw [List.map_map] at h2
      have h3 : (List.map ((fun p : Pr => p.1) ∘ fun k => (k, r)) ks) = ks := by simp [Function.comp_def]
      rw [h3] at h2
      exact hn h2
theorem sign_rot (r : Nat) (ks : List Nat) (n : Nat) : signL r (ks.drop n ++ ks.take n) = signL r ks := signL_eq (by
  have := List.perm_append_comm (l₁ := ks.drop n) (l₂ := ks.take n)
  rwa [List.take_append_drop] at this)
/-- Whether the first keys are unlike, one more. -/
theorem nodup_more {ks : List Nat} {i : Nat} (h : i < ks.length) : (decide (ks.take i).Nodup && decide (ks[i] ∉ ks.take i)) = decide (ks.take (i + 1)).Nodup := by
  rw [← Bool.decide_and]
  apply decide_eq_decide.2
  have e := List.take_succ_eq_append_getElem h
  generalize ks[i] = y at *
  generalize ks.take i = l at *
  rw [e, List.nodup_append]
  constructor
  · rintro ⟨h1, h2⟩
    exact ⟨h1, by simp, fun a ha b hb e' => by rw [List.mem_singleton] at hb; exact h2 (by rw [← hb, ← e']; exact ha)⟩
  · rintro ⟨h1, _, h2⟩
    exact ⟨h1, fun ha => h2 _ ha _ (by simp) rfl⟩
theorem unlike_more {ks : List Nat} {j : Nat} (h : j < ks.length) (y : Nat) : (decide (y ∉ ks.take j) && decide (y ≠ ks[j])) = decide (y ∉ ks.take (j + 1)) := by
  rw [← Bool.decide_and]
  apply decide_eq_decide.2
  rw [List.take_succ_eq_append_getElem h, List.mem_append, List.mem_singleton, not_or]
theorem among_more {ks : List Nat} {j : Nat} (h : j < ks.length) (y : Nat) : (decide (y ∈ ks.take j) || decide (ks[j] = y)) = decide (y ∈ ks.take (j + 1)) := by
  rw [← Bool.decide_or]
  apply decide_eq_decide.2
  rw [List.take_succ_eq_append_getElem h, List.mem_append, List.mem_singleton, eq_comm (a := y)]
end Go.Proofs.Ytjjccoliknngcaa

namespace Go.Proofs.Ytjjccoliknngcaa
open Go.RowKit Go.Lib

set_option maxHeartbeats 4000000 in
set_option maxRecDepth 100000 in
theorem osign_walk (v : Value) (keys : List Nat) (root : Nat) (turn : Int) (w : World) (hv : Wds w w.heap.size v keys) (hf : ∀ x ∈ keys, x < 18446744073709551616) (l9 : keys.length ≤ maxLen) (hroot : root < 18446744073709551616) (hturn : I64 turn) :
    Calls Try.prog 8 #[v, .int .u64 root, .int .i64 turn] w fun e w' => e = .returned (.bool true) ∧ Below w.heap.size w w' := by
  obtain ⟨K, kc, rfl, hkc⟩ := hv.form
  obtain ⟨i0, hi, hz0, hz1, hz2⟩ := info_parts info_u64
  have l9' : keys.length ≤ 9223372036854775807 := l9
  go_enter Try.func8, Try.ntmps8
  go_wp2_with fail
  with_reducible refine (awake7_any _).mono ?_
  rintro e w1 ⟨rfl, B1⟩
  replace hv := hv.on B1
  go_upto_region 2 with (fail)
  go_cut [8] from 23 to 27 (fun kv wx => ∃ ks : List Nat, kv = .slice K ks.length kc ∧ wx = w1 ∧ ks.length ≤ 20 ∧ ks = keys.take ks.length)
  case first =>
    by_cases h20 : 20 < keys.length
    · have f1 : ((keys.length : Int) ≤ 20) = False := eq_false (by omega)
      have f2 : (keys.length ≤ 20) = False := eq_false (by omega)
      have f3 : ((20 : Int) < (keys.length : Int)) = True := eq_true (by omega)
      have f4 : (20 < keys.length) = True := eq_true h20
      have f5 : ((20 : Int) ≤ (kc : Int)) = True := eq_true (by omega)
      have f6 : (20 ≤ kc) = True := eq_true (by omega)
      go_wp2_with fail
      go_meet
      exact ⟨keys.take 20, by rw [List.length_take, Nat.min_eq_left (by omega)]; congr 1; omega, rfl, by rw [List.length_take]; omega, by rw [List.length_take, Nat.min_eq_left (by omega)]⟩
    · have f1 : ((keys.length : Int) ≤ 20) = True := eq_true (by omega)
      have f2 : (keys.length ≤ 20) = True := eq_true (by omega)
      have f3 : ((20 : Int) < (keys.length : Int)) = False := eq_false (by omega)
      have f4 : (20 < keys.length) = False := eq_false h20
      have f5 : ((keys.length : Int) ≤ (kc : Int)) = True := eq_true (by omega)
      have f6 : (keys.length ≤ kc) = True := eq_true (by omega)
      go_wp2_with fail
      go_meet
      exact ⟨keys, by congr 1; omega, rfl, by omega, by rw [List.take_length]⟩
  case rest =>
    obtain ⟨ks, rfl, hwc, hk20, hke⟩ := hcut
    obtain rfl : wc = w1 := hwc
    have hK : Wds wc wc.heap.size (.slice K ks.length kc) ks := by
      have h1 : ks.length ≤ keys.length := by
        have := congrArg List.length hke
        rw [List.length_take] at this
        omega
      have := hv.first ks.length h1
      rwa [← hke] at this
    have hfit : ∀ x ∈ ks, x < 18446744073709551616 := fun x hx => hf x (by rw [hke] at hx; exact List.mem_of_mem_take hx)
    clear hke hv hkc l9 l9' hf
    have hkc := hK.form'
    have hn1 := pickN_lt turn ((ks.length : Int) + 1) (by omega)
    have cN := fun W => pick7_any turn ((ks.length : Int) + 1) W hturn (by omega) (by omega)
    generalize pickN turn ((ks.length : Int) + 1) = n at *
    have hw1 : IntKind.i64.wrap ((ks.length : Int) + 1) = (ks.length : Int) + 1 := IntWalk.i64_in _ (by omega)
    go_wp2_with fail
    with_reducible refine (cN _).mono ?_
    rintro e w2 ⟨rfl, rfl⟩
    clear cN hw1
    have hn2 : n ≤ ks.length := by omega
    obtain ⟨L, hKT, hLm, hLr, hLl, hL9⟩ := sign_keys root ks (by omega)
    have hrot := sign_rot root ks n
    have lsK : (signL root ks).length = ks.length := signL_length root ks
    have hW2 : ∀ W v, Wds W W.heap.size v (ks.drop n ++ ks.take n) → _ := fun W v h => Sign_eq root v (ks.drop n ++ ks.take n) (signL root ks) hrot W h (by rw [List.length_append, List.length_drop, List.length_take]; omega)
    have cS1 := fun W h => Sign_eq root (.slice K ks.length kc) ks _ rfl W h (by omega)
    generalize signL root ks = l at *
    have HS2 := Lib.hid hW2
    have HLn := Lib.hid lsK
    have ls20 : l.length ≤ 20 := by omega
    have HKT := Lib.hid hKT
    clear hW2 lsK hKT hrot
    go_wp2_with fail
    with_reducible refine (cS1 _ hK).mono ?_
    rintro e w3 ⟨SA, sa, rfl, hA, b3⟩
    replace hK := hK.on b3
    have B3 := B1.trans (b3.mono B1.size)
    clear b3 B1 cS1
    go_upto_region 5 with (fail)
    have qA := RowAt.new w3 40 #[.bool false, .slice SA l.length sa]
    have bx := (Below.refl w3.heap.size w3).alloc (Nat.le_refl _) (.cells #[.bool false, .slice SA l.length sa] 40)
    replace hK := hK.on bx
    replace hA := hA.on bx
    have B4 := B3.trans (bx.mono B3.size)
    clear bx B3
    generalize w3.alloc (.cells #[.bool false, .slice SA l.length sa] 40) = w4 at *
    generalize w3.heap.size = gA at *
    go_cut [12, 13] from 40 to 51 (fun pv ev wx => ∃ (G : Nat) (At : Option Addr) (ct : Nat), pv = .pointer (some ⟨G, 0, none⟩) ∧ ev = .int .i64 0 ∧ RowAt wx G 40 [.bool false, .slice At l.length ct] ∧ Prs wx wx.heap.size (.slice At l.length ct) l ∧ Below w4.heap.size w4 wx)
    case first =>
      have f1 : ((n : Int) ≤ (kc : Int)) = True := eq_true (by omega)
      have f2 : (n ≤ kc) = True := eq_true (by omega)
      have f3 : ((n : Int) ≤ (ks.length : Int)) = True := eq_true (by omega)
      have f4 : (n ≤ ks.length) = True := eq_true (by omega)
      have hP := hK.first n hn2
      have hR := hK.past n hn2
      have hlP : (ks.take n).length = n := by rw [List.length_take]; omega
      have hlR : (ks.drop n).length = ks.length - n := List.length_drop
      obtain ⟨Q, hQ⟩ : ∃ Q, (if kc = n then K else K.map (fun x => x.add n)) = Q := ⟨_, rfl⟩
      rw [hQ] at hR
      have hBd : Below w4.heap.size w4 w4.drew := (Below.refl _ _).drew
      have hBda : Below w4.heap.size w4 ((w4.alloc (.cells #[.bool false, .slice none 0 0] 40)).drew) := ((Below.refl _ _).alloc (Nat.le_refl _) _).drew
      have bxd : RowAt ((w4.alloc (.cells #[.bool false, .slice none 0 0] 40)).drew) w4.heap.size 40 [.bool false, .slice none 0 0] := RowAt.new w4 40 #[.bool false, .slice none 0 0]
      have hRd := hR.on hBd
      have hRda := hR.on hBda
      have hPo : ∀ W, Below w4.heap.size w4 W → Wds W W.heap.size (.slice K n kc) (ks.take n) := fun W b => hP.on b
      have HPo := Lib.hid hPo
      clear hPo
      go_region_held3 (fun _ => True) (trivial)
        (first
          | (refine step_append_any rfl _ _ 24 rfl _ 25 i0 (.int .u64 0) 1 8 Try.underlying24 hi hz0 hz1 hz2 rfl (by decide) (.slice none 0 0) 0 [] rfl (World.ownsRow_nil _ _ _ _) Q (ks.length - n) (kc - n) ((ks.drop n).map wv) rfl (by rw [List.length_map, hlR, Nat.mul_one]) (by first | exact hRd.news hlR.symm | exact hRda.news hlR.symm) (words_one _) (by unfold maxLen; omega) (by omega) (Nat.le_refl _) ?_
             intro S1 cap1 wA own1 grow1
             simp only [Nat.zero_add, List.nil_append] at own1 ⊢
             have hB1 : Below w4.heap.size w4 wA := by first | exact Below.grown hBd grow1 (Nat.le_refl _) (fun k h => by cases h) | exact Below.grown hBda grow1 hBda.size (fun k h => by cases h)
             have hPa := HPo.out wA hB1
             have hPb := hPa.alloc (.cells #[.bool false, .slice none 0 0] 40)
             try (have bx1 : RowAt wA w4.heap.size 40 [.bool false, .slice none 0 0] := RowAt.grown bxd grow1 (by simp [Value.ownBlock]))
             try (have ob1 : ∀ k, (Value.slice S1 (ks.length - n) cap1).ownBlock = some k → w4.heap.size ≤ k := fun k h => Nat.le_trans hBd.size (own1.lt k h).1)
             try (have ob1 : ∀ k, (Value.slice S1 (ks.length - n) cap1).ownBlock = some k → w4.heap.size ≤ k := fun k h => Nat.le_trans hBda.size (own1.lt k h).1))
          | (refine step_append_any rfl _ _ 24 rfl _ 25 i0 (.int .u64 0) 1 8 Try.underlying24 hi hz0 hz1 hz2 rfl (by decide) (.slice S1 (ks.length - n) cap1) (ks.length - n) _ rfl (by first | exact own1 | exact own1.alloc _) K n kc ((ks.take n).map wv) rfl (by rw [List.length_map, hlP, Nat.mul_one]) (by first | exact hPa.news hlP.symm | exact hPb.news hlP.symm) (words_one _) (by unfold maxLen; omega) (by omega) (by have h6 := grow1.size; first | exact h6 | exact Nat.le_trans h6 (by simp)) ?_
             intro S2 cap2 wB own2 grow2
             have hB2 : Below w4.heap.size w4 wB := by first | exact Below.grown hB1 grow2 hB1.size ob1 | exact Below.grown (hB1.alloc hB1.size _) grow2 (Nat.le_trans hB1.size (by simp)) ob1
             have own2' := own2
             rw [← List.map_append, show (ks.length - n) + n = ks.length by omega] at own2'
             have trx := words_own own2' (by rw [List.length_append, hlR, hlP]; omega)
             have trxa := trx.alloc (.cells #[.bool false, .slice none 0 0] 40)
             try (have bx2 : RowAt wB w4.heap.size 40 [.bool false, .slice none 0 0] := bx1.grown grow2 (fun e => by have h5 : (w4.alloc (.cells #[.bool false, .slice none 0 0] 40)).heap.size ≤ w4.heap.size := (own1.lt _ e.symm).1; rw [World.size_alloc] at h5; omega))
             try (have bx2 : RowAt wB wA.heap.size 40 [.bool false, .slice none 0 0] := RowAt.grown (RowAt.new wA 40 #[.bool false, .slice none 0 0]) grow2 (fun e => by have h5 := (own1.lt _ e.symm).2; omega)))
          | ((with_reducible refine (HS2.out _ _ trx).mono ?_); rintro e w5 ⟨Am, cm, rfl, tm, hb5'⟩; have hb5 : Below w4.heap.size w4 w5 := hB2.trans (hb5'.mono hB2.size); (try (have bx := bx2.on hb5'; obtain ⟨z0, z1⟩ := bx.two; have zf0 := bx.frozen 0; have zf1 := bx.frozen 1)))
          | ((with_reducible refine (HS2.out _ _ trxa).mono ?_); rintro e w5 ⟨Am, cm, rfl, tm, hb5'⟩; have hb5 : Below w4.heap.size w4 w5 := (hB2.alloc hB2.size _).trans (hb5'.mono (Nat.le_trans hB2.size (by simp))); have bx := (RowAt.new wB 40 #[.bool false, .slice none 0 0]).on hb5'; obtain ⟨z0, z1⟩ := RowAt.two bx; have zf0 := RowAt.frozen bx 0; have zf1 := RowAt.frozen bx 1))
      · go_simp
        go_wp2_with fail
        go_meet
        exact ⟨_, Am, cm, rfl, rfl, RowAt.new w5 40 #[.bool false, .slice Am l.length cm], tm.alloc _, hb5.alloc hb5.size _⟩
      all_goals
        go_simp
        go_wp2_with fail
        go_meet
        exact ⟨_, Am, cm, rfl, rfl, (RowAt.set bx 0 (.bool false)).set 1 (.slice Am l.length cm), by simpa [World.setCell] using tm.set_box bx false (.slice Am l.length cm), (hb5.setCell (p := ⟨_, 0, none⟩) (by first | exact Nat.le_refl _ | exact hB1.size | exact hB2.size) _).setCell (p := ⟨_, 1, none⟩) (by first | exact Nat.le_refl _ | exact hB1.size | exact hB2.size) _⟩
    case rest =>
      obtain ⟨w5, hw5⟩ : ∃ w5, w5 = wc := ⟨_, rfl⟩
      subst hw5
      obtain ⟨gB, SB, sb, rfl, rfl, qB, hB, b5⟩ := hcut
      replace hK := hK.on b5
      replace hA := hA.on b5
      replace qA := qA.on b5
      have B5 := B4.trans (b5.mono B4.size)
      clear b5 B4 hn1 hn2 HS2 hi hz0 hz1 hz2
      obtain ⟨s0, s1⟩ := qA.two
      generalize hbn : decide ks.Nodup = bn at *
      go_wp2_with fail
      with_reducible refine (Keys_eq _ false l root _ L bn HKT.out (Tk.of hA) (by omega)).mono ?_
      rintro e w6 ⟨SL, sl, rfl, hL, b6⟩
      replace hK := hK.on b6
      replace hA := hA.on b6
      replace hB := hB.on b6
      replace qA := qA.on b6
      replace qB := qB.on b6
      have B6 := B5.trans (b6.mono B5.size)
      clear s0 s1 b6 B5 HKT
      go_wp2_with fail
      -- unlike
      go_loopw [16, 17] (fun uv iv wr => ∃ i : Nat, i ≤ ks.length ∧ uv = .bool (decide (ks.take i).Nodup) ∧ iv = .int .i64 (i : Int) ∧ Below w6.heap.size w6 wr) (fun _ iv _ => ks.length - (intOf iv).toNat)
      case atStart => exact ⟨0, Nat.zero_le _, by simp, rfl, Below.refl _ _⟩
      case round =>
        obtain ⟨i, hik, rfl, rfl, hw6⟩ := hrel
        obtain ⟨wo, hwo⟩ : ∃ wo, wo = wr := ⟨_, rfl⟩
        subst hwo
        replace hK := hK.on hw6
        have B6o := B6.trans (hw6.mono B6.size)
        by_cases hlt : i < ks.length
        · have g1 : ((i : Int) < (ks.length : Int)) = True := eq_true (by omega)
          have g2 : (i < ks.length) = True := eq_true hlt
          have HN := Lib.hid (nodup_more hlt)
          obtain ⟨ad, rfl, _, _⟩ := hK.at_ hlt
          have HU := fun j (h : j < ks.length) => unlike_more h ks[i]
          have hu0 : decide (ks[i] ∉ ks.take 0) = true := by simp
          obtain ⟨u0, hu⟩ : ∃ u0, decide (ks.take i).Nodup = u0 := ⟨_, rfl⟩
          rw [hu]
          generalize hy : ks[i] = y at HN HU hu0
          go_wp2_with fail
          go_loopw [16, 18] (fun uv jv wr => ∃ j : Nat, j ≤ i ∧ uv = .bool (u0 && decide (y ∉ ks.take j)) ∧ jv = .int .i64 (j : Int) ∧ Below wo.heap.size wo wr) (fun _ jv _ => i - (intOf jv).toNat)
          case atStart => exact ⟨0, Nat.zero_le _, by rw [hu0, Bool.and_true], rfl, Below.refl _ _⟩
          case round =>
            obtain ⟨j, hji, rfl, rfl, hwo⟩ := hrel
            replace hK := hK.on hwo
            obtain ⟨_, e1, _, hci⟩ := hK.at_ hlt
            injection e1 with e1
            subst e1
            rw [hy] at hci
            by_cases hj : j < i
            · have g3 : ((j : Int) < (i : Int)) = True := eq_true (by omega)
              have g4 : (j < i) = True := eq_true hj
              have g5 : ((j : Int) < (ks.length : Int)) = True := eq_true (by omega)
              have g6 : (j < ks.length) = True := eq_true (by omega)
              obtain ⟨_, e0, _, hcj⟩ := hK.at_ (show j < ks.length by omega)
              injection e0 with e0
              subst e0
              have HM := Lib.hid (HU j (by omega))
              clear HU hu0
              generalize ks[j] = z at *
              obtain ⟨u1, hu1⟩ : ∃ u1, (u0 && decide (y ∉ ks.take j)) = u1 := ⟨_, rfl⟩
              rw [hu1]
              have HU1 := Lib.hid hu1
              clear hu1
              cases u1
              · go_wp2_with fail
                go_quiet (fail)
                go_wp2_with fail
                go_roundw
                case rel => exact ⟨j + 1, by omega, by rw [← HM.out, ← Bool.and_assoc, HU1.out]; rfl, by go_num, ⟨hwo.os, hwo.tape, hwo.output, hwo.size, hwo.block⟩⟩
                case measure => simp [intOf]; omega
              · by_cases hyz : y = z
                · subst hyz
                  go_wp2_with fail
                  go_quiet (fail)
                  go_wp2_with fail
                  go_roundw
                  case rel => exact ⟨j + 1, by omega, by rw [← HM.out, ← Bool.and_assoc, HU1.out]; simp, by go_num, ⟨hwo.os, hwo.tape, hwo.output, hwo.size, hwo.block⟩⟩
                  case measure => simp [intOf]; omega
                · have g7 : ((y : Int) = (z : Int)) = False := eq_false (by omega)
                  have g8 : (y = z) = False := eq_false hyz
                  have g9 : ((y : Int) == (z : Int)) = false := by rw [beq_eq_false_iff_ne]; omega
                  go_wp2_with fail
                  go_quiet (fail)
                  go_wp2_with fail
                  go_roundw
                  case rel => exact ⟨j + 1, by omega, by rw [← HM.out, ← Bool.and_assoc, HU1.out]; simp [hyz]; omega, by go_num, ⟨hwo.os, hwo.tape, hwo.output, hwo.size, hwo.block⟩⟩
                  case measure => simp [intOf]; omega
            · obtain rfl : j = i := by omega
              have g3 : ((j : Int) < (j : Int)) = False := eq_false (by omega)
              have g4 : (j < j) = False := eq_false (by omega)
              rw [← hu]
              rw [HN.out]
              clear hu HU
              go_wp2_with fail
              go_roundw
              case rel => exact ⟨j + 1, by omega, rfl, by go_num, hw6.trans (hwo.mono hw6.size)⟩
              case measure => simp [intOf]; omega
        · have e1 : i = ks.length := by omega
          subst e1
          have g1 : ((ks.length : Int) < (ks.length : Int)) = False := eq_false (by omega)
          rw [List.take_length, hbn]
          replace hA := hA.on hw6
          replace hB := hB.on hw6
          replace hL := hL.on hw6
          replace qA := qA.on hw6
          replace qB := qB.on hw6
          obtain ⟨s0, s1⟩ := qA.two
          obtain ⟨s2, s3⟩ := qB.two
          have g2 : ((l.length : Int) = (ks.length : Int)) = True := eq_true (by rw [HLn.out])
          have g3 : (l.length = ks.length) = True := eq_true (by rw [HLn.out])
          have g0 : ((l.length : Int) != (ks.length : Int)) = false := by rw [HLn.out, bne]; simp
          have gb : (bn != bn) = false := by cases bn <;> rfl
          go_wp2_with fail
          with_reducible refine (Same_eq _ _ false false l l _ true (sameT_refl _ _) (Tk.of hA) (Tk.of hB) (by omega) (by omega)).mono ?_
          rintro e w7 ⟨rfl, b7⟩
          replace hK := hK.on b7
          replace hL := hL.on b7
          replace qA := qA.on b7
          have B7 := B6o.trans (b7.mono B6o.size)
          clear s0 s1 s2 s3 hA hB qB b7 B6o hw6 B6
          obtain ⟨s0, s1⟩ := qA.two
          go_wp2_with fail
          clear g0 gb g1 g2 g3 s0 s1 qA HLn
          go_loopw [19] (fun iv wr => ∃ i : Nat, i ≤ L.length ∧ iv = .int .i64 (i : Int) ∧ Below w7.heap.size w7 wr) (fun iv _ => L.length - (intOf iv).toNat)
          case atStart => exact ⟨0, Nat.zero_le _, rfl, Below.refl _ _⟩
          case round =>
            obtain ⟨i, hiL, rfl, hw7⟩ := hrel
            obtain ⟨wp, hwp⟩ : ∃ wp, wp = wr := ⟨_, rfl⟩
            subst hwp
            replace hK := hK.on hw7
            replace hL := hL.on hw7
            have B7o := B7.trans (hw7.mono B7.size)
            by_cases hlt : i < L.length
            · have g1 : ((i : Int) < (L.length : Int)) = True := eq_true (by omega)
              have g2 : (i < L.length) = True := eq_true hlt
              obtain ⟨ae, rfl, _, _⟩ := hL.at_ hlt
              have hmem := hLm L[i] (List.getElem_mem hlt)
              have HU := fun j (h : j < ks.length) => among_more h L[i]
              have hu0 : decide (L[i] ∈ ks.take 0) = false := by simp
              have HR := Lib.hid (fun (h0 : 0 < i) => hLr (i - 1) i (by omega) hlt)
              generalize hy : L[i] = y at HU hu0 hmem HR
              go_wp2_with fail
              go_loopw [20, 21] (fun uv jv wr => ∃ j : Nat, j ≤ ks.length ∧ uv = .bool (decide (y ∈ ks.take j)) ∧ jv = .int .i64 (j : Int) ∧ Below wp.heap.size wp wr) (fun _ jv _ => ks.length - (intOf jv).toNat)
              case atStart => exact ⟨0, Nat.zero_le _, by rw [hu0], rfl, Below.refl _ _⟩
              case round =>
                obtain ⟨j, hjk, rfl, rfl, hwp⟩ := hrel
                replace hK := hK.on hwp
                replace hL := hL.on hwp
                by_cases hj : j < ks.length
                · have g3 : ((j : Int) < (ks.length : Int)) = True := eq_true (by omega)
                  have g4 : (j < ks.length) = True := eq_true hj
                  obtain ⟨ad, rfl, _, hcj⟩ := hK.at_ hj
                  obtain ⟨_, e1, _, hci⟩ := hL.at_ hlt
                  injection e1 with e1
                  subst e1
                  rw [hy] at hci
                  have HM := Lib.hid (HU j hj)
                  clear HU hu0
                  generalize ks[j] = z at *
                  obtain ⟨u1, hu1⟩ : ∃ u1, decide (y ∈ ks.take j) = u1 := ⟨_, rfl⟩
                  rw [hu1]
                  have HU1 := Lib.hid hu1
                  clear hu1
                  cases u1
                  · by_cases hyz : z = y
                    · subst hyz
                      go_wp2_with fail
                      go_quiet (fail)
                      go_wp2_with fail
                      go_roundw
                      case rel => exact ⟨j + 1, by omega, by rw [← HM.out, HU1.out]; simp, by go_num, ⟨hwp.os, hwp.tape, hwp.output, hwp.size, hwp.block⟩⟩
                      case measure => simp [intOf]; omega
                    · have g7 : ((z : Int) = (y : Int)) = False := eq_false (by omega)
                      have g8 : (z = y) = False := eq_false hyz
                      have g9 : ((z : Int) == (y : Int)) = false := by rw [beq_eq_false_iff_ne]; omega
                      go_wp2_with fail
                      go_quiet (fail)
                      go_wp2_with fail
                      go_roundw
                      case rel => exact ⟨j + 1, by omega, by rw [← HM.out, HU1.out]; simp [hyz], by go_num, ⟨hwp.os, hwp.tape, hwp.output, hwp.size, hwp.block⟩⟩
                      case measure => simp [intOf]; omega
                  · go_wp2_with fail
                    go_quiet (fail)
                    go_wp2_with fail
                    go_roundw
                    case rel => exact ⟨j + 1, by omega, by rw [← HM.out, HU1.out]; rfl, by go_num, ⟨hwp.os, hwp.tape, hwp.output, hwp.size, hwp.block⟩⟩
                    case measure => simp [intOf]; omega
                · obtain rfl : j = ks.length := by omega
                  have g3 : ((ks.length : Int) < (ks.length : Int)) = False := eq_false (by omega)
                  rw [List.take_length, decide_eq_true hmem]
                  obtain ⟨_, e1, _, hci⟩ := hL.at_ hlt
                  injection e1 with e1
                  subst e1
                  rw [hy] at hci
                  have hB9 := hw7.trans (hwp.mono hw7.size)
                  clear HU hu0 hmem
                  rcases Nat.eq_zero_or_pos i with h0 | h0
                  · subst h0
                    go_wp2_with fail
                    go_quiet (fail)
                    go_wp2_with fail
                    go_roundw
                    case rel => exact ⟨1, by omega, by rfl, ⟨hB9.os, hB9.tape, hB9.output, hB9.size, hB9.block⟩⟩
                    case measure => simp [intOf]; omega
                  · have d3 : decide ((0 : Int) < (i : Int)) = true := by simp; omega
                    have d4 : ((0 : Int) < (i : Int)) = True := eq_true (by omega)
                    have d5 : (0 < i) = True := eq_true h0
                    have hr := HR.out h0
                    obtain ⟨_, e1, _, hcp⟩ := hL.at_ (show i - 1 < L.length by omega)
                    injection e1 with e1
                    subst e1
                    generalize L[i - 1] = x at *
                    have i1 : (i : Int) - 1 < (L.length : Int) := by omega
                    have i2 : (0 : Int) ≤ (i : Int) - 1 := by omega
                    have d6 : decide ((y : Int) ≤ (x : Int)) = false := by simp; omega
                    have d7 : ((y : Int) ≤ (x : Int)) = False := eq_false (by omega)
                    have d8 : (y ≤ x) = False := eq_false (by omega)
                    have hk1 : 0 < i := h0
                    go_wp2_with fail
                    go_quiet (fail)
                    go_wp2_with fail
                    go_roundw
                    case rel => exact ⟨i + 1, by omega, by go_num, ⟨hB9.os, hB9.tape, hB9.output, hB9.size, hB9.block⟩⟩
                    case measure => simp [intOf]; omega
            · obtain rfl : i = L.length := by omega
              have g1 : ((L.length : Int) < (L.length : Int)) = False := eq_false (by omega)
              cases bn
              · go_wp2_with fail
                go_ret
                exact ⟨rfl, B7o⟩
              · have hl2 := hLl (of_decide_eq_true hbn)
                have g2 : ((L.length : Int) = (ks.length : Int)) = True := eq_true (by rw [hl2])
                have g3 : (L.length = ks.length) = True := eq_true hl2
                have g4 : ((L.length : Int) == (ks.length : Int)) = true := by rw [hl2]; simp
                clear hl2
                go_wp2_with fail
                go_ret
                exact ⟨rfl, B7o⟩
theorem osign_calls (xs0 : List Nat) (v0 : Value) {w : World} (s0 : Wds w w.heap.size v0 xs0) (b0 : ∀ x ∈ xs0, x < 18446744073709551616) (l0 : xs0.length ≤ maxLen) (a1 : Int) (w1 : (Lit.int .u64 a1).wf = true) (a2 : Int) (w2 : (Lit.int .i64 a2).wf = true) :
    Calls Try.prog 8 #[v0, .int .u64 a1, .int .i64 a2] w fun e w' => e = .returned (.bool true) ∧ Below w.heap.size w w' := by
  have h1 := bounds_u64 w1
  obtain ⟨k, rfl⟩ := Int.eq_ofNat_of_zero_le h1.1
  exact osign_walk v0 xs0 k a2 w s0 b0 l0 (by omega) (bounds_i64 w2)
end Go.Proofs.Ytjjccoliknngcaa
