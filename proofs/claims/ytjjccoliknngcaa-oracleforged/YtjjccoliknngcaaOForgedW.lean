/- Layer 7: Sign and Check with their answers named; small words for its laws.
   Layer 7: plain facts for OracleSign and OracleOne; words of appended slices.
   The walk of OracleForged. -/
import Derived.Test.YtjjccoliknngcaaOrcV
import Derived.OpenShut
import Derived.Deep.CutRange
namespace Go.Proofs.Ytjjccoliknngcaa
open Go.RowKit Go.Lib

/-- Sign of few keys, with the answer named. -/
theorem Sign_eq (r : Nat) (v : Value) (ks : List Nat) (l : List Pr) (hl : signL r ks = l) (w : World) (hv : Wds w w.heap.size v ks) (h9 : ks.length ≤ 2048) :
    Calls Try.prog 25 #[.int .u64 r, v] w fun e w' => ∃ A c, e = .returned (.tuple #[.agg #[.bool false, .slice A l.length c], .int .i64 0]) ∧ Prs w' w'.heap.size (.slice A l.length c) l ∧ Below w.heap.size w w' := by
  have := oSign_any r v ks w hv (by unfold maxLen; omega)
  unfold signO at this
  rw [if_neg (by omega), hl] at this
  exact this
theorem Check_eq (A K P : Option Addr) (n c kn kc pn pc : Nat) (t l : List Pr) (ks : List Nat) (root : Nat) (f b : Bool) (hb : checkO t ks root f l = b) (hn : kn = ks.length) (hp : pn = l.length) (w : World) (hv : Prs w w.heap.size (.slice A n c) t) (hK : Wds w w.heap.size (.slice K kn kc) ks) (hP : Prs w w.heap.size (.slice P pn pc) l)
    (hfit : ∀ x ∈ ks, x < 18446744073709551616) (h9 : t.length ≤ 100000) (h9k : ks.length ≤ 100000) (h9l : l.length ≤ 100000) :
    Calls Try.prog 21 #[.slice A n c, .agg #[.slice K kn kc, .int .u64 root, .bool f, .slice P pn pc]] w fun e w' => e = .returned (.bool b) ∧ Below w.heap.size w w' := by
  subst hn hp hb
  exact oCheck_any (.slice A n c) t K P kc pc ks root f l w hv hK hP hfit h9 h9k h9l

theorem Elems.form' {α : Type} {enc : α → Value} {w : World} {B : Nat} {A : Option Addr} {l c : Nat} {xs : List α} (h : Elems enc w B (.slice A l c) xs) : xs.length ≤ c := by
  obtain ⟨A', c', hv, hc, _⟩ := h
  injection hv with h1 h2 h3
  subst h3
  exact hc
/-- A slice's elements from the n-th on. -/
theorem Elems.past {α : Type} {enc : α → Value} {w : World} {B : Nat} {A : Option Addr} {l c : Nat} {xs : List α} (h : Elems enc w B (.slice A l c) xs) (n : Nat) (hn : n ≤ xs.length) : Elems enc w B (.slice (if c = n then A else A.map (fun x => x.add n)) (xs.length - n) (c - n)) (xs.drop n) := by
  obtain ⟨A', c', hv, hc, ha⟩ := h
  injection hv with h1 h2 h3
  subst h1; subst h3
  refine ⟨_, c - n, by rw [List.length_drop], by rw [List.length_drop]; omega, fun h0 => ?_⟩
  rw [List.length_drop] at h0
  obtain ⟨ad, e, hb, hcell⟩ := ha (by omega)
  subst e
  refine ⟨ad.add n, by rw [if_neg (by omega)]; rfl, by rw [add_block]; exact hb, fun j s hs => ?_⟩
  rw [add_add]
  rw [List.getElem?_drop] at hs
  exact hcell (n + j) s hs

theorem tableO_right {t : List Pr} (h : Rise t) (hl : t.length ≤ 60) : rightO t = true := (rightO_iff _).2 ⟨by omega, h⟩
theorem sign_one (r k : Nat) : signL r [k] = [(k, r)] := by simp [signL, ins, nil_mrg]
theorem check_none (t : List Pr) (r : Nat) (f : Bool) (l : List Pr) : checkO t [] r f l = false := by unfold checkO; simp
theorem merge_ways {x1 x2 x3 : Bool} {n l : Nat} (h1 : x1 = true → x2 = true → x3 = true) (h2 : x3 = true → 0 < n → x1 = true) (h3 : x3 = true → n < l → x2 = true) (zP : n = 0 → x1 = false) (zR : n = l → x2 = false) (hn : n ≤ l) :
    (x3 = false ∧ x1 = false) ∨ (x3 = false ∧ x1 = true ∧ x2 = false) ∨ (x3 = true ∧
      ((((0 : Int) < n) = True ∧ (0 < n) = True ∧ ((n : Int) < l) = True ∧ (n < l) = True ∧ x1 = true ∧ x2 = true) ∨
       (((0 : Int) < n) = True ∧ (0 < n) = True ∧ ((n : Int) < l) = False ∧ (n < l) = False ∧ x1 = true ∧ x2 = false) ∨
       (((0 : Int) < n) = False ∧ (0 < n) = False ∧ ((n : Int) < l) = True ∧ (n < l) = True ∧ x1 = false ∧ x2 = true) ∨
       (((0 : Int) < n) = False ∧ (0 < n) = False ∧ ((n : Int) < l) = False ∧ (n < l) = False ∧ x1 = false ∧ x2 = false))) := by
  cases x3
  · cases x1
    · exact .inl ⟨rfl, rfl⟩
    · cases x2
      · exact .inr (.inl ⟨rfl, rfl, rfl⟩)
      · exact absurd (h1 rfl rfl) (by simp)
  · refine .inr (.inr ⟨rfl, ?_⟩)
    by_cases a : 0 < n <;> by_cases b : n < l
    · exact .inl ⟨eq_true (by omega), eq_true a, eq_true (by omega), eq_true b, h2 rfl a, h3 rfl b⟩
    · exact .inr (.inl ⟨eq_true (by omega), eq_true a, eq_false (by omega), eq_false b, h2 rfl a, zR (by omega)⟩)
    · exact .inr (.inr (.inl ⟨eq_false (by omega), eq_false a, eq_true (by omega), eq_true b, zP (by omega), h3 rfl b⟩))
    · exact .inr (.inr (.inr ⟨eq_false (by omega), eq_false a, eq_false (by omega), eq_false b, zP (by omega), zR (by omega)⟩))
theorem two_toks {w : World} {g : Nat} {t : TypeId} {f h : Bool} {u v : Value} {a b : List Pr} (hr : RowAt w g t [.bool f, u, .bool h, v]) (hu : Prs w w.heap.size u a) (hv : Prs w w.heap.size v b) : TkRow w (.slice (some ⟨g, 0, none⟩) 2 2) [(f, a), (h, b)] :=
  TkRow.of (xs := [(f, u), (h, v)]) hr (.cons ⟨_, rfl, hu⟩ (.cons ⟨_, rfl, hv⟩ (.nil _)))
theorem Tk.of {w : World} {f : Bool} {v : Value} {l : List Pr} (h : Prs w w.heap.size v l) : Tk w (.agg #[.bool f, v]) f l := ⟨_, rfl, h⟩
theorem two_max {f h : Bool} {a b : List Pr} (ha : a.length ≤ maxLen) (hb : b.length ≤ maxLen) : ∀ t ∈ [(f, a), (h, b)], t.2.length ≤ maxLen := by
  intro t ht
  simp at ht
  rcases ht with rfl | rfl
  · exact ha
  · exact hb

end Go.Proofs.Ytjjccoliknngcaa

namespace Go.Proofs.Ytjjccoliknngcaa
open Go.RowKit Go.Lib

/-- A key as a word. -/
abbrev wv (n : Nat) : Value := .int .u64 (n : Int)
theorem words_one (xs : List Nat) : ∀ u ∈ xs.map wv, u.oneCell' = true := by
  intro u hu
  obtain ⟨x, _, rfl⟩ := List.mem_map.1 hu
  rfl
theorem Elems.news {α : Type} {enc : α → Value} {w : World} {B : Nat} {A : Option Addr} {m n c : Nat} {xs : List α} (h : Elems enc w B (.slice A n c) xs) (hm : m = xs.length) : 0 < m → ∃ ad, A = some ad ∧ ∀ j u, (xs.map enc)[j]? = some u → w.cell? (ad.add j) = some u := fun h0 => by
  obtain ⟨A', c', hv, _, ha⟩ := h
  injection hv with h1 h2 h3
  subst h1
  obtain ⟨ad, e, _, hc⟩ := ha (by omega)
  refine ⟨ad, e, fun j u hj => ?_⟩
  rw [List.getElem?_map] at hj
  obtain ⟨x, hx, rfl⟩ := Option.map_eq_some_iff.1 hj
  exact hc j x hx
theorem words_own {w : World} {base : Nat} {e : TypeId} {S : Option Addr} {n c : Nat} {xs : List Nat} (h : w.ownsRow base e 1 (.slice S n c) n (xs.map wv)) (hn : n = xs.length) : Wds w w.heap.size (.slice S n c) xs := by
  subst hn
  exact Elems.own h
theorem Prs.set_box {w : World} {B G : Nat} {t : TypeId} {b : Bool} {X : Option Addr} {n c : Nat} {v : Value} {l : List Pr} (h : Prs w B v l) (r : RowAt w G t [.bool b, .slice X n c]) (b' : Bool) (v' : Value) : Prs ((w.setCell ⟨G, 0, none⟩ (.bool b')).setCell ⟨G, 1, none⟩ v') B v l := by
  have h1 := h.set_no ⟨G, 0, none⟩ (fun m e => by have := r.two.1; rw [this] at e; cases e) (.bool b')
  exact h1.set_no ⟨G, 1, none⟩ (fun m e => by have := (r.set 0 (.bool b')).two.2; rw [this] at e; cases e) v'
/-- What layer 5's Keys tell of a signature: its keys, rising, just if no two are alike. -/
theorem sign_keys (r : Nat) (ks : List Nat) (h : ks.length ≤ 2048) : ∃ L : List Nat, keysT r (signL r ks) = (L, decide ks.Nodup) ∧ (∀ x ∈ L, x ∈ ks) ∧ (∀ i j (_ : i < j) (hj : j < L.length), L[i] < L[j]) ∧ (ks.Nodup → L.length = ks.length) ∧ L.length ≤ ks.length := by
  have hs := signL_srt r ks
  have hp := signL_perm r ks
  have hr := sign_right (r := r) h
  have hl := signL_length r ks
  have hm : ∀ x ∈ (signL r ks).map (·.1), x ∈ ks := fun x hx => by
    obtain ⟨p, hp1, rfl⟩ := List.mem_map.1 hx
    exact (mem_signL.1 hp1).2
  by_cases hn : ks.Nodup
  · refine ⟨(signL r ks).map (·.1), ?_, hm, fun i j hij hj => ?_, fun _ => by rw [List.length_map, hl], by rw [List.length_map, hl]; exact Nat.le_refl _⟩
    · rw [ones_keys hn h hs hp, decide_eq_true hn]
    · have hkt := ones_keys hn h hs hp
      have hkb : keysB r (signL r ks) = true := by
        unfold keysT at hkt
        split at hkt
        · rename_i h1
          rw [Bool.and_eq_true] at h1
          exact h1.2
        · injection hkt with _ h2
          cases h2
      rw [List.length_map] at hj
      rw [List.getElem_map, List.getElem_map]
      exact keysB_rise hs hkb i j hij hj
  · refine ⟨[], ?_, fun x hx => by simp at hx, fun i j _ hj => by simp at hj, fun h => absurd h hn, Nat.zero_le _⟩
    rw [decide_eq_false hn]
    unfold keysT
    cases e : keysB r (signL r ks)
    · rw [Bool.and_false]; rfl
    · exfalso
      have h1 := keysB_nodup hs e
      have h2 := (hp.map (·.1)).nodup_iff.1 h1
      rw [List.map_map] at h2
      have h3 : (List.map ((fun p : Pr => p.1) ∘ fun k => (k, r)) ks) = ks := by simp [Function.comp_def]
      rw [h3] at h2
      exact hn h2
theorem sign_rot (r : Nat) (ks : List Nat) (n : Nat) : signL r (ks.drop n ++ ks.take n) = signL r ks := signL_eq (by
  have := List.perm_append_comm (l₁ := ks.drop n) (l₂ := ks.take n)
  rwa [List.take_append_drop] at this)
/-- Whether the first keys are unlike, one more. -/
theorem nodup_more {ks : List Nat} {i : Nat} (h : i < ks.length) : (decide (ks.take i).Nodup && decide (ks[i] ∉ ks.take i)) = decide (ks.take (i + 1)).Nodup := by
  rw [← Bool.decide_and]
  apply decide_eq_decide.2
  have e := List.take_succ_eq_append_getElem h
  generalize ks[i] = y at *
  generalize ks.take i = l at *
  rw [e, List.nodup_append]
  constructor
  · rintro ⟨h1, h2⟩
    exact ⟨h1, by simp, fun a ha b hb e' => by rw [List.mem_singleton] at hb; exact h2 (by rw [← hb, ← e']; exact ha)⟩
  · rintro ⟨h1, _, h2⟩
    exact ⟨h1, fun ha => h2 _ ha _ (by simp) rfl⟩
theorem unlike_more {ks : List Nat} {j : Nat} (h : j < ks.length) (y : Nat) : (decide (y ∉ ks.take j) && decide (y ≠ ks[j])) = decide (y ∉ ks.take (j + 1)) := by
  rw [← Bool.decide_and]
  apply decide_eq_decide.2
  rw [List.take_succ_eq_append_getElem h, List.mem_append, List.mem_singleton, not_or]
theorem among_more {ks : List Nat} {j : Nat} (h : j < ks.length) (y : Nat) : (decide (y ∈ ks.take j) || decide (ks[j] = y)) = decide (y ∈ ks.take (j + 1)) := by
  rw [← Bool.decide_or]
  apply decide_eq_decide.2
  rw [List.take_succ_eq_append_getElem h, List.mem_append, List.mem_singleton, eq_comm (a := y)]
end Go.Proofs.Ytjjccoliknngcaa

namespace Go.Proofs.Ytjjccoliknngcaa
open Go.RowKit Go.Lib

/-- A box of two cells. -/
def Two (G : Nat) (a b : Value) (W : World) : Prop := W.cell? ⟨G, 0, none⟩ = some a ∧ W.cell? ⟨G, 1, none⟩ = some b
theorem Two.on {G : Nat} {a b : Value} {w w' : World} (h : Two G a b w) (hb : Below w.heap.size w w') (hG : G < w.heap.size) : Two G a b w' :=
  ⟨(hb.cell (p := ⟨G, 0, none⟩) hG).trans h.1, (hb.cell (p := ⟨G, 1, none⟩) hG).trans h.2⟩
theorem Two.set {G B0 : Nat} {a b : Value} {w : World} (h : Two G a b w) (hG : G ≠ B0) (u v : Value) : Two G a b ((w.setCell ⟨B0, 0, none⟩ u).setCell ⟨B0, 1, none⟩ v) := by
  have far : ∀ {W : World} {p q : Addr} {u : Value} (_ : W.cell? p = some u) (_ : q.block ≠ p.block) (v : Value), (W.setCell q v).cell? p = some u := fun h hne v => (World.cell?_setCell_other _ _ _ _ (fun e => hne (by rw [e]))).trans h
  have n1 : B0 ≠ G := by omega
  exact ⟨far (far h.1 n1 _) n1 _, far (far h.2 n1 _) n1 _⟩
theorem Two.alloc {G : Nat} {a b : Value} {w : World} (h : Two G a b w) (o : Obj) : Two G a b (w.alloc o) := ⟨cellA h.1 o, cellA h.2 o⟩
theorem Two.drew {G : Nat} {a b : Value} {w : World} (h : Two G a b w) : Two G a b w.drew := h
theorem merge_forged {r : Nat} {a : List Pr} {ks : List Nat} (ha : rightT a = true) (h : a.length + ks.length ≤ 2048) : ∃ m : List Pr, mergeT [(false, a), (true, signL r ks)] = (0, true, m) ∧ m.length ≤ 2048 := by
  have h1 : allRight [(false, a), (true, signL r ks)] = true := by simp [allRight, ha, sign_right (r := r) (ks := ks) (by omega)]
  have h2 : tSumLen [(false, a), (true, signL r ks)] = a.length + ks.length := by simp [tSumLen, signL_length]
  refine ⟨mrgAll [a, signL r ks], ?_, ?_⟩
  · unfold mergeT
    rw [h1, if_neg (by simp), h2, if_neg (by omega)]
    simp
  · have := (mrgAll_perm [a, signL r ks]).length_eq
    rw [this]
    simp [signL_length]
    omega
theorem check_forged (t : List Pr) (ks : List Nat) (r : Nat) (l : List Pr) : checkO t ks r true l = false := by unfold checkO; simp

set_option maxHeartbeats 4000000 in
set_option maxRecDepth 100000 in
theorem oforged_walk (v u k y : Value) (wild : List Pr) (raw : List Int) (keys : List Nat) (root : Nat) (tok : List Int) (w : World) (hw : Prs w w.heap.size v wild) (hu : Ints w w.heap.size u raw) (hk : Wds w w.heap.size k keys) (hy : Ints w w.heap.size y tok)
    (hI : ∀ r ∈ raw, I64 r) (hJ : ∀ r ∈ tok, I64 r) (hf : ∀ x ∈ keys, x < 18446744073709551616) (l9w : wild.length ≤ maxLen) (l9 : raw.length ≤ maxLen) (l9k : keys.length ≤ maxLen) (l9t : tok.length ≤ maxLen) :
    Calls Try.prog 5 #[v, u, k, .int .u64 root, y] w fun e w' => e = .returned (.bool true) ∧ Below w.heap.size w w' := by
  obtain ⟨Aw, cw, rfl, hcw⟩ := hw.form
  obtain ⟨Au, cu, rfl, hcu⟩ := hu.form
  obtain ⟨K, kc, rfl, hkc⟩ := hk.form
  obtain ⟨Ay, cy, rfl, hcy⟩ := hy.form
  have l9w' : wild.length ≤ 9223372036854775807 := l9w
  have l9k' : keys.length ≤ 9223372036854775807 := l9k
  go_enter Try.func5, Try.ntmps5
  go_wp2_with fail
  with_reducible refine (awake7_any _).mono ?_
  rintro e w1 ⟨rfl, B1⟩
  replace hw := hw.on B1
  replace hu := hu.on B1
  replace hk := hk.on B1
  replace hy := hy.on B1
  go_upto_region 2 with (fail)
  go_cut [12] from 20 to 24 (fun kv wx => ∃ ks : List Nat, kv = .slice K ks.length kc ∧ wx = w1 ∧ ks.length ≤ 20 ∧ ks = keys.take ks.length)
  case first =>
    by_cases h20 : 20 < keys.length
    · have f1 : ((keys.length : Int) ≤ 20) = False := eq_false (by omega)
      have f2 : (keys.length ≤ 20) = False := eq_false (by omega)
      have f3 : ((20 : Int) < (keys.length : Int)) = True := eq_true (by omega)
      have f4 : (20 < keys.length) = True := eq_true h20
      have f5 : ((20 : Int) ≤ (kc : Int)) = True := eq_true (by omega)
      have f6 : (20 ≤ kc) = True := eq_true (by omega)
      go_wp2_with fail
      go_meet
      exact ⟨keys.take 20, by rw [List.length_take, Nat.min_eq_left (by omega)]; congr 1; omega, rfl, by rw [List.length_take]; omega, by rw [List.length_take, Nat.min_eq_left (by omega)]⟩
    · have f1 : ((keys.length : Int) ≤ 20) = True := eq_true (by omega)
      have f2 : (keys.length ≤ 20) = True := eq_true (by omega)
      have f3 : ((20 : Int) < (keys.length : Int)) = False := eq_false (by omega)
      have f4 : (20 < keys.length) = False := eq_false h20
      have f5 : ((keys.length : Int) ≤ (kc : Int)) = True := eq_true (by omega)
      have f6 : (keys.length ≤ kc) = True := eq_true (by omega)
      go_wp2_with fail
      go_meet
      exact ⟨keys, by congr 1; omega, rfl, by omega, by rw [List.take_length]⟩
  case rest =>
    obtain ⟨ks, rfl, hwc, hk20, hke⟩ := hcut
    obtain rfl : wc = w1 := hwc
    have hK : Wds wc wc.heap.size (.slice K ks.length kc) ks := by
      have h1 : ks.length ≤ keys.length := by
        have := congrArg List.length hke
        rw [List.length_take] at this
        omega
      have := hk.first ks.length h1
      rwa [← hke] at this
    have hfit : ∀ x ∈ ks, x < 18446744073709551616 := fun x hx => hf x (by rw [hke] at hx; exact List.mem_of_mem_take hx)
    clear hke hk hkc l9k l9k' hf
    have hkc := hK.form'
    obtain ⟨lt, hlt⟩ : ∃ lt, tokL tok = lt := ⟨_, rfl⟩
    have hlt9 : lt.length ≤ 30 := by rw [← hlt]; exact tokL_length tok
    obtain ⟨m, hmm, hm9⟩ := merge_forged (r := root) (ks := ks) (a := lt) (by rw [← hlt]; exact tokL_right tok) (by omega)
    have ls20 : (signL root ks).length ≤ 20 := by rw [signL_length]; omega
    have cS1 := fun W h => Sign_eq root (.slice K ks.length kc) ks _ rfl W h (by omega)
    have cT := fun W h => Token_eq (.slice Ay tok.length cy) tok false lt W hlt h hJ l9t
    have HF1 := fun (A P : Option Addr) (n c pc : Nat) (t : List Pr) (W : World) h1 h2 h3 (h9 : t.length ≤ 100000) => Check_eq A K P n c ks.length kc (signL root ks).length pc t (signL root ks) ks root true false (check_forged _ _ _ _) rfl rfl W h1 h2 h3 hfit h9 (by omega) (by omega)
    have HF2 := fun (A P : Option Addr) (n c pc : Nat) (t : List Pr) (W : World) h1 h2 h3 (h9 : t.length ≤ 100000) => Check_eq A K P n c ks.length kc m.length pc t m ks root true false (check_forged _ _ _ _) rfl rfl W h1 h2 h3 hfit h9 (by omega) (by omega)
    generalize signL root ks = l at *
    have HMM := Lib.hid hmm
    have HT := Lib.hid cT
    have HC1 := Lib.hid HF1
    have HC2 := Lib.hid HF2
    clear hmm cT hlt HF1 HF2
    go_wp2_with fail
    with_reducible refine (cS1 _ hK).mono ?_
    rintro e w3 ⟨SA, sa, rfl, hA, b3⟩
    replace hw := hw.on b3
    replace hu := hu.on b3
    replace hy := hy.on b3
    replace hK := hK.on b3
    have B3 := B1.trans (b3.mono B1.size)
    clear b3 B1 cS1
    go_upto_region 4 with (fail)
    have qA := RowAt.new w3 40 #[.bool false, .slice SA l.length sa]
    have bx := (Below.refl w3.heap.size w3).alloc (Nat.le_refl _) (.cells #[.bool false, .slice SA l.length sa] 40)
    generalize hg4 : w3.alloc (.cells #[.bool false, .slice SA l.length sa] 40) = w4 at *
    have c0 := qA.two.1
    have f0 := qA.frozen 0
    go_upto_region 5 with (fail)
    have b5 := bx.setCell (p := ⟨w3.heap.size, 0, none⟩) (Nat.le_refl _) (.bool true)
    have q5 := qA.set 0 (.bool true)
    replace hw := hw.on b5
    replace hu := hu.on b5
    replace hy := hy.on b5
    replace hK := hK.on b5
    replace hA := hA.on b5
    have B5 := B3.trans (b5.mono B3.size)
    have hG := q5.lt
    clear bx b5 B3 c0 f0 qA
    simp only [List.set_cons_zero] at q5
    generalize w4.setCell ⟨w3.heap.size, 0, none⟩ (.bool true) = w5 at *
    clear hg4
    generalize w3.heap.size = gA at *
    go_cut [15, 16] from 33 to 39 (fun pv ev wx => ∃ (G : Nat) (Am : Option Addr) (cm : Nat), pv = .pointer (some ⟨G, 0, none⟩) ∧ ev = .int .i64 0 ∧ RowAt wx G 40 [.bool true, .slice Am m.length cm] ∧ Prs wx wx.heap.size (.slice Am m.length cm) m ∧ Below w5.heap.size w5 wx)
    case first =>
      have h2 : Two gA (.bool true) (.slice SA l.length sa) w5 := q5.two
      have hBd : Below w5.heap.size w5 w5.drew := (Below.refl _ _).drew
      have hBa : Below w5.heap.size w5 ((w5.alloc (.cells #[.bool false, .slice none 0 0] 40)).drew) := ((Below.refl _ _).alloc (Nat.le_refl _) _).drew
      have bxa : RowAt ((w5.alloc (.cells #[.bool false, .slice none 0 0] 40)).drew) w5.heap.size 40 [.bool false, .slice none 0 0] := RowAt.new w5 40 #[.bool false, .slice none 0 0]
      have m1 := HT.out _ (hy.on hBd)
      have m2 := HT.out _ (hy.on hBa)
      have h2a : Two gA (.bool true) (.slice SA l.length sa) ((w5.alloc (.cells #[.bool false, .slice none 0 0] 40)).drew) := h2.on hBa hG
      have nine2 : ∀ t ∈ [(false, lt), (true, l)], t.2.length ≤ maxLen := two_max (by unfold maxLen; omega) (by unfold maxLen; omega)
      -- the world behind Token
      have HX := Lib.hid (show ∀ (wT : World) (AT : Option Addr) (cT : Nat), Prs wT wT.heap.size (.slice AT lt.length cT) lt → Below w5.heap.size w5 wT →
          (Calls Try.prog 28 #[.slice (some ⟨wT.heap.size + 1, 0, none⟩) 2 2] ((wT.alloc (.cells #[.bool false, .slice none 0 0] 40)).alloc (.cells #[.bool false, .slice AT lt.length cT, .bool true, .slice SA l.length sa] 40)) fun e w' => ∃ A c, e = .returned (.tuple #[.agg #[.bool true, .slice A m.length c], .int .i64 0]) ∧ Tk w' (.agg #[.bool true, .slice A m.length c]) true m ∧ Below wT.heap.size wT w' ∧ RowAt w' wT.heap.size 40 [.bool false, .slice none 0 0]) ∧
          (Calls Try.prog 28 #[.slice (some ⟨wT.heap.size, 0, none⟩) 2 2] ((wT.alloc (.cells #[.bool false, .slice AT lt.length cT, .bool true, .slice SA l.length sa] 40)).alloc (.cells #[.bool false, .slice none 0 0] 40)) fun e w' => ∃ A c, e = .returned (.tuple #[.agg #[.bool true, .slice A m.length c], .int .i64 0]) ∧ Tk w' (.agg #[.bool true, .slice A m.length c]) true m ∧ Below wT.heap.size wT w' ∧ RowAt w' (wT.heap.size + 1) 40 [.bool false, .slice none 0 0]) ∧
          (Calls Try.prog 28 #[.slice (some ⟨wT.heap.size, 0, none⟩) 2 2] (wT.alloc (.cells #[.bool false, .slice AT lt.length cT, .bool true, .slice SA l.length sa] 40)) fun e w' => ∃ A c, e = .returned (.tuple #[.agg #[.bool true, .slice A m.length c], .int .i64 0]) ∧ Tk w' (.agg #[.bool true, .slice A m.length c]) true m ∧ Below wT.heap.size wT w') from fun wT AT cT hT hb => by
        have hA' := hA.on hb
        have bb := (Below.refl wT.heap.size wT).alloc (Nat.le_refl _) (.cells #[.bool false, .slice none 0 0] 40)
        have br := (Below.refl wT.heap.size wT).alloc (Nat.le_refl _) (.cells #[.bool false, .slice AT lt.length cT, .bool true, .slice SA l.length sa] 40)
        have bbr := bb.alloc (by simp) (.cells #[.bool false, .slice AT lt.length cT, .bool true, .slice SA l.length sa] 40)
        have brb := br.alloc (by simp) (.cells #[.bool false, .slice none 0 0] 40)
        refine ⟨?_, ?_, ?_⟩
        · have r := RowAt.new (wT.alloc (.cells #[.bool false, .slice none 0 0] 40)) 40 #[.bool false, .slice AT lt.length cT, .bool true, .slice SA l.length sa]
          rw [World.size_alloc] at r
          have q := (RowAt.new wT 40 #[.bool false, .slice none 0 0]).alloc (.cells #[.bool false, .slice AT lt.length cT, .bool true, .slice SA l.length sa] 40)
          exact (Merge_eq _ _ _ 0 true m HMM.out (two_toks r (hT.on bbr) (hA'.on bbr)) (by simp) nine2).mono fun e w' ⟨A, c, he, hx, h⟩ => ⟨A, c, he, hx, bbr.trans (h.mono bbr.size), q.on h⟩
        · have r := (RowAt.new wT 40 #[.bool false, .slice AT lt.length cT, .bool true, .slice SA l.length sa]).alloc (.cells #[.bool false, .slice none 0 0] 40)
          have q := RowAt.new (wT.alloc (.cells #[.bool false, .slice AT lt.length cT, .bool true, .slice SA l.length sa] 40)) 40 #[.bool false, .slice none 0 0]
          rw [World.size_alloc] at q
          exact (Merge_eq _ _ _ 0 true m HMM.out (two_toks r (hT.on brb) (hA'.on brb)) (by simp) nine2).mono fun e w' ⟨A, c, he, hx, h⟩ => ⟨A, c, he, hx, brb.trans (h.mono brb.size), q.on h⟩
        · have r := RowAt.new wT 40 #[.bool false, .slice AT lt.length cT, .bool true, .slice SA l.length sa]
          exact (Merge_eq _ _ _ 0 true m HMM.out (two_toks r (hT.on br) (hA'.on br)) (by simp) nine2).mono fun e w' ⟨A, c, he, hx, h⟩ => ⟨A, c, he, hx, br.trans (h.mono br.size)⟩)
      have h2k := h2
      obtain ⟨y1, y2⟩ : w5.cell? ⟨gA, 0, none⟩ = some (.bool true) ∧ w5.cell? ⟨gA, 1, none⟩ = some (.slice SA l.length sa) := h2
      clear q5
      go_region_held3 (fun w' => w'.cell? ⟨gA, 0, none⟩ = some (.bool true) ∧ w'.cell? ⟨gA, 1, none⟩ = some (.slice SA l.length sa))
        (first | exact h2k.drew | exact h2a | exact hT2 | exact hT2.alloc _ | exact (hT2.alloc _).alloc _ | exact h5 | exact h5.alloc _ | exact h5.set (Nat.ne_of_lt hG) _ _ | exact h5.set (Nat.ne_of_lt hGT) _ _ | exact h5.set (Nat.ne_of_lt (Nat.lt_succ_of_lt hGT)) _ _ | go_keep)
        (first
          | ((with_reducible refine m1.mono ?_); rintro e wT ⟨AT, cT, rfl, tT, bT'⟩; have bT := hBd.trans (bT'.mono hBd.size); have hT2 := h2k.on bT hG; have hGT := Nat.lt_of_lt_of_le hG bT.size; obtain ⟨mA, mB, mC⟩ := HX.out wT AT cT tT.prs bT)
          | ((with_reducible refine m2.mono ?_); rintro e wT ⟨AT, cT, rfl, tT, bT'⟩; have bT := hBa.trans (bT'.mono hBa.size); have hT2 := h2k.on bT hG; have hGT := Nat.lt_of_lt_of_le hG bT.size; obtain ⟨mA, mB, mC⟩ := HX.out wT AT cT tT.prs bT; have bxT := bxa.on bT')
          | ((with_reducible refine mA.mono ?_); rintro e w9 ⟨Am, cm, rfl, tm, b9', bx9⟩; obtain ⟨z0, z1⟩ := bx9.two; have zf0 := bx9.frozen 0; have zf1 := bx9.frozen 1; have b9 := bT.trans (b9'.mono bT.size); have h5 := h2k.on b9 hG)
          | ((with_reducible refine mB.mono ?_); rintro e w9 ⟨Am, cm, rfl, tm, b9', bx9⟩; obtain ⟨z0, z1⟩ := bx9.two; have zf0 := bx9.frozen 0; have zf1 := bx9.frozen 1; have b9 := bT.trans (b9'.mono bT.size); have h5 := h2k.on b9 hG)
          | ((with_reducible refine mC.mono ?_); rintro e w9 ⟨Am, cm, rfl, tm, b9'⟩; have b9 := bT.trans (b9'.mono bT.size); have h5 := h2k.on b9 hG; (try (have bx9 := bxT.on b9'; obtain ⟨z0, z1⟩ := bx9.two; have zf0 := bx9.frozen 0; have zf1 := bx9.frozen 1))))
      all_goals
        go_simp
        go_wp2_with fail
        go_meet
        first
          | exact ⟨_, Am, cm, rfl, rfl, RowAt.new w9 40 #[.bool true, .slice Am m.length cm], tm.prs.alloc _, b9.alloc b9.size _⟩
          | exact ⟨_, Am, cm, rfl, rfl, (bx9.set 0 (.bool true)).set 1 (.slice Am m.length cm), by simpa [World.setCell] using tm.prs.set_box bx9 true (.slice Am m.length cm), (b9.setCell (p := ⟨_, 0, none⟩) (by first | exact Nat.le_refl _ | exact bT.size | exact Nat.le_succ_of_le bT.size) _).setCell (p := ⟨_, 1, none⟩) (by first | exact Nat.le_refl _ | exact bT.size | exact Nat.le_succ_of_le bT.size) _⟩
    case rest =>
      obtain ⟨w6, hw6⟩ : ∃ w6, w6 = wc := ⟨_, rfl⟩
      subst hw6
      obtain ⟨gM, SM, sm, rfl, rfl, qM, hM, b6⟩ := hcut
      replace hw := hw.on b6
      replace hu := hu.on b6
      replace hK := hK.on b6
      replace hA := hA.on b6
      have qA := q5.on b6
      have B6 := B5.trans (b6.mono B5.size)
      clear b6 B5 q5 hG HT HMM hy
      obtain ⟨s0, s1⟩ := qM.two
      have fM := qM.frozen 0
      go_upto_region 8 with (fail)
      clear s0 s1 fM
      have cTb := fun W h => Table7_any (.slice Au raw.length cu) raw W h hI l9
      obtain ⟨htb, htl⟩ := tableL_facts raw
      generalize tableL raw = tb at *
      go_cut [60, 61, 62] from 51 to 62 (fun rv nv iv wx => ∃ (g : Nat) (wl : List Pr) (nw : Nat) (At : Option Addr) (ct : Nat), rv = .slice (some ⟨g, 0, none⟩) 3 3 ∧ nv = .int .i64 3 ∧ iv = .int .i64 0 ∧ nw = wl.length ∧ wl.length ≤ 40 ∧ RowAt wx g 22 [.slice Aw nw cw, .slice At tb.length ct, .slice SA l.length sa] ∧ Prs wx wx.heap.size (.slice Aw nw cw) wl ∧ Prs wx wx.heap.size (.slice At tb.length ct) tb ∧ Below w6.heap.size w6 wx)
      case first =>
        have cT1 := cTb _ (show Ints w6.drew w6.drew.heap.size _ _ from hu)
        obtain ⟨y0, y1⟩ := qA.two
        have fA := qA.frozen 1
        have hGA := qA.lt
        by_cases h40 : 40 < wild.length
        · have f1 : ((wild.length : Int) ≤ 40) = False := eq_false (by omega)
          have f2 : (wild.length ≤ 40) = False := eq_false (by omega)
          have f3 : ((40 : Int) < (wild.length : Int)) = True := eq_true (by omega)
          have f4 : (40 < wild.length) = True := eq_true h40
          have f5 : ((40 : Int) ≤ (cw : Int)) = True := eq_true (by omega)
          have f6 : (40 ≤ cw) = True := eq_true (by omega)
          have hmin : min (wild.length : Int) 40 = 40 := by omega
          go_region_held3 (fun w' => w'.cell? ⟨gA, 1, none⟩ = some (.slice SA l.length sa)) (first | assumption | exact hy1 | exact cellA hy1 _ | go_keep)
            (first | ((with_reducible refine cT1.mono ?_); rintro e wT ⟨At, ct, rfl, tT, bT'⟩; have bT := ((Below.refl w6.heap.size w6).drew).trans bT'; have hy1 := (qA.on bT).two.2))
          all_goals
            go_simp
            go_wp2_with fail
            go_meet
            exact ⟨_, wild.take 40, 40, At, ct, rfl, rfl, rfl, by rw [List.length_take]; omega, by rw [List.length_take]; omega, RowAt.new wT 22 #[.slice Aw 40 cw, .slice At tb.length ct, .slice SA l.length sa], ((hw.on bT).first 40 (by omega)).alloc _, tT.alloc _, bT.alloc bT.size _⟩
        · have f1 : ((wild.length : Int) ≤ 40) = True := eq_true (by omega)
          have f2 : (wild.length ≤ 40) = True := eq_true (by omega)
          have f3 : ((40 : Int) < (wild.length : Int)) = False := eq_false (by omega)
          have f4 : (40 < wild.length) = False := eq_false h40
          have f5 : ((wild.length : Int) ≤ (cw : Int)) = True := eq_true (by omega)
          have f6 : (wild.length ≤ cw) = True := eq_true (by omega)
          have hmin : min (wild.length : Int) 40 = (wild.length : Int) := by omega
          go_region_held3 (fun w' => w'.cell? ⟨gA, 1, none⟩ = some (.slice SA l.length sa)) (first | assumption | exact hy1 | exact cellA hy1 _ | go_keep)
            (first | ((with_reducible refine cT1.mono ?_); rintro e wT ⟨At, ct, rfl, tT, bT'⟩; have bT := ((Below.refl w6.heap.size w6).drew).trans bT'; have hy1 := (qA.on bT).two.2))
          all_goals
            go_simp
            go_wp2_with fail
            go_meet
            exact ⟨_, wild, wild.length, At, ct, rfl, rfl, rfl, rfl, by omega, RowAt.new wT 22 #[.slice Aw wild.length cw, .slice At tb.length ct, .slice SA l.length sa], (hw.on bT).alloc _, tT.alloc _, bT.alloc bT.size _⟩
      case rest =>
        obtain ⟨w7, hw7⟩ : ∃ w7, w7 = wc := ⟨_, rfl⟩
        subst hw7
        obtain ⟨g, wl, nw, At, ct, rfl, rfl, rfl, hwn, hw40, qR, hW, hTb, b7⟩ := hcut
        replace hK := hK.on b7
        replace hA := hA.on b7
        replace hM := hM.on b7
        replace qA := qA.on b7
        replace qM := qM.on b7
        have B7 := B6.trans (b7.mono B6.size)
        clear b7 B6 hw hu cTb hcw hcu hcy l9w' l9w l9 l9t
        have hall : ∀ i, i < 3 → ∃ (A : Option Addr) (n c : Nat) (t : List Pr), ([.slice Aw nw cw, .slice At tb.length ct, .slice SA l.length sa] : List Value)[i]? = some (.slice A n c) ∧ Prs w7 w7.heap.size (.slice A n c) t ∧ t.length ≤ 100000 := fun i h => by
          match i, h with
          | 0, _ => exact ⟨_, _, _, wl, rfl, hW, by omega⟩
          | 1, _ => exact ⟨_, _, _, tb, rfl, hTb, by omega⟩
          | 2, _ => exact ⟨_, _, _, l, rfl, hA, by omega⟩
        have HA := Lib.hid hall
        clear hall hW hTb
        go_wp2_with fail
        go_loopw [62] (fun iv wr => ∃ i : Nat, i ≤ 3 ∧ iv = .int .i64 (i : Int) ∧ Below w7.heap.size w7 wr) (fun iv _ => 3 - (intOf iv).toNat)
        case atStart => exact ⟨0, by omega, rfl, Below.refl _ _⟩
        case round =>
          obtain ⟨i, hi3, rfl, hb⟩ := hrel
          by_cases hlt : i < 3
          · obtain ⟨A, n, c, t, hci, hPt, ht9⟩ := HA.out i hlt
            have g1 : ((i : Int) < 3) = True := eq_true (by omega)
            have g2 : (i < 3) = True := eq_true hlt
            have hc := (qR.on hb).cell i
            rw [hci] at hc
            replace hPt := hPt.on hb
            replace hK := hK.on hb
            replace hA := hA.on hb
            replace hM := hM.on hb
            replace qA := qA.on hb
            replace qM := qM.on hb
            obtain ⟨s0, s1⟩ := qA.two
            have c1 := HC1.out A SA n c sa t _ hPt hK hA ht9
            go_wp2_with fail
            with_reducible refine c1.mono ?_
            rintro e w8 ⟨rfl, b8⟩
            replace hPt := hPt.on b8
            replace hK := hK.on b8
            replace hM := hM.on b8
            replace qM := qM.on b8
            have hb8 := hb.trans (b8.mono hb.size)
            clear s0 s1 c1 b8
            obtain ⟨s0, s1⟩ := qM.two
            have c2 := HC2.out A SM n c sm t _ hPt hK hM ht9
            go_wp2_with fail
            with_reducible refine c2.mono ?_
            rintro e w9 ⟨rfl, b9⟩
            have hb9 := hb8.trans (b9.mono hb8.size)
            clear s0 s1 c2 b9
            go_wp2_with fail
            go_roundw
            case rel => exact ⟨i + 1, by omega, by go_num, hb9⟩
            case measure => simp [intOf]; omega
          · obtain rfl : i = 3 := by omega
            go_wp2_with fail
            go_ret
            exact ⟨rfl, B7.trans (hb.mono B7.size)⟩
theorem oforged_calls (xs0 : List Pr) (v0 : Value) {w : World} (s0 : Prs w w.heap.size v0 xs0) (l0 : xs0.length ≤ maxLen) (xs1 : List Int) (v1 : Value) (s1 : Ints w w.heap.size v1 xs1) (b1 : ∀ x ∈ xs1, -9223372036854775808 ≤ x ∧ x ≤ 9223372036854775807) (l1 : xs1.length ≤ maxLen) (xs2 : List Nat) (v2 : Value) (s2 : Wds w w.heap.size v2 xs2) (b2 : ∀ x ∈ xs2, x < 18446744073709551616) (l2 : xs2.length ≤ maxLen) (a3 : Int) (w3 : (Lit.int .u64 a3).wf = true) (xs4 : List Int) (v4 : Value) (s4 : Ints w w.heap.size v4 xs4) (b4 : ∀ x ∈ xs4, -9223372036854775808 ≤ x ∧ x ≤ 9223372036854775807) (l4 : xs4.length ≤ maxLen) :
    Calls Try.prog 5 #[v0, v1, v2, .int .u64 a3, v4] w fun e w' => e = .returned (.bool true) ∧ Below w.heap.size w w' := by
  have h1 := bounds_u64 w3
  obtain ⟨k, rfl⟩ := Int.eq_ofNat_of_zero_le h1.1
  exact oforged_walk v0 v1 v2 v4 xs0 xs1 xs2 k xs4 w s0 s1 s2 s4 b1 b4 b2 l0 l1 l2 l4
end Go.Proofs.Ytjjccoliknngcaa
