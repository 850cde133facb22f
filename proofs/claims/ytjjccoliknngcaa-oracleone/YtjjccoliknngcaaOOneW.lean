/- Layer 7: Sign and Check with their answers named; small words for its laws.
   Layer 7: plain facts for OracleSign and OracleOne; words of appended slices.
   Layer 7: plain facts for OracleOne; append in a guarded place.
   The walk of OracleOne. -/
import Derived.Test.YtjjccoliknngcaaOrcV
import Derived.OpenShut
import Derived.Deep.CutRange
namespace Go.Proofs.Ytjjccoliknngcaa
open Go.RowKit Go.Lib

/-- Sign of few keys, with the answer named. -/
theorem Sign_eq (r : Nat) (v : Value) (ks : List Nat) (l : List Pr) (hl : signL r ks = l) (w : World) (hv : Wds w w.heap.size v ks) (h9 : ks.length ≤ 2048) :
    Calls Try.prog 25 #[.int .u64 r, v] w fun e w' => ∃ A c, e = .returned (.tuple #[.agg #[.bool false, .slice A l.length c], .int .i64 0]) ∧ Prs w' w'.heap.size (.slice A l.length c) l ∧ Below w.heap.size w w' := by
  have := oSign_any r v ks w hv (by unfold maxLen; omega)
  unfold signO at this
  rw [if_neg (by omega), hl] at this
  exact this
theorem Check_eq (A K P : Option Addr) (n c kn kc pn pc : Nat) (t l : List Pr) (ks : List Nat) (root : Nat) (f b : Bool) (hb : checkO t ks root f l = b) (hn : kn = ks.length) (hp : pn = l.length) (w : World) (hv : Prs w w.heap.size (.slice A n c) t) (hK : Wds w w.heap.size (.slice K kn kc) ks) (hP : Prs w w.heap.size (.slice P pn pc) l)
    (hfit : ∀ x ∈ ks, x < 18446744073709551616) (h9 : t.length ≤ 100000) (h9k : ks.length ≤ 100000) (h9l : l.length ≤ 100000) :
    Calls Try.prog 21 #[.slice A n c, .agg #[.slice K kn kc, .int .u64 root, .bool f, .slice P pn pc]] w fun e w' => e = .returned (.bool b) ∧ Below w.heap.size w w' := by
  subst hn hp hb
  exact oCheck_any (.slice A n c) t K P kc pc ks root f l w hv hK hP hfit h9 h9k h9l

theorem Elems.form' {α : Type} {enc : α → Value} {w : World} {B : Nat} {A : Option Addr} {l c : Nat} {xs : List α} (h : Elems enc w B (.slice A l c) xs) : xs.length ≤ c := by
  obtain ⟨A', c', hv, hc, _⟩ := h
  injection hv with h1 h2 h3
  subst h3
  exact hc
/-- A slice's elements from the n-th on. -/
theorem Elems.past {α : Type} {enc : α → Value} {w : World} {B : Nat} {A : Option Addr} {l c : Nat} {xs : List α} (h : Elems enc w B (.slice A l c) xs) (n : Nat) (hn : n ≤ xs.length) : Elems enc w B (.slice (if c = n then A else A.map (fun x => x.add n)) (xs.length - n) (c - n)) (xs.drop n) := by
  obtain ⟨A', c', hv, hc, ha⟩ := h
  injection hv with h1 h2 h3
  subst h1; subst h3
  refine ⟨_, c - n, by rw [List.length_drop], by rw [List.length_drop]; omega, fun h0 => ?_⟩
  rw [List.length_drop] at h0
  obtain ⟨ad, e, hb, hcell⟩ := ha (by omega)
  subst e
  refine ⟨ad.add n, by rw [if_neg (by omega)]; rfl, by rw [add_block]; exact hb, fun j s hs => ?_⟩
  rw [add_add]
  rw [List.getElem?_drop] at hs
  exact hcell (n + j) s hs

theorem tableO_right {t : List Pr} (h : Rise t) (hl : t.length ≤ 60) : rightO t = true := (rightO_iff _).2 ⟨by omega, h⟩
theorem sign_one (r k : Nat) : signL r [k] = [(k, r)] := by simp [signL, ins, nil_mrg]
theorem check_none (t : List Pr) (r : Nat) (f : Bool) (l : List Pr) : checkO t [] r f l = false := by unfold checkO; simp
theorem merge_ways {x1 x2 x3 : Bool} {n l : Nat} (h1 : x1 = true → x2 = true → x3 = true) (h2 : x3 = true → 0 < n → x1 = true) (h3 : x3 = true → n < l → x2 = true) (zP : n = 0 → x1 = false) (zR : n = l → x2 = false) (hn : n ≤ l) :
    (x3 = false ∧ x1 = false) ∨ (x3 = false ∧ x1 = true ∧ x2 = false) ∨ (x3 = true ∧
      ((((0 : Int) < n) = True ∧ (0 < n) = True ∧ ((n : Int) < l) = True ∧ (n < l) = True ∧ x1 = true ∧ x2 = true) ∨
       (((0 : Int) < n) = True ∧ (0 < n) = True ∧ ((n : Int) < l) = False ∧ (n < l) = False ∧ x1 = true ∧ x2 = false) ∨
       (((0 : Int) < n) = False ∧ (0 < n) = False ∧ ((n : Int) < l) = True ∧ (n < l) = True ∧ x1 = false ∧ x2 = true) ∨
       (((0 : Int) < n) = False ∧ (0 < n) = False ∧ ((n : Int) < l) = False ∧ (n < l) = False ∧ x1 = false ∧ x2 = false))) := by
  cases x3
  · cases x1
    · exact .inl ⟨rfl, rfl⟩
    · cases x2
      · exact .inr (.inl ⟨rfl, rfl, rfl⟩)
      · exact absurd (h1 rfl rfl) (by simp)
  · refine .inr (.inr ⟨rfl, ?_⟩)
    by_cases a : 0 < n <;> by_cases b : n < l
    · exact .inl ⟨eq_true (by omega), eq_true a, eq_true (by omega), eq_true b, h2 rfl a, h3 rfl b⟩
    · exact .inr (.inl ⟨eq_true (by omega), eq_true a, eq_false (by omega), eq_false b, h2 rfl a, zR (by omega)⟩)
    · exact .inr (.inr (.inl ⟨eq_false (by omega), eq_false a, eq_true (by omega), eq_true b, zP (by omega), h3 rfl b⟩))
    · exact .inr (.inr (.inr ⟨eq_false (by omega), eq_false a, eq_false (by omega), eq_false b, zP (by omega), zR (by omega)⟩))
theorem two_toks {w : World} {g : Nat} {t : TypeId} {f h : Bool} {u v : Value} {a b : List Pr} (hr : RowAt w g t [.bool f, u, .bool h, v]) (hu : Prs w w.heap.size u a) (hv : Prs w w.heap.size v b) : TkRow w (.slice (some ⟨g, 0, none⟩) 2 2) [(f, a), (h, b)] :=
  TkRow.of (xs := [(f, u), (h, v)]) hr (.cons ⟨_, rfl, hu⟩ (.cons ⟨_, rfl, hv⟩ (.nil _)))
theorem Tk.of {w : World} {f : Bool} {v : Value} {l : List Pr} (h : Prs w w.heap.size v l) : Tk w (.agg #[.bool f, v]) f l := ⟨_, rfl, h⟩
theorem two_max {f h : Bool} {a b : List Pr} (ha : a.length ≤ maxLen) (hb : b.length ≤ maxLen) : ∀ t ∈ [(f, a), (h, b)], t.2.length ≤ maxLen := by
  intro t ht
  simp at ht
  rcases ht with rfl | rfl
  · exact ha
  · exact hb

end Go.Proofs.Ytjjccoliknngcaa

namespace Go.Proofs.Ytjjccoliknngcaa
open Go.RowKit Go.Lib

/-- A key as a word. -/
abbrev wv (n : Nat) : Value := .int .u64 (n : Int)
theorem words_one (xs : List Nat) : ∀ u ∈ xs.map wv, u.oneCell' = true := by
  intro u hu
  obtain ⟨x, _, rfl⟩ := List.mem_map.1 hu
  rfl
theorem Elems.news {α : Type} {enc : α → Value} {w : World} {B : Nat} {A : Option Addr} {m n c : Nat} {xs : List α} (h : Elems enc w B (.slice A n c) xs) (hm : m = xs.length) : 0 < m → ∃ ad, A = some ad ∧ ∀ j u, (xs.map enc)[j]? = some u → w.cell? (ad.add j) = some u := fun h0 => by
  obtain ⟨A', c', hv, _, ha⟩ := h
  injection hv with h1 h2 h3
  subst h1
  obtain ⟨ad, e, _, hc⟩ := ha (by omega)
  refine ⟨ad, e, fun j u hj => ?_⟩
  rw [List.getElem?_map] at hj
  obtain ⟨x, hx, rfl⟩ := Option.map_eq_some_iff.1 hj
  exact hc j x hx
theorem words_own {w : World} {base : Nat} {e : TypeId} {S : Option Addr} {n c : Nat} {xs : List Nat} (h : w.ownsRow base e 1 (.slice S n c) n (xs.map wv)) (hn : n = xs.length) : Wds w w.heap.size (.slice S n c) xs := by
  subst hn
  exact Elems.own h
theorem Prs.set_box {w : World} {B G : Nat} {t : TypeId} {b : Bool} {X : Option Addr} {n c : Nat} {v : Value} {l : List Pr} (h : Prs w B v l) (r : RowAt w G t [.bool b, .slice X n c]) (b' : Bool) (v' : Value) : Prs ((w.setCell ⟨G, 0, none⟩ (.bool b')).setCell ⟨G, 1, none⟩ v') B v l := by
  have h1 := h.set_no ⟨G, 0, none⟩ (fun m e => by have := r.two.1; rw [this] at e; cases e) (.bool b')
  exact h1.set_no ⟨G, 1, none⟩ (fun m e => by have := (r.set 0 (.bool b')).two.2; rw [this] at e; cases e) v'
/-- What layer 5's Keys tell of a signature: its keys, rising, just if no two are alike. -/
theorem sign_keys (r : Nat) (ks : List Nat) (h : ks.length ≤ 2048) : ∃ L : List Nat, keysT r (signL r ks) = (L, decide ks.Nodup) ∧ (∀ x ∈ L, x ∈ ks) ∧ (∀ i j (_ : i < j) (hj : j < L.length), L[i] < L[j]) ∧ (ks.Nodup → L.length = ks.length) ∧ L.length ≤ ks.length := by
  have hs := signL_srt r ks
  have hp := signL_perm r ks
  have hr := sign_right (r := r) h
  have hl := signL_length r ks
  have hm : ∀ x ∈ (signL r ks).map (·.1), x ∈ ks := fun x hx => by
    obtain ⟨p, hp1, rfl⟩ := List.mem_map.1 hx
    exact (mem_signL.1 hp1).2
  by_cases hn : ks.Nodup
  · refine ⟨(signL r ks).map (·.1), ?_, hm, fun i j hij hj => ?_, fun _ => by rw [List.length_map, hl], by rw [List.length_map, hl]; exact Nat.le_refl _⟩
    · rw [ones_keys hn h hs hp, decide_eq_true hn]
    · have hkt := ones_keys hn h hs hp
      have hkb : keysB r (signL r ks) = true := by
        unfold keysT at hkt
        split at hkt
        · rename_i h1
          rw [Bool.and_eq_true] at h1
          exact h1.2
        · injection hkt with _ h2
          cases h2
      rw [List.length_map] at hj
      rw [List.getElem_map, List.getElem_map]
      exact keysB_rise hs hkb i j hij hj
  · refine ⟨[], ?_, fun x hx => by simp at hx, fun i j _ hj => by simp at hj, fun h => absurd h hn, Nat.zero_le _⟩
    rw [decide_eq_false hn]
    unfold keysT
    cases e : keysB r (signL r ks)
    · rw [Bool.and_false]; rfl
    · exfalso
      have h1 := keysB_nodup hs e
      have h2 := (hp.map (·.1)).nodup_iff.1 h1
      rw [List.map_map] at h2
      have h3 : (List.map ((fun p : Pr => p.1) ∘ fun k => (k, r)) ks) = ks := by simp [Function.comp_def]
      rw [h3] at h2
      exact hn h2
theorem sign_rot (r : Nat) (ks : List Nat) (n : Nat) : signL r (ks.drop n ++ ks.take n) = signL r ks := signL_eq (by
  have := List.perm_append_comm (l₁ := ks.drop n) (l₂ := ks.take n)
  rwa [List.take_append_drop] at this)
/-- Whether the first keys are unlike, one more. -/
theorem nodup_more {ks : List Nat} {i : Nat} (h : i < ks.length) : (decide (ks.take i).Nodup && decide (ks[i] ∉ ks.take i)) = decide (ks.take (i + 1)).Nodup := by
  rw [← Bool.decide_and]
  apply decide_eq_decide.2
  have e := List.take_succ_eq_append_getElem h
  generalize ks[i] = y at *
  generalize ks.take i = l at *
  rw [e, List.nodup_append]
  constructor
  · rintro ⟨h1, h2⟩
    exact ⟨h1, by simp, fun a ha b hb e' => by rw [List.mem_singleton] at hb; exact h2 (by rw [← hb, ← e']; exact ha)⟩
  · rintro ⟨h1, _, h2⟩
    exact ⟨h1, fun ha => h2 _ ha _ (by simp) rfl⟩
theorem unlike_more {ks : List Nat} {j : Nat} (h : j < ks.length) (y : Nat) : (decide (y ∉ ks.take j) && decide (y ≠ ks[j])) = decide (y ∉ ks.take (j + 1)) := by
  rw [← Bool.decide_and]
  apply decide_eq_decide.2
  rw [List.take_succ_eq_append_getElem h, List.mem_append, List.mem_singleton, not_or]
theorem among_more {ks : List Nat} {j : Nat} (h : j < ks.length) (y : Nat) : (decide (y ∈ ks.take j) || decide (ks[j] = y)) = decide (y ∈ ks.take (j + 1)) := by
  rw [← Bool.decide_or]
  apply decide_eq_decide.2
  rw [List.take_succ_eq_append_getElem h, List.mem_append, List.mem_singleton, eq_comm (a := y)]
end Go.Proofs.Ytjjccoliknngcaa

namespace Go.Proofs.Ytjjccoliknngcaa
open Go.RowKit Go.Lib

theorem step_append_guarded {P : Program} {w : World} {ops : Array Oper} {o : Oper} {a : Act} {K : Act → World → Prop} {Q : Exit → Act → World → Prop} {E : Prop} (hw : Region.wanted o (yielded ops a.tmps) = true) (s x : Operand) (t : TypeId)
    (ho : o.op = .call { callee := .builtin .append, args := #[s, x], argTypes := #[t, t] })
    (base : Nat) (e : TypeId) (i : TypeInfo) (z : Value) (size bytes : Nat) (ht : P.underlying t = some (.slice e)) (hi : P.info? e = some i) (hz : i.zero = some z)
    (hsize : i.size = size) (hby : i.bytes = bytes) (hzs : z.cells.size = size) (hsz : 0 < size)
    (v : Value) (n : Nat) (xs : List Value) (hs : a.eval s = v) (hown : w.ownsRow base e size v n xs)
    (X : Option Addr) (m c : Nat) (news : List Value) (hx : a.eval x = .slice X m c) (hl : news.length = m * size) (hnews : 0 < m → ∃ ad, X = some ad ∧ ∀ j u, news[j]? = some u → w.cell? (ad.add j) = some u) (h1 : ∀ u ∈ news, u.oneCell' = true)
    (h63 : n + m ≤ maxLen) (hbytes : (n + m) * bytes ≤ 140737488355328) (hbase : base ≤ w.heap.size)
    (h : ∀ S cap w', w'.ownsRow base e size (.slice S (n + m) cap) (n + m) (xs ++ news) → w.grownBy w' v.ownBlock → K (a.put o.dst (.slice S (n + m) cap)) w') :
    if Region.wanted o (yielded ops a.tmps) = true then Oper.wp P o a w K Q else E := by
  rw [if_pos hw]
  exact wp_append_any s x t ho base e i z size bytes ht hi hz hsize hby hzs hsz v n xs hs hown X m c news hx hl hnews h1 h63 hbytes hbase h
/-- Turned keys check as the keys do. -/
theorem check_turned {t : List Pr} {ks : List Nat} {r n : Nat} : checkO t (ks.drop n ++ ks.take n) r false (signL r ks) = checkO t ks r false (signL r ks) := by
  have hp : (ks.drop n ++ ks.take n).Perm ks := by
    have := List.perm_append_comm (l₁ := ks.drop n) (l₂ := ks.take n)
    rwa [List.take_append_drop] at this
  have e := check_own t (ks.drop n ++ ks.take n) r
  rw [sign_rot] at e
  rw [e, check_own, hp.all_eq, hp.length_eq]
  have e1 : (ks.drop n ++ ks.take n).isEmpty = ks.isEmpty := by
    cases h : ks.isEmpty
    · rw [List.isEmpty_eq_false_iff] at h ⊢
      intro h2
      rw [h2] at hp
      exact h hp.symm.eq_nil
    · rw [List.isEmpty_iff] at h
      subst h; simp
  rw [e1, decide_eq_decide.2 hp.nodup_iff]
theorem check_dup {t : List Pr} {ks : List Nat} {r : Nat} : checkO t (ks ++ ks) r false (signL r ks) = false := by
  match ks with
  | [] => exact check_none t r _ _
  | k :: ks =>
    have : ¬ ((k :: ks) ++ (k :: ks)).Nodup := fun h => by
      rw [List.nodup_append] at h
      exact h.2.2 k (by simp) k (by simp) rfl
    unfold checkO
    rw [decide_eq_false this]
    simp
/-- Whether keys are the same, as the law asks. -/
def sameO (o ks : List Nat) : Bool := decide (o.length = ks.length) && o.all fun x => decide (x ∈ ks)
theorem perm_of_sub : ∀ (o ks : List Nat), o.Nodup → o.length = ks.length → (∀ x ∈ o, x ∈ ks) → o.Perm ks
  | [], ks, _, hl, _ => by rw [List.eq_nil_of_length_eq_zero (hl.symm : ks.length = 0)]
  | a :: o, ks, hn, hl, hs => by
    have ha : a ∈ ks := hs a (by simp)
    rw [List.nodup_cons] at hn
    have hp := List.perm_cons_erase ha
    refine ((perm_of_sub o (ks.erase a) hn.2 ?_ fun x hx => ?_).cons a).trans hp.symm
    · have := hp.length_eq
      simp at this hl
      omega
    · have h1 := hp.mem_iff.1 (hs x (by simp [hx]))
      rw [List.mem_cons] at h1
      rcases h1 with h1 | h1
      · subst h1; exact absurd hx hn.1
      · exact h1
theorem same_perm {o ks : List Nat} (ho : o.Nodup) (hk : ks.Nodup) : sameO o ks = true ↔ o.Perm ks := by
  unfold sameO
  rw [Bool.and_eq_true, decide_eq_true_iff, List.all_eq_true]
  constructor
  · rintro ⟨h1, h2⟩
    have hs : ∀ x ∈ o, x ∈ ks := fun x hx => of_decide_eq_true (h2 x hx)
    exact perm_of_sub o ks ho h1 hs
  · intro h
    exact ⟨h.length_eq, fun x hx => decide_eq_true (h.mem_iff.1 hx)⟩
theorem sign_inj {r z : Nat} {ks o : List Nat} (h : signL r ks = signL z o) (h0 : 0 < o.length) : z = r ∧ o.Perm ks := by
  have hp := ((signL_perm r ks).symm.trans (h ▸ signL_perm z o))
  have h1 : (o.map fun k => (k, z)).Perm (ks.map fun k => (k, r)) := hp.symm
  constructor
  · have hm : (o[0], z) ∈ o.map fun k => (k, z) := List.mem_map.2 ⟨_, List.getElem_mem h0, rfl⟩
    have := h1.mem_iff.1 hm
    simp at this
    obtain ⟨_, _, _, e⟩ := this
    exact e.symm
  · have h2 := h1.map (·.1)
    simpa [Function.comp_def] using h2
theorem check_other {t : List Pr} {ks o : List Nat} {r z : Nat} (ho : o.Nodup) (hk : ks.Nodup) (h9 : o.length ≤ 2048) : checkO t o z false (signL r ks) = (checkO t ks r false (signL r ks) && sameO o ks && decide (z = r)) := by
  by_cases h : z = r ∧ o.Perm ks
  · obtain ⟨rfl, hp⟩ := h
    rw [(same_perm ho hk).2 hp, decide_eq_true rfl, ← signL_eq hp, check_own]
    have e := check_own t ks z
    rw [← signL_eq hp] at e
    rw [e, hp.all_eq, hp.length_eq, show decide o.Nodup = decide ks.Nodup from decide_eq_decide.2 hp.nodup_iff]
    have e1 : o.isEmpty = ks.isEmpty := by
      rw [Bool.eq_iff_iff, List.isEmpty_iff, List.isEmpty_iff]
      exact ⟨fun h => by subst h; exact hp.symm.eq_nil, fun h => by subst h; exact hp.eq_nil⟩
    rw [e1]
    simp
  · have hr : (sameO o ks && decide (z = r)) = false := by
      cases e : (sameO o ks && decide (z = r))
      · rfl
      · rw [Bool.and_eq_true, decide_eq_true_iff] at e
        exact absurd ⟨e.2, (same_perm ho hk).1 e.1⟩ h
    rw [Bool.and_assoc, hr, Bool.and_false]
    cases e : checkO t o z false (signL r ks)
    · rfl
    · exfalso
      unfold checkO at e
      simp only [Bool.and_eq_true, decide_eq_true_eq, Bool.not_eq_true', List.isEmpty_eq_false_iff] at e
      have h0 : 0 < o.length := List.length_pos_iff.2 e.1.1.1.1.1.2
      exact h (sign_inj e.1.2 h0)
theorem check_keys {t : List Pr} {ks : List Nat} {r : Nat} (ht : rightO t = true) (hn : ks.Nodup) (h9 : ks.length ≤ 2048) : checkO t ks r false (signL r ks) = (decide (0 < ks.length) && ks.all fun k => decide ((k, r) ∈ t)) := by
  rw [check_own, ht, decide_eq_true hn, decide_eq_true h9]
  have : (!ks.isEmpty) = decide (0 < ks.length) := by cases ks <;> simp
  rw [this]
  simp
theorem all_more {α : Type} {f : α → Bool} {l : List α} {i : Nat} (h : i < l.length) : ((l.take i).all f && f l[i]) = (l.take (i + 1)).all f := by
  rw [List.take_succ_eq_append_getElem h, List.all_append]
  simp
theorem all_take_no {α : Type} {f : α → Bool} {l : List α} (i : Nat) (h : (l.take i).all f = false) : l.all f = false := by
  rw [List.all_eq_false] at h ⊢
  obtain ⟨x, hx, hf⟩ := h
  exact ⟨x, List.mem_of_mem_take hx, hf⟩
end Go.Proofs.Ytjjccoliknngcaa

namespace Go.Proofs.Ytjjccoliknngcaa
open Go.RowKit Go.Lib

set_option maxHeartbeats 4000000 in
set_option maxRecDepth 100000 in
theorem oone_walk (v u y : Value) (raw few oth : List Int) (root turn another : Int) (w : World) (hv : Ints w w.heap.size v raw) (hu : Ints w w.heap.size u few) (hy : Ints w w.heap.size y oth)
    (hI : ∀ r ∈ raw, I64 r) (hJ : ∀ r ∈ few, I64 r) (hH : ∀ r ∈ oth, I64 r) (l9v : raw.length ≤ maxLen) (l9u : few.length ≤ maxLen) (l9y : oth.length ≤ maxLen) (hroot : I64 root) (hturn : I64 turn) (hano : I64 another) :
    Calls Try.prog 4 #[v, u, .int .i64 root, .int .i64 turn, y, .int .i64 another] w fun e w' => e = .returned (.bool true) ∧ Below w.heap.size w w' := by
  obtain ⟨Av, cv, rfl, hcv⟩ := hv.form
  obtain ⟨Au, cu, rfl, hcu⟩ := hu.form
  obtain ⟨Ay, cy, rfl, hcy⟩ := hy.form
  obtain ⟨i0, hi, hy0, hy1, hy2⟩ := info_parts info_u64
  obtain ⟨hnk, hk12, hlk⟩ := keysL_facts few
  obtain ⟨hno, ho12, hlo⟩ := keysL_facts oth
  obtain ⟨ht, htl⟩ := tableL_facts raw
  have cA := fun W h => Table7_any (.slice Av raw.length cv) raw W h hI l9v
  have cK := fun W h => Keys7_any (.slice Au few.length cu) few W h hJ l9u
  have cO := fun W h => Keys7_any (.slice Ay oth.length cy) oth W h hH l9y
  generalize tableL raw = t at *
  generalize keysL few = ks at *
  generalize keysL oth = os at *
  have htr := tableO_right ht htl
  clear ht
  go_enter Try.func4, Try.ntmps4
  go_wp2_with fail
  with_reducible refine (awake7_any _).mono ?_
  rintro e w1 ⟨rfl, B1⟩
  go_wp2_with fail
  with_reducible refine (cA _ (hv.on B1)).mono ?_
  rintro e w2 ⟨A, c, rfl, hT, b2⟩
  have B2 := B1.trans (b2.mono B1.size)
  clear b2 B1 cA
  go_wp2_with fail
  with_reducible refine (cK _ (hu.on B2)).mono ?_
  rintro e w3 ⟨K, kc, rfl, hK, b3⟩
  replace hT := hT.on b3
  have B3 := B2.trans (b3.mono B2.size)
  clear b3 B2 cK
  go_wp2_with fail
  with_reducible refine (cO _ (hy.on B3)).mono ?_
  rintro e w4 ⟨O, oc, rfl, hO, b4⟩
  replace hT := hT.on b4
  replace hK := hK.on b4
  have B4 := B3.trans (b4.mono B3.size)
  clear b4 B3 cO
  have hr := pickN_lt root 3 (by decide)
  have cR := fun W => pick7_any root 3 W hroot (by decide) (by decide)
  generalize pickN root 3 = r at *
  have hwr : IntKind.u64.wrap (r : Int) = (r : Int) := IntWalk.u64_in _ (by omega)
  go_wp2_with fail
  with_reducible refine (cR _).mono ?_
  rintro e w5 ⟨rfl, rfl⟩
  clear cR
  have hfit : ∀ x ∈ ks, x < 18446744073709551616 := fun x hx => by have := hk12 x hx; omega
  have hfitO : ∀ x ∈ os, x < 18446744073709551616 := fun x hx => by have := ho12 x hx; omega
  have cS := fun W h => Sign_eq r (.slice K ks.length kc) ks _ rfl W h (by omega)
  have ls12 : (signL r ks).length ≤ 12 := by rw [signL_length]; omega
  have HCK := Lib.hid (check_keys (r := r) htr hnk (show ks.length ≤ 2048 by omega))
  have HCT := Lib.hid (fun n => check_turned (t := t) (ks := ks) (r := r) (n := n))
  have HCD := Lib.hid (check_dup (t := t) (ks := ks) (r := r))
  have HCO := Lib.hid (fun z => check_other (t := t) (ks := ks) (o := os) (r := r) (z := z) hno hnk (by omega))
  generalize signL r ks = l at *
  go_wp2_with fail
  with_reducible refine (cS _ hK).mono ?_
  rintro e w8 ⟨SA, sa, rfl, hA, b8⟩
  replace hT := hT.on b8
  replace hK := hK.on b8
  replace hO := hO.on b8
  have B8 := B4.trans (b8.mono B4.size)
  clear b8 B4 cS
  go_upto_region 7 with (fail)
  have qA := RowAt.new w8 40 #[.bool false, .slice SA l.length sa]
  have bx := (Below.refl w8.heap.size w8).alloc (Nat.le_refl _) (.cells #[.bool false, .slice SA l.length sa] 40)
  replace hT := hT.on bx
  replace hK := hK.on bx
  replace hO := hO.on bx
  replace hA := hA.on bx
  have B9 := B8.trans (bx.mono B8.size)
  clear bx B8
  generalize w8.alloc (.cells #[.bool false, .slice SA l.length sa] 40) = w9 at *
  generalize w8.heap.size = gA at *
  have hn1 := pickN_lt turn ((ks.length : Int) + 1) (by omega)
  have cN := fun W => pick7_any turn ((ks.length : Int) + 1) W hturn (by omega) (by omega)
  generalize pickN turn ((ks.length : Int) + 1) = n at *
  have hw1 : IntKind.i64.wrap ((ks.length : Int) + 1) = (ks.length : Int) + 1 := IntWalk.i64_in _ (by omega)
  go_wp2_with fail
  with_reducible refine (cN _).mono ?_
  rintro e w10 ⟨rfl, rfl⟩
  clear cN hw1
  have hn2 : n ≤ ks.length := by omega
  have hkc := hK.form'
  go_upto_region 8 with (fail)
  go_cut [21] from 51 to 58 (fun tv wx => ∃ (Ar : Option Addr) (ca : Nat), tv = .slice Ar ks.length ca ∧ Wds wx wx.heap.size (.slice Ar ks.length ca) (ks.drop n ++ ks.take n) ∧ Below w9.heap.size w9 wx)
  case first =>
    have f1 : ((n : Int) ≤ (kc : Int)) = True := eq_true (by omega)
    have f2 : (n ≤ kc) = True := eq_true (by omega)
    have f3 : ((n : Int) ≤ (ks.length : Int)) = True := eq_true (by omega)
    have f4 : (n ≤ ks.length) = True := eq_true (by omega)
    have hP := hK.first n hn2
    have hR := hK.past n hn2
    have hlP : (ks.take n).length = n := by rw [List.length_take]; omega
    have hlR : (ks.drop n).length = ks.length - n := List.length_drop
    obtain ⟨Q, hQ⟩ : ∃ Q, (if kc = n then K else K.map (fun x => x.add n)) = Q := ⟨_, rfl⟩
    rw [hQ] at hR
    have hBd : Below w9.heap.size w9 w9.drew := (Below.refl _ _).drew
    have hRd := hR.on hBd
    have hPo : ∀ W, Below w9.heap.size w9 W → Wds W W.heap.size (.slice K n kc) (ks.take n) := fun W b => hP.on b
    have HPo := Lib.hid hPo
    clear hPo
    go_region_held3 (fun _ => True) (trivial)
      (first
        | (refine step_append_any rfl _ _ 24 rfl _ 25 i0 (.int .u64 0) 1 8 Try.underlying24 hi hy0 hy1 hy2 rfl (by decide) (.slice none 0 0) 0 [] rfl (World.ownsRow_nil _ _ _ _) Q (ks.length - n) (kc - n) ((ks.drop n).map wv) rfl (by rw [List.length_map, hlR, Nat.mul_one]) (hRd.news hlR.symm) (words_one _) (by unfold maxLen; omega) (by omega) (Nat.le_refl _) ?_
           intro S1 cap1 wA own1 grow1
           simp only [Nat.zero_add, List.nil_append] at own1 ⊢
           have hB1 : Below w9.heap.size w9 wA := Below.grown hBd grow1 (Nat.le_refl _) (fun k h => by cases h)
           have hPa := HPo.out wA hB1
           have ob1 : ∀ k, (Value.slice S1 (ks.length - n) cap1).ownBlock = some k → w9.heap.size ≤ k := fun k h => Nat.le_trans hBd.size (own1.lt k h).1)
        | (refine step_append_any rfl _ _ 24 rfl _ 25 i0 (.int .u64 0) 1 8 Try.underlying24 hi hy0 hy1 hy2 rfl (by decide) (.slice S1 (ks.length - n) cap1) (ks.length - n) _ rfl own1 K n kc ((ks.take n).map wv) rfl (by rw [List.length_map, hlP, Nat.mul_one]) (hPa.news hlP.symm) (words_one _) (by unfold maxLen; omega) (by omega) grow1.size ?_
           intro S2 cap2 wB own2 grow2
           have hB2 : Below w9.heap.size w9 wB := Below.grown hB1 grow2 hB1.size ob1
           have own2' := own2
           rw [← List.map_append, show (ks.length - n) + n = ks.length by omega] at own2'
           have trx := words_own own2' (by rw [List.length_append, hlR, hlP]; omega)))
    all_goals
      go_simp
      go_wp2_with fail
      go_meet
      exact ⟨S2, cap2, by first | rfl | (congr 1; omega), trx, hB2⟩
  case rest =>
    obtain ⟨w11, hw11⟩ : ∃ w11, w11 = wc := ⟨_, rfl⟩
    subst hw11
    obtain ⟨R, rc, rfl, hRt, b11⟩ := hcut
    replace hT := hT.on b11
    replace hK := hK.on b11
    replace hO := hO.on b11
    replace hA := hA.on b11
    replace qA := qA.on b11
    have B11 := B9.trans (b11.mono B9.size)
    clear b11 B9
    obtain ⟨is, his⟩ : ∃ is, checkO t ks r false l = is := ⟨_, rfl⟩
    obtain ⟨s0, s1⟩ := qA.two
    go_wp2_with fail
    with_reducible refine (Check_eq A K SA t.length c ks.length kc l.length sa t l ks r false is his rfl rfl _ hT hK hA hfit (by omega) (by omega) (by omega)).mono ?_
    rintro e w12 ⟨rfl, b12⟩
    replace hT := hT.on b12
    replace hK := hK.on b12
    replace hO := hO.on b12
    replace hA := hA.on b12
    replace qA := qA.on b12
    replace hRt := hRt.on b12
    have B12 := B11.trans (b12.mono B11.size)
    clear b12 B11 s0 s1
    have hall : is = (decide (0 < ks.length) && ks.all fun k => decide ((k, r) ∈ t)) := by rw [← his]; exact HCK.out
    have hwd : decide ((0 : Int) < (ks.length : Int)) = decide (0 < ks.length) := by rw [decide_eq_decide]; omega
    have hct : checkO t (ks.drop n ++ ks.take n) r false l = is := by rw [HCT.out]; exact his
    have hco : ∀ z, checkO t os z false l = (is && sameO os ks && decide (z = r)) := fun z => by rw [HCO.out, his]
    have HAL := Lib.hid hall
    have HCT2 := Lib.hid hct
    have HCO2 := Lib.hid hco
    clear hall hct hco HCO HCT HCK his
    go_wp2_with fail
    generalize decide (0 < ks.length) = d0 at *
    go_loopw [23, 24] (fun av iv wr => ∃ i : Nat, i ≤ ks.length ∧ av = .bool (d0 && (ks.take i).all fun k => decide ((k, r) ∈ t)) ∧ iv = .int .i64 (i : Int) ∧ Below w12.heap.size w12 wr) (fun _ iv _ => ks.length - (intOf iv).toNat)
    case atStart => exact ⟨0, Nat.zero_le _, by simp, rfl, Below.refl _ _⟩
    case round =>
      obtain ⟨i, hik, rfl, rfl, hb⟩ := hrel
      obtain ⟨wo, hwo⟩ : ∃ wo, wo = wr := ⟨_, rfl⟩
      subst hwo
      by_cases hlt : i < ks.length
      · have g1 : ((i : Int) < (ks.length : Int)) = True := eq_true (by omega)
        have g2 : (i < ks.length) = True := eq_true hlt
        obtain ⟨ad, rfl, _, hci⟩ := (hK.on hb).at_ hlt
        have HM := Lib.hid (all_more (f := fun k => decide ((k, r) ∈ t)) hlt)
        have cV := oValid_any _ t (ks[i], r) _ (hT.on hb) (by omega)
        rw [htr, Bool.true_and] at cV
        generalize decide ((ks[i], r) ∈ t) = x1 at *
        generalize ks[i] = z at *
        obtain ⟨u1, hu1⟩ : ∃ u1, (d0 && (ks.take i).all fun k => decide ((k, r) ∈ t)) = u1 := ⟨_, rfl⟩
        rw [hu1]
        have HU1 := Lib.hid hu1
        clear hu1
        cases u1
        · clear cV
          go_wp2_with fail
          go_roundw
          case rel => exact ⟨i + 1, by omega, by rw [← HM.out, ← Bool.and_assoc, HU1.out]; rfl, by go_num, hb⟩
          case measure => simp [intOf]; omega
        · go_wp2_with fail
          with_reducible refine cV.mono ?_
          rintro e w13 ⟨rfl, b13⟩
          have hb13 := hb.trans (b13.mono hb.size)
          clear cV b13
          go_wp2_with fail
          go_roundw
          case rel => exact ⟨i + 1, by omega, by rw [← HM.out, ← Bool.and_assoc, HU1.out, Bool.true_and], by go_num, hb13⟩
          case measure => simp [intOf]; omega
      · obtain rfl : i = ks.length := by omega
        have g1 : ((ks.length : Int) < (ks.length : Int)) = False := eq_false (by omega)
        rw [List.take_length, ← HAL.out]
        replace hT := hT.on hb
        replace hK := hK.on hb
        replace hO := hO.on hb
        replace hA := hA.on hb
        replace qA := qA.on hb
        replace hRt := hRt.on hb
        have B13 := B12.trans (hb.mono B12.size)
        clear hb B12
        have gb : (is != is) = false := by cases is <;> rfl
        have hlt' : (ks.drop n ++ ks.take n).length = ks.length := by rw [List.length_append, List.length_drop, List.length_take]; omega
        obtain ⟨s0, s1⟩ := qA.two
        go_wp2_with fail
        with_reducible refine (Check_eq A R SA t.length c ks.length rc l.length sa t l (ks.drop n ++ ks.take n) r false is HCT2.out hlt'.symm rfl _ hT hRt hA (fun x hx => by
          rcases List.mem_append.1 hx with h | h
          · exact hfit x (List.mem_of_mem_drop h)
          · exact hfit x (List.mem_of_mem_take h)) (by omega) (by omega) (by omega)).mono ?_
        rintro e w14 ⟨rfl, b14⟩
        replace hT := hT.on b14
        replace hK := hK.on b14
        replace hO := hO.on b14
        replace hA := hA.on b14
        replace qA := qA.on b14
        have B14 := B13.trans (b14.mono B13.size)
        clear b14 B13 s0 s1 hRt hlt'
        have hde : ((os.length : Int) == (ks.length : Int)) = decide (os.length = ks.length) := by rw [Bool.eq_iff_iff, beq_iff_eq, decide_eq_true_iff]; omega
        have HSO := Lib.hid (show sameO os ks = (decide (os.length = ks.length) && os.all fun x => decide (x ∈ ks)) from rfl)
        go_wp2_with fail
        clear hde
        generalize decide (os.length = ks.length) = e0 at *
        go_loopw [25, 26] (fun sv iv wr => ∃ i : Nat, i ≤ os.length ∧ sv = .bool (e0 && (os.take i).all fun x => decide (x ∈ ks)) ∧ iv = .int .i64 (i : Int) ∧ Below w14.heap.size w14 wr) (fun _ iv _ => os.length - (intOf iv).toNat)
        case atStart => exact ⟨0, Nat.zero_le _, by simp, rfl, Below.refl _ _⟩
        case round =>
          obtain ⟨i, hio, rfl, rfl, hb⟩ := hrel
          obtain ⟨u1, hu1⟩ : ∃ u1, (e0 && (os.take i).all fun x => decide (x ∈ ks)) = u1 := ⟨_, rfl⟩
          rw [hu1]
          by_cases hlt : i < os.length
          · have g1 : ((i : Int) < (os.length : Int)) = True := eq_true (by omega)
            have g2 : (i < os.length) = True := eq_true hlt
            cases u1
            · have hsm : sameO os ks = false := by
                rw [HSO.out]
                cases e0
                · rfl
                · rw [Bool.true_and] at hu1 ⊢
                  exact all_take_no i hu1
              have HSM := Lib.hid hsm
              clear hsm hu1
              obtain ⟨wq, hwq⟩ : ∃ wq, wq = wr := ⟨_, rfl⟩
              subst hwq
              replace hT := hT.on hb
              replace hK := hK.on hb
              replace hO := hO.on hb
              replace hA := hA.on hb
              replace qA := qA.on hb
              have BQ := B14.trans (hb.mono B14.size)
              clear hb B14
              have hr2 := pickN_lt another 3 (by decide)
              have cR2 := fun W => pick7_any another 3 W hano (by decide) (by decide)
              generalize pickN another 3 = z at *
              have hwz : IntKind.u64.wrap (z : Int) = (z : Int) := IntWalk.u64_in _ (by omega)
              go_wp2_with fail
              with_reducible refine (cR2 _).mono ?_
              rintro e wz ⟨rfl, rfl⟩
              clear cR2
              have hX := HCO2.out z
              rw [HSM.out] at hX
              simp only [Bool.and_false, Bool.false_and] at hX
              cases is
              · go_upto_region 28 with (fail)
                have hBd : Below wq.heap.size wq wq.drew := (Below.refl _ _).drew
                have hz0 := qA.two
                have c1 := Check_eq A O SA t.length c os.length oc l.length sa t l os z false false hX rfl rfl _ (hT.on hBd) (hO.on hBd) (hA.on hBd) hfitO (by omega) (by omega) (by omega)
                have hfitD : ∀ x ∈ ks ++ ks, x < 18446744073709551616 := fun x hx => by
                  rcases List.mem_append.1 hx with h | h <;> exact hfit x h
                obtain ⟨y0, y1⟩ := hz0
                have HKD := Lib.hid hK
                clear hK
                refine wp_region_held_drew (S := (fun w' => w'.cell? ⟨gA, 0, none⟩ = some (.bool false) ∧ w'.cell? ⟨gA, 1, none⟩ = some (.slice SA l.length sa))) (by kernel_rfl) (qA.on hBd).two (fun hHeld => ?_)
                refine wpAnyH_take (i := 0) (oi := ({ dst := some 138, op := Op.move (Operand.tmp 13), type := 4, pos := "law.go:113", after := #[], guard := none } : Oper)) (v := ?_) rfl (by kernel_rfl) (by kernel_rfl) (by kernel_rfl) (fun _ _ _ h => h) (Or.inl ⟨rfl, ?_⟩) (by assumption) ?_
                rotate_left
                · intro wz hSw; (try dsimp only at hSw); go_simp; try with_reducible rfl
                try simp only [Act.put, List.setIfInBounds_toArray, List.set_cons_zero, List.set_cons_succ]
                refine wpAnyH_take (i := 1) (oi := ({ dst := some 139, op := Op.move (Operand.tmp 138), type := 4, pos := "law.go:113", after := #[{ on := 0, ground := Ground.data }], guard := none } : Oper)) (v := ?_) rfl (by kernel_rfl) (by kernel_rfl) (by kernel_rfl) (fun _ _ _ h => h) (Or.inl ⟨rfl, ?_⟩) (by assumption) ?_
                rotate_left
                · intro wz hSw; (try dsimp only at hSw); go_simp; try with_reducible rfl
                try simp only [Act.put, List.setIfInBounds_toArray, List.set_cons_zero, List.set_cons_succ]
                refine wpAnyH_take (i := 2) (oi := ({ dst := some 140, op := Op.move (Operand.tmp 14), type := 22, pos := "law.go:113", after := #[{ on := 1, ground := Ground.guard }], guard := some (1, true) } : Oper)) (v := ?_) rfl (by kernel_rfl) (by kernel_rfl) (by kernel_rfl) (fun _ _ _ h => h) (Or.inl ⟨rfl, ?_⟩) (by assumption) ?_
                rotate_left
                · intro wz hSw; (try dsimp only at hSw); go_simp; try with_reducible rfl
                try simp only [Act.put, List.setIfInBounds_toArray, List.set_cons_zero, List.set_cons_succ]
                refine wpAnyH_take (i := 3) (oi := ({ dst := some 141, op := Op.move (Operand.tmp 16), type := 24, pos := "law.go:113", after := #[{ on := 1, ground := Ground.guard }], guard := some (1, true) } : Oper)) (v := ?_) rfl (by kernel_rfl) (by kernel_rfl) (by kernel_rfl) (fun _ _ _ h => h) (Or.inl ⟨rfl, ?_⟩) (by assumption) ?_
                rotate_left
                · intro wz hSw; (try dsimp only at hSw); go_simp; try with_reducible rfl
                try simp only [Act.put, List.setIfInBounds_toArray, List.set_cons_zero, List.set_cons_succ]
                refine wpAnyH_take (i := 4) (oi := ({ dst := some 142, op := Op.move (Operand.tmp 29), type := 25, pos := "law.go:113", after := #[{ on := 1, ground := Ground.guard }], guard := some (1, true) } : Oper)) (v := ?_) rfl (by kernel_rfl) (by kernel_rfl) (by kernel_rfl) (fun _ _ _ h => h) (Or.inl ⟨rfl, ?_⟩) (by assumption) ?_
                rotate_left
                · intro wz hSw; (try dsimp only at hSw); go_simp; try with_reducible rfl
                try simp only [Act.put, List.setIfInBounds_toArray, List.set_cons_zero, List.set_cons_succ]
                refine wpAnyH_take (i := 5) (oi := ({ dst := some 143, op := Op.load 40 (Operand.tmp 18), type := 40, pos := "law.go:113", after := #[{ on := 1, ground := Ground.guard }], guard := some (1, true) } : Oper)) (v := ?_) rfl (by kernel_rfl) (by kernel_rfl) (by kernel_rfl) (fun _ _ _ h => h) (Or.inl ⟨rfl, ?_⟩) (by assumption) ?_
                rotate_left
                · intro wz hSw; (try dsimp only at hSw); go_simp; try with_reducible rfl
                try simp only [Act.put, List.setIfInBounds_toArray, List.set_cons_zero, List.set_cons_succ]
                refine wpAnyH_take (i := 6) (oi := ({ dst := some 144, op := Op.build 44 #[(0, Operand.tmp 141), (1, Operand.tmp 142), (2, Operand.tmp 143)], type := 44, pos := "law.go:113", after := #[{ on := 3, ground := Ground.data }, { on := 4, ground := Ground.data }, { on := 5, ground := Ground.data }, { on := 1, ground := Ground.guard }], guard := some (1, true) } : Oper)) (v := ?_) rfl (by kernel_rfl) (by kernel_rfl) (by kernel_rfl) (fun _ _ _ h => h) (Or.inl ⟨rfl, ?_⟩) (by assumption) ?_
                rotate_left
                · intro wz hSw; (try dsimp only at hSw); go_simp; try with_reducible rfl
                try simp only [Act.put, List.setIfInBounds_toArray, List.set_cons_zero, List.set_cons_succ]
                refine wpAnyH_take (i := 8) (oi := ({ dst := some 146, op := Op.move (Operand.tmp 22), type := 4, pos := "law.go:113", after := #[{ on := 1, ground := Ground.guard }], guard := some (1, true) } : Oper)) (v := ?_) rfl (by kernel_rfl) (by kernel_rfl) (by kernel_rfl) (fun _ _ _ h => h) (Or.inl ⟨rfl, ?_⟩) (by assumption) ?_
                rotate_left
                · intro wz hSw; (try dsimp only at hSw); go_simp; try with_reducible rfl
                try simp only [Act.put, List.setIfInBounds_toArray, List.set_cons_zero, List.set_cons_succ]
                refine wpAnyH_ready (rs := [7]) (by kernel_rfl) (by simp) ?_
                refine AllReadyH.cons (o := ({ dst := some 145, op := Op.call { callee := Callee.value (Operand.func 21), args := #[Operand.tmp 140, Operand.tmp 144], argTypes := #[22, 44] }, type := 4, pos := "law.go:113", after := #[{ on := 2, ground := Ground.data }, { on := 6, ground := Ground.data }, { on := 1, ground := Ground.chain }, { on := 1, ground := Ground.guard }], guard := some (1, true) } : Oper)) rfl (fun K9 hK9 => ?_) AllReadyH.nil
                go_simp
                with_reducible refine c1.mono ?_
                rintro e wC ⟨rfl, bC'⟩
                have bC := hBd.trans (bC'.mono hBd.size)
                have hz1 := (qA.on bC).two
                have hKc := HKD.out.on bC
                go_wp2_with fail
                clear hHeld
                refine hK9.out _ _ hz1 (fun hHeld => ?_)
                clear hK9 K9
                try simp only [Act.put, List.setIfInBounds_toArray, List.set_cons_zero, List.set_cons_succ]
                refine wpAnyH_take (i := 9) (oi := ({ dst := some 147, op := Op.move (Operand.tmp 146), type := 4, pos := "law.go:113", after := #[{ on := 8, ground := Ground.data }, { on := 7, ground := Ground.chain }, { on := 1, ground := Ground.guard }], guard := some (1, true) } : Oper)) (v := ?_) rfl (by kernel_rfl) (by kernel_rfl) (by kernel_rfl) (fun _ _ _ h => h) (Or.inl ⟨rfl, ?_⟩) (by assumption) ?_
                rotate_left
                · intro wz hSw; (try dsimp only at hSw); go_simp; try with_reducible rfl
                try simp only [Act.put, List.setIfInBounds_toArray, List.set_cons_zero, List.set_cons_succ]
                refine wpAnyH_take (i := 10) (oi := ({ dst := some 148, op := Op.move (Operand.tmp 25), type := 4, pos := "law.go:113", after := #[{ on := 9, ground := Ground.guard }], guard := some (9, true) } : Oper)) (v := undef) rfl (by kernel_rfl) (by kernel_rfl) (by kernel_rfl) (fun _ _ _ h => h) (Or.inr ⟨rfl, rfl⟩) (by assumption) ?_
                try simp only [Act.put, List.setIfInBounds_toArray, List.set_cons_zero, List.set_cons_succ]
                refine wpAnyH_take (i := 11) (oi := ({ dst := some 149, op := Op.pick (Operand.tmp 147) (Operand.tmp 148) (Operand.const (Value.bool false)), type := 4, pos := "law.go:113", after := #[{ on := 9, ground := Ground.data }, { on := 10, ground := Ground.data }, { on := 1, ground := Ground.guard }], guard := some (1, true) } : Oper)) (v := ?_) rfl (by kernel_rfl) (by kernel_rfl) (by kernel_rfl) (fun _ _ _ h => h) (Or.inl ⟨rfl, ?_⟩) (by assumption) ?_
                rotate_left
                · intro wz hSw; (try dsimp only at hSw); go_simp; try with_reducible rfl
                try simp only [Act.put, List.setIfInBounds_toArray, List.set_cons_zero, List.set_cons_succ]
                refine wpAnyH_take (i := 12) (oi := ({ dst := some 150, op := Op.move (Operand.tmp 149), type := 4, pos := "law.go:113", after := #[{ on := 11, ground := Ground.data }, { on := 9, ground := Ground.chain }, { on := 1, ground := Ground.guard }], guard := some (1, true) } : Oper)) (v := ?_) rfl (by kernel_rfl) (by kernel_rfl) (by kernel_rfl) (fun _ _ _ h => h) (Or.inl ⟨rfl, ?_⟩) (by assumption) ?_
                rotate_left
                · intro wz hSw; (try dsimp only at hSw); go_simp; try with_reducible rfl
                try simp only [Act.put, List.setIfInBounds_toArray, List.set_cons_zero, List.set_cons_succ]
                refine wpAnyH_take (i := 13) (oi := ({ dst := some 151, op := Op.move (Operand.tmp 29), type := 25, pos := "law.go:113", after := #[{ on := 12, ground := Ground.guard }], guard := some (12, true) } : Oper)) (v := undef) rfl (by kernel_rfl) (by kernel_rfl) (by kernel_rfl) (fun _ _ _ h => h) (Or.inr ⟨rfl, rfl⟩) (by assumption) ?_
                try simp only [Act.put, List.setIfInBounds_toArray, List.set_cons_zero, List.set_cons_succ]
                refine wpAnyH_take (i := 14) (oi := ({ dst := some 152, op := Op.move (Operand.tmp 17), type := 25, pos := "law.go:113", after := #[{ on := 12, ground := Ground.guard }], guard := some (12, true) } : Oper)) (v := undef) rfl (by kernel_rfl) (by kernel_rfl) (by kernel_rfl) (fun _ _ _ h => h) (Or.inr ⟨rfl, rfl⟩) (by assumption) ?_
                try simp only [Act.put, List.setIfInBounds_toArray, List.set_cons_zero, List.set_cons_succ]
                refine wpAnyH_take (i := 15) (oi := ({ dst := some 153, op := Op.binOp BinOp.eql 25 (Operand.tmp 151) (Operand.tmp 152) 25, type := 4, pos := "law.go:113", after := #[{ on := 13, ground := Ground.data }, { on := 14, ground := Ground.data }, { on := 12, ground := Ground.guard }], guard := some (12, true) } : Oper)) (v := undef) rfl (by kernel_rfl) (by kernel_rfl) (by kernel_rfl) (fun _ _ _ h => h) (Or.inr ⟨rfl, rfl⟩) (by assumption) ?_
                try simp only [Act.put, List.setIfInBounds_toArray, List.set_cons_zero, List.set_cons_succ]
                refine wpAnyH_take (i := 16) (oi := ({ dst := some 154, op := Op.pick (Operand.tmp 150) (Operand.tmp 153) (Operand.const (Value.bool false)), type := 4, pos := "law.go:113", after := #[{ on := 12, ground := Ground.data }, { on := 15, ground := Ground.data }, { on := 1, ground := Ground.guard }], guard := some (1, true) } : Oper)) (v := ?_) rfl (by kernel_rfl) (by kernel_rfl) (by kernel_rfl) (fun _ _ _ h => h) (Or.inl ⟨rfl, ?_⟩) (by assumption) ?_
                rotate_left
                · intro wz hSw; (try dsimp only at hSw); go_simp; try with_reducible rfl
                try simp only [Act.put, List.setIfInBounds_toArray, List.set_cons_zero, List.set_cons_succ]
                refine wpAnyH_take (i := 17) (oi := ({ dst := some 155, op := Op.binOp BinOp.eql 4 (Operand.tmp 145) (Operand.tmp 154) 4, type := 4, pos := "law.go:113", after := #[{ on := 7, ground := Ground.data }, { on := 16, ground := Ground.data }, { on := 1, ground := Ground.guard }], guard := some (1, true) } : Oper)) (v := ?_) rfl (by kernel_rfl) (by kernel_rfl) (by kernel_rfl) (fun _ _ _ h => h) (Or.inl ⟨rfl, ?_⟩) (by assumption) ?_
                rotate_left
                · intro wz hSw; (try dsimp only at hSw); go_simp; try with_reducible rfl
                try simp only [Act.put, List.setIfInBounds_toArray, List.set_cons_zero, List.set_cons_succ]
                refine wpAnyH_take (i := 18) (oi := ({ dst := some 156, op := Op.pick (Operand.tmp 139) (Operand.tmp 155) (Operand.const (Value.bool false)), type := 4, pos := "law.go:113", after := #[{ on := 1, ground := Ground.data }, { on := 17, ground := Ground.data }], guard := none } : Oper)) (v := ?_) rfl (by kernel_rfl) (by kernel_rfl) (by kernel_rfl) (fun _ _ _ h => h) (Or.inl ⟨rfl, ?_⟩) (by assumption) ?_
                rotate_left
                · intro wz hSw; (try dsimp only at hSw); go_simp; try with_reducible rfl
                try simp only [Act.put, List.setIfInBounds_toArray, List.set_cons_zero, List.set_cons_succ]
                refine wpAnyH_take (i := 19) (oi := ({ dst := some 157, op := Op.move (Operand.tmp 156), type := 4, pos := "law.go:113", after := #[{ on := 18, ground := Ground.data }, { on := 12, ground := Ground.chain }], guard := none } : Oper)) (v := ?_) rfl (by kernel_rfl) (by kernel_rfl) (by kernel_rfl) (fun _ _ _ h => h) (Or.inl ⟨rfl, ?_⟩) (by assumption) ?_
                rotate_left
                · intro wz hSw; (try dsimp only at hSw); go_simp; try with_reducible rfl
                try simp only [Act.put, List.setIfInBounds_toArray, List.set_cons_zero, List.set_cons_succ]
                refine wpAnyH_take (i := 20) (oi := ({ dst := some 158, op := Op.move (Operand.tmp 14), type := 22, pos := "law.go:113", after := #[{ on := 19, ground := Ground.guard }], guard := some (19, true) } : Oper)) (v := ?_) rfl (by kernel_rfl) (by kernel_rfl) (by kernel_rfl) (fun _ _ _ h => h) (Or.inl ⟨rfl, ?_⟩) (by assumption) ?_
                rotate_left
                · intro wz hSw; (try dsimp only at hSw); go_simp; try with_reducible rfl
                try simp only [Act.put, List.setIfInBounds_toArray, List.set_cons_zero, List.set_cons_succ]
                refine wpAnyH_take (i := 21) (oi := ({ dst := some 159, op := Op.move (Operand.tmp 15), type := 24, pos := "law.go:113", after := #[{ on := 19, ground := Ground.guard }], guard := some (19, true) } : Oper)) (v := ?_) rfl (by kernel_rfl) (by kernel_rfl) (by kernel_rfl) (fun _ _ _ h => h) (Or.inl ⟨rfl, ?_⟩) (by assumption) ?_
                rotate_left
                · intro wz hSw; (try dsimp only at hSw); go_simp; try with_reducible rfl
                try simp only [Act.put, List.setIfInBounds_toArray, List.set_cons_zero, List.set_cons_succ]
                refine wpAnyH_take (i := 23) (oi := ({ dst := some 161, op := Op.move (Operand.tmp 15), type := 24, pos := "law.go:113", after := #[{ on := 19, ground := Ground.guard }], guard := some (19, true) } : Oper)) (v := ?_) rfl (by kernel_rfl) (by kernel_rfl) (by kernel_rfl) (fun _ _ _ h => h) (Or.inl ⟨rfl, ?_⟩) (by assumption) ?_
                rotate_left
                · intro wz hSw; (try dsimp only at hSw); go_simp; try with_reducible rfl
                try simp only [Act.put, List.setIfInBounds_toArray, List.set_cons_zero, List.set_cons_succ]
                refine wpAnyH_take (i := 25) (oi := ({ dst := some 163, op := Op.move (Operand.tmp 17), type := 25, pos := "law.go:113", after := #[{ on := 19, ground := Ground.guard }], guard := some (19, true) } : Oper)) (v := ?_) rfl (by kernel_rfl) (by kernel_rfl) (by kernel_rfl) (fun _ _ _ h => h) (Or.inl ⟨rfl, ?_⟩) (by assumption) ?_
                rotate_left
                · intro wz hSw; (try dsimp only at hSw); go_simp; try with_reducible rfl
                try simp only [Act.put, List.setIfInBounds_toArray, List.set_cons_zero, List.set_cons_succ]
                refine wpAnyH_take (i := 26) (oi := ({ dst := some 164, op := Op.load 40 (Operand.tmp 18), type := 40, pos := "law.go:113", after := #[{ on := 19, ground := Ground.guard }], guard := some (19, true) } : Oper)) (v := ?_) rfl (by kernel_rfl) (by kernel_rfl) (by kernel_rfl) (fun _ _ _ h => h) (Or.inl ⟨rfl, ?_⟩) (by assumption) ?_
                rotate_left
                · intro wz hSw; (try dsimp only at hSw); go_simp; try with_reducible rfl
                try simp only [Act.put, List.setIfInBounds_toArray, List.set_cons_zero, List.set_cons_succ]
                refine wpAnyH_ready (rs := [22]) (by kernel_rfl) (by simp) ?_
                refine AllReadyH.cons (o := ({ dst := some 160, op := Op.call { callee := Callee.builtin Builtin.append, args := #[Operand.const (Value.slice none 0 0), Operand.tmp 159], argTypes := #[24, 24] }, type := 24, pos := "law.go:113", after := #[{ on := 21, ground := Ground.data }, { on := 19, ground := Ground.chain }, { on := 19, ground := Ground.guard }], guard := some (19, true) } : Oper)) rfl (fun K9 hK9 => ?_) AllReadyH.nil
                refine step_append_guarded rfl _ _ 24 rfl _ 25 i0 (.int .u64 0) 1 8 Try.underlying24 hi hy0 hy1 hy2 rfl (by decide) (.slice none 0 0) 0 [] rfl (World.ownsRow_nil _ _ _ _) K ks.length kc (ks.map wv) rfl (by rw [List.length_map, Nat.mul_one]) (hKc.news rfl) (words_one _) (by unfold maxLen; omega) (by omega) (Nat.le_refl _) ?_
                intro S1 cap1 wA own1 grow1
                simp only [Nat.zero_add, List.nil_append] at own1 ⊢
                have hB1 : Below wq.heap.size wq wA := Below.grown bC grow1 bC.size (fun k h => by cases h)
                have hz2 := (qA.on hB1).two
                have hKa := HKD.out.on hB1
                have ob1 : ∀ k, (Value.slice S1 ks.length cap1).ownBlock = some k → wq.heap.size ≤ k := fun k h => Nat.le_trans bC.size (own1.lt k h).1
                clear hHeld
                refine hK9.out _ _ hz2 (fun hHeld => ?_)
                clear hK9 K9
                try simp only [Act.put, List.setIfInBounds_toArray, List.set_cons_zero, List.set_cons_succ]
                refine wpAnyH_ready (rs := [24]) (by kernel_rfl) (by simp) ?_
                refine AllReadyH.cons (o := ({ dst := some 162, op := Op.call { callee := Callee.builtin Builtin.append, args := #[Operand.tmp 160, Operand.tmp 161], argTypes := #[24, 24] }, type := 24, pos := "law.go:113", after := #[{ on := 22, ground := Ground.data }, { on := 23, ground := Ground.data }, { on := 22, ground := Ground.chain }, { on := 19, ground := Ground.guard }], guard := some (19, true) } : Oper)) rfl (fun K9 hK9 => ?_) AllReadyH.nil
                refine step_append_guarded rfl _ _ 24 rfl _ 25 i0 (.int .u64 0) 1 8 Try.underlying24 hi hy0 hy1 hy2 rfl (by decide) (.slice S1 ks.length cap1) ks.length _ rfl own1 K ks.length kc (ks.map wv) rfl (by rw [List.length_map, Nat.mul_one]) (hKa.news rfl) (words_one _) (by unfold maxLen; omega) (by omega) grow1.size ?_
                intro S2 cap2 wB own2 grow2
                have hB2 : Below wq.heap.size wq wB := Below.grown hB1 grow2 hB1.size ob1
                have hz3 := (qA.on hB2).two
                have own2' := own2
                rw [← List.map_append] at own2'
                have trx := words_own own2' (by rw [List.length_append])
                have c2 := Check_eq A S2 SA t.length c (ks.length + ks.length) cap2 l.length sa t l (ks ++ ks) r false false HCD.out (by rw [List.length_append]) rfl wB (hT.on hB2) trx (hA.on hB2) hfitD (by omega) (by rw [List.length_append]; omega) (by omega)
                clear hHeld
                refine hK9.out _ _ hz3 (fun hHeld => ?_)
                clear hK9 K9
                try simp only [Act.put, List.setIfInBounds_toArray, List.set_cons_zero, List.set_cons_succ]
                refine wpAnyH_take (i := 27) (oi := ({ dst := some 165, op := Op.build 44 #[(0, Operand.tmp 162), (1, Operand.tmp 163), (2, Operand.tmp 164)], type := 44, pos := "law.go:113", after := #[{ on := 24, ground := Ground.data }, { on := 25, ground := Ground.data }, { on := 26, ground := Ground.data }, { on := 19, ground := Ground.guard }], guard := some (19, true) } : Oper)) (v := ?_) rfl (by kernel_rfl) (by kernel_rfl) (by kernel_rfl) (fun _ _ _ h => h) (Or.inl ⟨rfl, ?_⟩) (by assumption) ?_
                rotate_left
                · intro wz hSw; (try dsimp only at hSw); go_simp; try with_reducible rfl
                try simp only [Act.put, List.setIfInBounds_toArray, List.set_cons_zero, List.set_cons_succ]
                refine wpAnyH_ready (rs := [28]) (by kernel_rfl) (by simp) ?_
                refine AllReadyH.cons (o := ({ dst := some 166, op := Op.call { callee := Callee.value (Operand.func 21), args := #[Operand.tmp 158, Operand.tmp 165], argTypes := #[22, 44] }, type := 4, pos := "law.go:113", after := #[{ on := 20, ground := Ground.data }, { on := 27, ground := Ground.data }, { on := 24, ground := Ground.chain }, { on := 19, ground := Ground.guard }], guard := some (19, true) } : Oper)) rfl (fun K9 hK9 => ?_) AllReadyH.nil
                go_simp
                with_reducible refine c2.mono ?_
                rintro e wE ⟨rfl, bE'⟩
                have bE := hB2.trans (bE'.mono hB2.size)
                have hz4 := (qA.on bE).two
                go_wp2_with fail
                clear hHeld
                refine hK9.out _ _ hz4 (fun hHeld => ?_)
                clear hK9 K9
                try simp only [Act.put, List.setIfInBounds_toArray, List.set_cons_zero, List.set_cons_succ]
                refine wpAnyH_take (i := 29) (oi := ({ dst := some 167, op := Op.unOp UnOp.not 4 (Operand.tmp 166), type := 4, pos := "law.go:113", after := #[{ on := 28, ground := Ground.data }, { on := 19, ground := Ground.guard }], guard := some (19, true) } : Oper)) (v := ?_) rfl (by kernel_rfl) (by kernel_rfl) (by kernel_rfl) (fun _ _ _ h => h) (Or.inl ⟨rfl, ?_⟩) (by assumption) ?_
                rotate_left
                · intro wz hSw; (try dsimp only at hSw); go_simp; try with_reducible rfl
                try simp only [Act.put, List.setIfInBounds_toArray, List.set_cons_zero, List.set_cons_succ]
                refine wpAnyH_take (i := 30) (oi := ({ dst := some 168, op := Op.pick (Operand.tmp 157) (Operand.tmp 167) (Operand.const (Value.bool false)), type := 4, pos := "law.go:113", after := #[{ on := 19, ground := Ground.data }, { on := 29, ground := Ground.data }], guard := none } : Oper)) (v := ?_) rfl (by kernel_rfl) (by kernel_rfl) (by kernel_rfl) (fun _ _ _ h => h) (Or.inl ⟨rfl, ?_⟩) (by assumption) ?_
                rotate_left
                · intro wz hSw; (try dsimp only at hSw); go_simp; try with_reducible rfl
                try simp only [Act.put, List.setIfInBounds_toArray, List.set_cons_zero, List.set_cons_succ]
                refine wpAnyH_take (i := 31) (oi := ({ dst := some 12, op := Op.assign (Operand.tmp 168), type := 4, pos := "law.go:113", after := #[{ on := 30, ground := Ground.data }, { on := 28, ground := Ground.chain }, { on := 0, ground := Ground.phase }, { on := 1, ground := Ground.phase }, { on := 2, ground := Ground.phase }, { on := 3, ground := Ground.phase }, { on := 4, ground := Ground.phase }, { on := 5, ground := Ground.phase }, { on := 6, ground := Ground.phase }, { on := 7, ground := Ground.phase }, { on := 8, ground := Ground.phase }, { on := 9, ground := Ground.phase }, { on := 10, ground := Ground.phase }, { on := 11, ground := Ground.phase }, { on := 12, ground := Ground.phase }, { on := 13, ground := Ground.phase }, { on := 14, ground := Ground.phase }, { on := 15, ground := Ground.phase }, { on := 16, ground := Ground.phase }, { on := 17, ground := Ground.phase }, { on := 18, ground := Ground.phase }, { on := 19, ground := Ground.phase }, { on := 20, ground := Ground.phase }, { on := 21, ground := Ground.phase }, { on := 22, ground := Ground.phase }, { on := 23, ground := Ground.phase }, { on := 24, ground := Ground.phase }, { on := 25, ground := Ground.phase }, { on := 26, ground := Ground.phase }, { on := 27, ground := Ground.phase }, { on := 28, ground := Ground.phase }, { on := 29, ground := Ground.phase }, { on := 30, ground := Ground.phase }], guard := none } : Oper)) (v := ?_) rfl (by kernel_rfl) (by kernel_rfl) (by kernel_rfl) (fun _ _ _ h => h) (Or.inl ⟨rfl, ?_⟩) (by assumption) ?_
                rotate_left
                · intro wz hSw; (try dsimp only at hSw); go_simp; try with_reducible rfl
                try simp only [Act.put, List.setIfInBounds_toArray, List.set_cons_zero, List.set_cons_succ]
                refine wpAnyH_done (by kernel_rfl) ?_ _
                all_goals
                  go_simp
                  go_wp2_with fail
                  go_ret
                  exact ⟨rfl, BQ.trans (bE.mono BQ.size)⟩
              · go_upto_region 28 with (fail)
                have hBd : Below wq.heap.size wq wq.drew := (Below.refl _ _).drew
                have hz0 := qA.two
                have c1 := Check_eq A O SA t.length c os.length oc l.length sa t l os z false false hX rfl rfl _ (hT.on hBd) (hO.on hBd) (hA.on hBd) hfitO (by omega) (by omega) (by omega)
                have hfitD : ∀ x ∈ ks ++ ks, x < 18446744073709551616 := fun x hx => by
                  rcases List.mem_append.1 hx with h | h <;> exact hfit x h
                obtain ⟨y0, y1⟩ := hz0
                have HKD := Lib.hid hK
                clear hK
                refine wp_region_held_drew (S := (fun w' => w'.cell? ⟨gA, 0, none⟩ = some (.bool false) ∧ w'.cell? ⟨gA, 1, none⟩ = some (.slice SA l.length sa))) (by kernel_rfl) (qA.on hBd).two (fun hHeld => ?_)
                refine wpAnyH_take (i := 0) (oi := ({ dst := some 138, op := Op.move (Operand.tmp 13), type := 4, pos := "law.go:113", after := #[], guard := none } : Oper)) (v := ?_) rfl (by kernel_rfl) (by kernel_rfl) (by kernel_rfl) (fun _ _ _ h => h) (Or.inl ⟨rfl, ?_⟩) (by assumption) ?_
                rotate_left
                · intro wz hSw; (try dsimp only at hSw); go_simp; try with_reducible rfl
                try simp only [Act.put, List.setIfInBounds_toArray, List.set_cons_zero, List.set_cons_succ]
                refine wpAnyH_take (i := 1) (oi := ({ dst := some 139, op := Op.move (Operand.tmp 138), type := 4, pos := "law.go:113", after := #[{ on := 0, ground := Ground.data }], guard := none } : Oper)) (v := ?_) rfl (by kernel_rfl) (by kernel_rfl) (by kernel_rfl) (fun _ _ _ h => h) (Or.inl ⟨rfl, ?_⟩) (by assumption) ?_
                rotate_left
                · intro wz hSw; (try dsimp only at hSw); go_simp; try with_reducible rfl
                try simp only [Act.put, List.setIfInBounds_toArray, List.set_cons_zero, List.set_cons_succ]
                refine wpAnyH_take (i := 2) (oi := ({ dst := some 140, op := Op.move (Operand.tmp 14), type := 22, pos := "law.go:113", after := #[{ on := 1, ground := Ground.guard }], guard := some (1, true) } : Oper)) (v := ?_) rfl (by kernel_rfl) (by kernel_rfl) (by kernel_rfl) (fun _ _ _ h => h) (Or.inl ⟨rfl, ?_⟩) (by assumption) ?_
                rotate_left
                · intro wz hSw; (try dsimp only at hSw); go_simp; try with_reducible rfl
                try simp only [Act.put, List.setIfInBounds_toArray, List.set_cons_zero, List.set_cons_succ]
                refine wpAnyH_take (i := 3) (oi := ({ dst := some 141, op := Op.move (Operand.tmp 16), type := 24, pos := "law.go:113", after := #[{ on := 1, ground := Ground.guard }], guard := some (1, true) } : Oper)) (v := ?_) rfl (by kernel_rfl) (by kernel_rfl) (by kernel_rfl) (fun _ _ _ h => h) (Or.inl ⟨rfl, ?_⟩) (by assumption) ?_
                rotate_left
                · intro wz hSw; (try dsimp only at hSw); go_simp; try with_reducible rfl
                try simp only [Act.put, List.setIfInBounds_toArray, List.set_cons_zero, List.set_cons_succ]
                refine wpAnyH_take (i := 4) (oi := ({ dst := some 142, op := Op.move (Operand.tmp 29), type := 25, pos := "law.go:113", after := #[{ on := 1, ground := Ground.guard }], guard := some (1, true) } : Oper)) (v := ?_) rfl (by kernel_rfl) (by kernel_rfl) (by kernel_rfl) (fun _ _ _ h => h) (Or.inl ⟨rfl, ?_⟩) (by assumption) ?_
                rotate_left
                · intro wz hSw; (try dsimp only at hSw); go_simp; try with_reducible rfl
                try simp only [Act.put, List.setIfInBounds_toArray, List.set_cons_zero, List.set_cons_succ]
                refine wpAnyH_take (i := 5) (oi := ({ dst := some 143, op := Op.load 40 (Operand.tmp 18), type := 40, pos := "law.go:113", after := #[{ on := 1, ground := Ground.guard }], guard := some (1, true) } : Oper)) (v := ?_) rfl (by kernel_rfl) (by kernel_rfl) (by kernel_rfl) (fun _ _ _ h => h) (Or.inl ⟨rfl, ?_⟩) (by assumption) ?_
                rotate_left
                · intro wz hSw; (try dsimp only at hSw); go_simp; try with_reducible rfl
                try simp only [Act.put, List.setIfInBounds_toArray, List.set_cons_zero, List.set_cons_succ]
                refine wpAnyH_take (i := 6) (oi := ({ dst := some 144, op := Op.build 44 #[(0, Operand.tmp 141), (1, Operand.tmp 142), (2, Operand.tmp 143)], type := 44, pos := "law.go:113", after := #[{ on := 3, ground := Ground.data }, { on := 4, ground := Ground.data }, { on := 5, ground := Ground.data }, { on := 1, ground := Ground.guard }], guard := some (1, true) } : Oper)) (v := ?_) rfl (by kernel_rfl) (by kernel_rfl) (by kernel_rfl) (fun _ _ _ h => h) (Or.inl ⟨rfl, ?_⟩) (by assumption) ?_
                rotate_left
                · intro wz hSw; (try dsimp only at hSw); go_simp; try with_reducible rfl
                try simp only [Act.put, List.setIfInBounds_toArray, List.set_cons_zero, List.set_cons_succ]
                refine wpAnyH_take (i := 8) (oi := ({ dst := some 146, op := Op.move (Operand.tmp 22), type := 4, pos := "law.go:113", after := #[{ on := 1, ground := Ground.guard }], guard := some (1, true) } : Oper)) (v := ?_) rfl (by kernel_rfl) (by kernel_rfl) (by kernel_rfl) (fun _ _ _ h => h) (Or.inl ⟨rfl, ?_⟩) (by assumption) ?_
                rotate_left
                · intro wz hSw; (try dsimp only at hSw); go_simp; try with_reducible rfl
                try simp only [Act.put, List.setIfInBounds_toArray, List.set_cons_zero, List.set_cons_succ]
                refine wpAnyH_ready (rs := [7]) (by kernel_rfl) (by simp) ?_
                refine AllReadyH.cons (o := ({ dst := some 145, op := Op.call { callee := Callee.value (Operand.func 21), args := #[Operand.tmp 140, Operand.tmp 144], argTypes := #[22, 44] }, type := 4, pos := "law.go:113", after := #[{ on := 2, ground := Ground.data }, { on := 6, ground := Ground.data }, { on := 1, ground := Ground.chain }, { on := 1, ground := Ground.guard }], guard := some (1, true) } : Oper)) rfl (fun K9 hK9 => ?_) AllReadyH.nil
                go_simp
                with_reducible refine c1.mono ?_
                rintro e wC ⟨rfl, bC'⟩
                have bC := hBd.trans (bC'.mono hBd.size)
                have hz1 := (qA.on bC).two
                have hKc := HKD.out.on bC
                go_wp2_with fail
                clear hHeld
                refine hK9.out _ _ hz1 (fun hHeld => ?_)
                clear hK9 K9
                try simp only [Act.put, List.setIfInBounds_toArray, List.set_cons_zero, List.set_cons_succ]
                refine wpAnyH_take (i := 9) (oi := ({ dst := some 147, op := Op.move (Operand.tmp 146), type := 4, pos := "law.go:113", after := #[{ on := 8, ground := Ground.data }, { on := 7, ground := Ground.chain }, { on := 1, ground := Ground.guard }], guard := some (1, true) } : Oper)) (v := ?_) rfl (by kernel_rfl) (by kernel_rfl) (by kernel_rfl) (fun _ _ _ h => h) (Or.inl ⟨rfl, ?_⟩) (by assumption) ?_
                rotate_left
                · intro wz hSw; (try dsimp only at hSw); go_simp; try with_reducible rfl
                try simp only [Act.put, List.setIfInBounds_toArray, List.set_cons_zero, List.set_cons_succ]
                refine wpAnyH_take (i := 10) (oi := ({ dst := some 148, op := Op.move (Operand.tmp 25), type := 4, pos := "law.go:113", after := #[{ on := 9, ground := Ground.guard }], guard := some (9, true) } : Oper)) (v := ?_) rfl (by kernel_rfl) (by kernel_rfl) (by kernel_rfl) (fun _ _ _ h => h) (Or.inl ⟨rfl, ?_⟩) (by assumption) ?_
                rotate_left
                · intro wz hSw; (try dsimp only at hSw); go_simp; try with_reducible rfl
                try simp only [Act.put, List.setIfInBounds_toArray, List.set_cons_zero, List.set_cons_succ]
                refine wpAnyH_take (i := 11) (oi := ({ dst := some 149, op := Op.pick (Operand.tmp 147) (Operand.tmp 148) (Operand.const (Value.bool false)), type := 4, pos := "law.go:113", after := #[{ on := 9, ground := Ground.data }, { on := 10, ground := Ground.data }, { on := 1, ground := Ground.guard }], guard := some (1, true) } : Oper)) (v := ?_) rfl (by kernel_rfl) (by kernel_rfl) (by kernel_rfl) (fun _ _ _ h => h) (Or.inl ⟨rfl, ?_⟩) (by assumption) ?_
                rotate_left
                · intro wz hSw; (try dsimp only at hSw); go_simp; try with_reducible rfl
                try simp only [Act.put, List.setIfInBounds_toArray, List.set_cons_zero, List.set_cons_succ]
                refine wpAnyH_take (i := 12) (oi := ({ dst := some 150, op := Op.move (Operand.tmp 149), type := 4, pos := "law.go:113", after := #[{ on := 11, ground := Ground.data }, { on := 9, ground := Ground.chain }, { on := 1, ground := Ground.guard }], guard := some (1, true) } : Oper)) (v := ?_) rfl (by kernel_rfl) (by kernel_rfl) (by kernel_rfl) (fun _ _ _ h => h) (Or.inl ⟨rfl, ?_⟩) (by assumption) ?_
                rotate_left
                · intro wz hSw; (try dsimp only at hSw); go_simp; try with_reducible rfl
                try simp only [Act.put, List.setIfInBounds_toArray, List.set_cons_zero, List.set_cons_succ]
                refine wpAnyH_take (i := 13) (oi := ({ dst := some 151, op := Op.move (Operand.tmp 29), type := 25, pos := "law.go:113", after := #[{ on := 12, ground := Ground.guard }], guard := some (12, true) } : Oper)) (v := undef) rfl (by kernel_rfl) (by kernel_rfl) (by kernel_rfl) (fun _ _ _ h => h) (Or.inr ⟨rfl, rfl⟩) (by assumption) ?_
                try simp only [Act.put, List.setIfInBounds_toArray, List.set_cons_zero, List.set_cons_succ]
                refine wpAnyH_take (i := 14) (oi := ({ dst := some 152, op := Op.move (Operand.tmp 17), type := 25, pos := "law.go:113", after := #[{ on := 12, ground := Ground.guard }], guard := some (12, true) } : Oper)) (v := undef) rfl (by kernel_rfl) (by kernel_rfl) (by kernel_rfl) (fun _ _ _ h => h) (Or.inr ⟨rfl, rfl⟩) (by assumption) ?_
                try simp only [Act.put, List.setIfInBounds_toArray, List.set_cons_zero, List.set_cons_succ]
                refine wpAnyH_take (i := 15) (oi := ({ dst := some 153, op := Op.binOp BinOp.eql 25 (Operand.tmp 151) (Operand.tmp 152) 25, type := 4, pos := "law.go:113", after := #[{ on := 13, ground := Ground.data }, { on := 14, ground := Ground.data }, { on := 12, ground := Ground.guard }], guard := some (12, true) } : Oper)) (v := undef) rfl (by kernel_rfl) (by kernel_rfl) (by kernel_rfl) (fun _ _ _ h => h) (Or.inr ⟨rfl, rfl⟩) (by assumption) ?_
                try simp only [Act.put, List.setIfInBounds_toArray, List.set_cons_zero, List.set_cons_succ]
                refine wpAnyH_take (i := 16) (oi := ({ dst := some 154, op := Op.pick (Operand.tmp 150) (Operand.tmp 153) (Operand.const (Value.bool false)), type := 4, pos := "law.go:113", after := #[{ on := 12, ground := Ground.data }, { on := 15, ground := Ground.data }, { on := 1, ground := Ground.guard }], guard := some (1, true) } : Oper)) (v := ?_) rfl (by kernel_rfl) (by kernel_rfl) (by kernel_rfl) (fun _ _ _ h => h) (Or.inl ⟨rfl, ?_⟩) (by assumption) ?_
                rotate_left
                · intro wz hSw; (try dsimp only at hSw); go_simp; try with_reducible rfl
                try simp only [Act.put, List.setIfInBounds_toArray, List.set_cons_zero, List.set_cons_succ]
                refine wpAnyH_take (i := 17) (oi := ({ dst := some 155, op := Op.binOp BinOp.eql 4 (Operand.tmp 145) (Operand.tmp 154) 4, type := 4, pos := "law.go:113", after := #[{ on := 7, ground := Ground.data }, { on := 16, ground := Ground.data }, { on := 1, ground := Ground.guard }], guard := some (1, true) } : Oper)) (v := ?_) rfl (by kernel_rfl) (by kernel_rfl) (by kernel_rfl) (fun _ _ _ h => h) (Or.inl ⟨rfl, ?_⟩) (by assumption) ?_
                rotate_left
                · intro wz hSw; (try dsimp only at hSw); go_simp; try with_reducible rfl
                try simp only [Act.put, List.setIfInBounds_toArray, List.set_cons_zero, List.set_cons_succ]
                refine wpAnyH_take (i := 18) (oi := ({ dst := some 156, op := Op.pick (Operand.tmp 139) (Operand.tmp 155) (Operand.const (Value.bool false)), type := 4, pos := "law.go:113", after := #[{ on := 1, ground := Ground.data }, { on := 17, ground := Ground.data }], guard := none } : Oper)) (v := ?_) rfl (by kernel_rfl) (by kernel_rfl) (by kernel_rfl) (fun _ _ _ h => h) (Or.inl ⟨rfl, ?_⟩) (by assumption) ?_
                rotate_left
                · intro wz hSw; (try dsimp only at hSw); go_simp; try with_reducible rfl
                try simp only [Act.put, List.setIfInBounds_toArray, List.set_cons_zero, List.set_cons_succ]
                refine wpAnyH_take (i := 19) (oi := ({ dst := some 157, op := Op.move (Operand.tmp 156), type := 4, pos := "law.go:113", after := #[{ on := 18, ground := Ground.data }, { on := 12, ground := Ground.chain }], guard := none } : Oper)) (v := ?_) rfl (by kernel_rfl) (by kernel_rfl) (by kernel_rfl) (fun _ _ _ h => h) (Or.inl ⟨rfl, ?_⟩) (by assumption) ?_
                rotate_left
                · intro wz hSw; (try dsimp only at hSw); go_simp; try with_reducible rfl
                try simp only [Act.put, List.setIfInBounds_toArray, List.set_cons_zero, List.set_cons_succ]
                refine wpAnyH_take (i := 20) (oi := ({ dst := some 158, op := Op.move (Operand.tmp 14), type := 22, pos := "law.go:113", after := #[{ on := 19, ground := Ground.guard }], guard := some (19, true) } : Oper)) (v := ?_) rfl (by kernel_rfl) (by kernel_rfl) (by kernel_rfl) (fun _ _ _ h => h) (Or.inl ⟨rfl, ?_⟩) (by assumption) ?_
                rotate_left
                · intro wz hSw; (try dsimp only at hSw); go_simp; try with_reducible rfl
                try simp only [Act.put, List.setIfInBounds_toArray, List.set_cons_zero, List.set_cons_succ]
                refine wpAnyH_take (i := 21) (oi := ({ dst := some 159, op := Op.move (Operand.tmp 15), type := 24, pos := "law.go:113", after := #[{ on := 19, ground := Ground.guard }], guard := some (19, true) } : Oper)) (v := ?_) rfl (by kernel_rfl) (by kernel_rfl) (by kernel_rfl) (fun _ _ _ h => h) (Or.inl ⟨rfl, ?_⟩) (by assumption) ?_
                rotate_left
                · intro wz hSw; (try dsimp only at hSw); go_simp; try with_reducible rfl
                try simp only [Act.put, List.setIfInBounds_toArray, List.set_cons_zero, List.set_cons_succ]
                refine wpAnyH_take (i := 23) (oi := ({ dst := some 161, op := Op.move (Operand.tmp 15), type := 24, pos := "law.go:113", after := #[{ on := 19, ground := Ground.guard }], guard := some (19, true) } : Oper)) (v := ?_) rfl (by kernel_rfl) (by kernel_rfl) (by kernel_rfl) (fun _ _ _ h => h) (Or.inl ⟨rfl, ?_⟩) (by assumption) ?_
                rotate_left
                · intro wz hSw; (try dsimp only at hSw); go_simp; try with_reducible rfl
                try simp only [Act.put, List.setIfInBounds_toArray, List.set_cons_zero, List.set_cons_succ]
                refine wpAnyH_take (i := 25) (oi := ({ dst := some 163, op := Op.move (Operand.tmp 17), type := 25, pos := "law.go:113", after := #[{ on := 19, ground := Ground.guard }], guard := some (19, true) } : Oper)) (v := ?_) rfl (by kernel_rfl) (by kernel_rfl) (by kernel_rfl) (fun _ _ _ h => h) (Or.inl ⟨rfl, ?_⟩) (by assumption) ?_
                rotate_left
                · intro wz hSw; (try dsimp only at hSw); go_simp; try with_reducible rfl
                try simp only [Act.put, List.setIfInBounds_toArray, List.set_cons_zero, List.set_cons_succ]
                refine wpAnyH_take (i := 26) (oi := ({ dst := some 164, op := Op.load 40 (Operand.tmp 18), type := 40, pos := "law.go:113", after := #[{ on := 19, ground := Ground.guard }], guard := some (19, true) } : Oper)) (v := ?_) rfl (by kernel_rfl) (by kernel_rfl) (by kernel_rfl) (fun _ _ _ h => h) (Or.inl ⟨rfl, ?_⟩) (by assumption) ?_
                rotate_left
                · intro wz hSw; (try dsimp only at hSw); go_simp; try with_reducible rfl
                try simp only [Act.put, List.setIfInBounds_toArray, List.set_cons_zero, List.set_cons_succ]
                refine wpAnyH_ready (rs := [22]) (by kernel_rfl) (by simp) ?_
                refine AllReadyH.cons (o := ({ dst := some 160, op := Op.call { callee := Callee.builtin Builtin.append, args := #[Operand.const (Value.slice none 0 0), Operand.tmp 159], argTypes := #[24, 24] }, type := 24, pos := "law.go:113", after := #[{ on := 21, ground := Ground.data }, { on := 19, ground := Ground.chain }, { on := 19, ground := Ground.guard }], guard := some (19, true) } : Oper)) rfl (fun K9 hK9 => ?_) AllReadyH.nil
                refine step_append_guarded rfl _ _ 24 rfl _ 25 i0 (.int .u64 0) 1 8 Try.underlying24 hi hy0 hy1 hy2 rfl (by decide) (.slice none 0 0) 0 [] rfl (World.ownsRow_nil _ _ _ _) K ks.length kc (ks.map wv) rfl (by rw [List.length_map, Nat.mul_one]) (hKc.news rfl) (words_one _) (by unfold maxLen; omega) (by omega) (Nat.le_refl _) ?_
                intro S1 cap1 wA own1 grow1
                simp only [Nat.zero_add, List.nil_append] at own1 ⊢
                have hB1 : Below wq.heap.size wq wA := Below.grown bC grow1 bC.size (fun k h => by cases h)
                have hz2 := (qA.on hB1).two
                have hKa := HKD.out.on hB1
                have ob1 : ∀ k, (Value.slice S1 ks.length cap1).ownBlock = some k → wq.heap.size ≤ k := fun k h => Nat.le_trans bC.size (own1.lt k h).1
                clear hHeld
                refine hK9.out _ _ hz2 (fun hHeld => ?_)
                clear hK9 K9
                try simp only [Act.put, List.setIfInBounds_toArray, List.set_cons_zero, List.set_cons_succ]
                refine wpAnyH_ready (rs := [24]) (by kernel_rfl) (by simp) ?_
                refine AllReadyH.cons (o := ({ dst := some 162, op := Op.call { callee := Callee.builtin Builtin.append, args := #[Operand.tmp 160, Operand.tmp 161], argTypes := #[24, 24] }, type := 24, pos := "law.go:113", after := #[{ on := 22, ground := Ground.data }, { on := 23, ground := Ground.data }, { on := 22, ground := Ground.chain }, { on := 19, ground := Ground.guard }], guard := some (19, true) } : Oper)) rfl (fun K9 hK9 => ?_) AllReadyH.nil
                refine step_append_guarded rfl _ _ 24 rfl _ 25 i0 (.int .u64 0) 1 8 Try.underlying24 hi hy0 hy1 hy2 rfl (by decide) (.slice S1 ks.length cap1) ks.length _ rfl own1 K ks.length kc (ks.map wv) rfl (by rw [List.length_map, Nat.mul_one]) (hKa.news rfl) (words_one _) (by unfold maxLen; omega) (by omega) grow1.size ?_
                intro S2 cap2 wB own2 grow2
                have hB2 : Below wq.heap.size wq wB := Below.grown hB1 grow2 hB1.size ob1
                have hz3 := (qA.on hB2).two
                have own2' := own2
                rw [← List.map_append] at own2'
                have trx := words_own own2' (by rw [List.length_append])
                have c2 := Check_eq A S2 SA t.length c (ks.length + ks.length) cap2 l.length sa t l (ks ++ ks) r false false HCD.out (by rw [List.length_append]) rfl wB (hT.on hB2) trx (hA.on hB2) hfitD (by omega) (by rw [List.length_append]; omega) (by omega)
                clear hHeld
                refine hK9.out _ _ hz3 (fun hHeld => ?_)
                clear hK9 K9
                try simp only [Act.put, List.setIfInBounds_toArray, List.set_cons_zero, List.set_cons_succ]
                refine wpAnyH_take (i := 27) (oi := ({ dst := some 165, op := Op.build 44 #[(0, Operand.tmp 162), (1, Operand.tmp 163), (2, Operand.tmp 164)], type := 44, pos := "law.go:113", after := #[{ on := 24, ground := Ground.data }, { on := 25, ground := Ground.data }, { on := 26, ground := Ground.data }, { on := 19, ground := Ground.guard }], guard := some (19, true) } : Oper)) (v := ?_) rfl (by kernel_rfl) (by kernel_rfl) (by kernel_rfl) (fun _ _ _ h => h) (Or.inl ⟨rfl, ?_⟩) (by assumption) ?_
                rotate_left
                · intro wz hSw; (try dsimp only at hSw); go_simp; try with_reducible rfl
                try simp only [Act.put, List.setIfInBounds_toArray, List.set_cons_zero, List.set_cons_succ]
                refine wpAnyH_ready (rs := [28]) (by kernel_rfl) (by simp) ?_
                refine AllReadyH.cons (o := ({ dst := some 166, op := Op.call { callee := Callee.value (Operand.func 21), args := #[Operand.tmp 158, Operand.tmp 165], argTypes := #[22, 44] }, type := 4, pos := "law.go:113", after := #[{ on := 20, ground := Ground.data }, { on := 27, ground := Ground.data }, { on := 24, ground := Ground.chain }, { on := 19, ground := Ground.guard }], guard := some (19, true) } : Oper)) rfl (fun K9 hK9 => ?_) AllReadyH.nil
                go_simp
                with_reducible refine c2.mono ?_
                rintro e wE ⟨rfl, bE'⟩
                have bE := hB2.trans (bE'.mono hB2.size)
                have hz4 := (qA.on bE).two
                go_wp2_with fail
                clear hHeld
                refine hK9.out _ _ hz4 (fun hHeld => ?_)
                clear hK9 K9
                try simp only [Act.put, List.setIfInBounds_toArray, List.set_cons_zero, List.set_cons_succ]
                refine wpAnyH_take (i := 29) (oi := ({ dst := some 167, op := Op.unOp UnOp.not 4 (Operand.tmp 166), type := 4, pos := "law.go:113", after := #[{ on := 28, ground := Ground.data }, { on := 19, ground := Ground.guard }], guard := some (19, true) } : Oper)) (v := ?_) rfl (by kernel_rfl) (by kernel_rfl) (by kernel_rfl) (fun _ _ _ h => h) (Or.inl ⟨rfl, ?_⟩) (by assumption) ?_
                rotate_left
                · intro wz hSw; (try dsimp only at hSw); go_simp; try with_reducible rfl
                try simp only [Act.put, List.setIfInBounds_toArray, List.set_cons_zero, List.set_cons_succ]
                refine wpAnyH_take (i := 30) (oi := ({ dst := some 168, op := Op.pick (Operand.tmp 157) (Operand.tmp 167) (Operand.const (Value.bool false)), type := 4, pos := "law.go:113", after := #[{ on := 19, ground := Ground.data }, { on := 29, ground := Ground.data }], guard := none } : Oper)) (v := ?_) rfl (by kernel_rfl) (by kernel_rfl) (by kernel_rfl) (fun _ _ _ h => h) (Or.inl ⟨rfl, ?_⟩) (by assumption) ?_
                rotate_left
                · intro wz hSw; (try dsimp only at hSw); go_simp; try with_reducible rfl
                try simp only [Act.put, List.setIfInBounds_toArray, List.set_cons_zero, List.set_cons_succ]
                refine wpAnyH_take (i := 31) (oi := ({ dst := some 12, op := Op.assign (Operand.tmp 168), type := 4, pos := "law.go:113", after := #[{ on := 30, ground := Ground.data }, { on := 28, ground := Ground.chain }, { on := 0, ground := Ground.phase }, { on := 1, ground := Ground.phase }, { on := 2, ground := Ground.phase }, { on := 3, ground := Ground.phase }, { on := 4, ground := Ground.phase }, { on := 5, ground := Ground.phase }, { on := 6, ground := Ground.phase }, { on := 7, ground := Ground.phase }, { on := 8, ground := Ground.phase }, { on := 9, ground := Ground.phase }, { on := 10, ground := Ground.phase }, { on := 11, ground := Ground.phase }, { on := 12, ground := Ground.phase }, { on := 13, ground := Ground.phase }, { on := 14, ground := Ground.phase }, { on := 15, ground := Ground.phase }, { on := 16, ground := Ground.phase }, { on := 17, ground := Ground.phase }, { on := 18, ground := Ground.phase }, { on := 19, ground := Ground.phase }, { on := 20, ground := Ground.phase }, { on := 21, ground := Ground.phase }, { on := 22, ground := Ground.phase }, { on := 23, ground := Ground.phase }, { on := 24, ground := Ground.phase }, { on := 25, ground := Ground.phase }, { on := 26, ground := Ground.phase }, { on := 27, ground := Ground.phase }, { on := 28, ground := Ground.phase }, { on := 29, ground := Ground.phase }, { on := 30, ground := Ground.phase }], guard := none } : Oper)) (v := ?_) rfl (by kernel_rfl) (by kernel_rfl) (by kernel_rfl) (fun _ _ _ h => h) (Or.inl ⟨rfl, ?_⟩) (by assumption) ?_
                rotate_left
                · intro wz hSw; (try dsimp only at hSw); go_simp; try with_reducible rfl
                try simp only [Act.put, List.setIfInBounds_toArray, List.set_cons_zero, List.set_cons_succ]
                refine wpAnyH_done (by kernel_rfl) ?_ _
                all_goals
                  go_simp
                  go_wp2_with fail
                  go_ret
                  exact ⟨rfl, BQ.trans (bE.mono BQ.size)⟩
            · obtain ⟨wp, hwp⟩ : ∃ wp, wp = wr := ⟨_, rfl⟩
              subst hwp
              have hKb := hK.on hb
              have hOb := hO.on hb
              have HM := Lib.hid (all_more (f := fun x => decide (x ∈ ks)) hlt)
              obtain ⟨ae, rfl, _, _⟩ := hOb.at_ hlt
              have HU1 := Lib.hid hu1
              have HU := fun j (h : j < ks.length) => among_more h os[i]
              have hv0 : decide (os[i] ∈ ks.take 0) = false := by simp
              generalize hy2 : os[i] = y at HU hv0 HM
              clear hu1
              go_wp2_with fail
              go_loopw [27, 28] (fun uv jv wr => ∃ j : Nat, j ≤ ks.length ∧ uv = .bool (decide (y ∈ ks.take j)) ∧ jv = .int .i64 (j : Int) ∧ Below wp.heap.size wp wr) (fun _ jv _ => ks.length - (intOf jv).toNat)
              case atStart => exact ⟨0, Nat.zero_le _, by rw [hv0], rfl, Below.refl _ _⟩
              case round =>
                obtain ⟨j, hjk, rfl, rfl, hwp⟩ := hrel
                replace hKb := hKb.on hwp
                replace hOb := hOb.on hwp
                by_cases hj : j < ks.length
                · have g3 : ((j : Int) < (ks.length : Int)) = True := eq_true (by omega)
                  have g4 : (j < ks.length) = True := eq_true hj
                  obtain ⟨ad, rfl, _, hcj⟩ := hKb.at_ hj
                  obtain ⟨_, e1, _, hci⟩ := hOb.at_ hlt
                  injection e1 with e1
                  subst e1
                  rw [hy2] at hci
                  have HMj := Lib.hid (HU j hj)
                  clear HU hv0
                  generalize ks[j] = z at *
                  obtain ⟨u2, hu2⟩ : ∃ u2, decide (y ∈ ks.take j) = u2 := ⟨_, rfl⟩
                  rw [hu2]
                  have HU2 := Lib.hid hu2
                  clear hu2
                  cases u2
                  · by_cases hyz : z = y
                    · subst hyz
                      go_wp2_with fail
                      go_quiet (fail)
                      go_wp2_with fail
                      go_roundw
                      case rel => exact ⟨j + 1, by omega, by rw [← HMj.out, HU2.out]; simp, by go_num, ⟨hwp.os, hwp.tape, hwp.output, hwp.size, hwp.block⟩⟩
                      case measure => simp [intOf]; omega
                    · have g7 : ((z : Int) = (y : Int)) = False := eq_false (by omega)
                      have g8 : (z = y) = False := eq_false hyz
                      have g9 : ((z : Int) == (y : Int)) = false := by rw [beq_eq_false_iff_ne]; omega
                      go_wp2_with fail
                      go_quiet (fail)
                      go_wp2_with fail
                      go_roundw
                      case rel => exact ⟨j + 1, by omega, by rw [← HMj.out, HU2.out]; simp [hyz], by go_num, ⟨hwp.os, hwp.tape, hwp.output, hwp.size, hwp.block⟩⟩
                      case measure => simp [intOf]; omega
                  · go_wp2_with fail
                    go_quiet (fail)
                    go_wp2_with fail
                    go_roundw
                    case rel => exact ⟨j + 1, by omega, by rw [← HMj.out, HU2.out]; rfl, by go_num, ⟨hwp.os, hwp.tape, hwp.output, hwp.size, hwp.block⟩⟩
                    case measure => simp [intOf]; omega
                · obtain rfl : j = ks.length := by omega
                  have g3 : ((ks.length : Int) < (ks.length : Int)) = False := eq_false (by omega)
                  rw [List.take_length]
                  clear HU hv0
                  go_wp2_with fail
                  go_roundw
                  case rel => exact ⟨i + 1, by omega, by rw [← HM.out, ← Bool.and_assoc, HU1.out, Bool.true_and], by go_num, hb.trans (hwp.mono hb.size)⟩
                  case measure => simp [intOf]; omega
          · obtain rfl : i = os.length := by omega
            have g1 : ((os.length : Int) < (os.length : Int)) = False := eq_false (by omega)
            rw [List.take_length, ← HSO.out] at hu1
            cases u1
            · have HSM := Lib.hid hu1
              clear hu1
              obtain ⟨wq, hwq⟩ : ∃ wq, wq = wr := ⟨_, rfl⟩
              subst hwq
              replace hT := hT.on hb
              replace hK := hK.on hb
              replace hO := hO.on hb
              replace hA := hA.on hb
              replace qA := qA.on hb
              have BQ := B14.trans (hb.mono B14.size)
              clear hb B14
              have hr2 := pickN_lt another 3 (by decide)
              have cR2 := fun W => pick7_any another 3 W hano (by decide) (by decide)
              generalize pickN another 3 = z at *
              have hwz : IntKind.u64.wrap (z : Int) = (z : Int) := IntWalk.u64_in _ (by omega)
              go_wp2_with fail
              with_reducible refine (cR2 _).mono ?_
              rintro e wz ⟨rfl, rfl⟩
              clear cR2
              have hX := HCO2.out z
              rw [HSM.out] at hX
              simp only [Bool.and_false, Bool.false_and] at hX
              cases is
              · go_upto_region 28 with (fail)
                have hBd : Below wq.heap.size wq wq.drew := (Below.refl _ _).drew
                have hz0 := qA.two
                have c1 := Check_eq A O SA t.length c os.length oc l.length sa t l os z false false hX rfl rfl _ (hT.on hBd) (hO.on hBd) (hA.on hBd) hfitO (by omega) (by omega) (by omega)
                have hfitD : ∀ x ∈ ks ++ ks, x < 18446744073709551616 := fun x hx => by
                  rcases List.mem_append.1 hx with h | h <;> exact hfit x h
                obtain ⟨y0, y1⟩ := hz0
                have HKD := Lib.hid hK
                clear hK
                refine wp_region_held_drew (S := (fun w' => w'.cell? ⟨gA, 0, none⟩ = some (.bool false) ∧ w'.cell? ⟨gA, 1, none⟩ = some (.slice SA l.length sa))) (by kernel_rfl) (qA.on hBd).two (fun hHeld => ?_)
                refine wpAnyH_take (i := 0) (oi := ({ dst := some 138, op := Op.move (Operand.tmp 13), type := 4, pos := "law.go:113", after := #[], guard := none } : Oper)) (v := ?_) rfl (by kernel_rfl) (by kernel_rfl) (by kernel_rfl) (fun _ _ _ h => h) (Or.inl ⟨rfl, ?_⟩) (by assumption) ?_
                rotate_left
                · intro wz hSw; (try dsimp only at hSw); go_simp; try with_reducible rfl
                try simp only [Act.put, List.setIfInBounds_toArray, List.set_cons_zero, List.set_cons_succ]
                refine wpAnyH_take (i := 1) (oi := ({ dst := some 139, op := Op.move (Operand.tmp 138), type := 4, pos := "law.go:113", after := #[{ on := 0, ground := Ground.data }], guard := none } : Oper)) (v := ?_) rfl (by kernel_rfl) (by kernel_rfl) (by kernel_rfl) (fun _ _ _ h => h) (Or.inl ⟨rfl, ?_⟩) (by assumption) ?_
                rotate_left
                · intro wz hSw; (try dsimp only at hSw); go_simp; try with_reducible rfl
                try simp only [Act.put, List.setIfInBounds_toArray, List.set_cons_zero, List.set_cons_succ]
                refine wpAnyH_take (i := 2) (oi := ({ dst := some 140, op := Op.move (Operand.tmp 14), type := 22, pos := "law.go:113", after := #[{ on := 1, ground := Ground.guard }], guard := some (1, true) } : Oper)) (v := ?_) rfl (by kernel_rfl) (by kernel_rfl) (by kernel_rfl) (fun _ _ _ h => h) (Or.inl ⟨rfl, ?_⟩) (by assumption) ?_
                rotate_left
                · intro wz hSw; (try dsimp only at hSw); go_simp; try with_reducible rfl
                try simp only [Act.put, List.setIfInBounds_toArray, List.set_cons_zero, List.set_cons_succ]
                refine wpAnyH_take (i := 3) (oi := ({ dst := some 141, op := Op.move (Operand.tmp 16), type := 24, pos := "law.go:113", after := #[{ on := 1, ground := Ground.guard }], guard := some (1, true) } : Oper)) (v := ?_) rfl (by kernel_rfl) (by kernel_rfl) (by kernel_rfl) (fun _ _ _ h => h) (Or.inl ⟨rfl, ?_⟩) (by assumption) ?_
                rotate_left
                · intro wz hSw; (try dsimp only at hSw); go_simp; try with_reducible rfl
                try simp only [Act.put, List.setIfInBounds_toArray, List.set_cons_zero, List.set_cons_succ]
                refine wpAnyH_take (i := 4) (oi := ({ dst := some 142, op := Op.move (Operand.tmp 29), type := 25, pos := "law.go:113", after := #[{ on := 1, ground := Ground.guard }], guard := some (1, true) } : Oper)) (v := ?_) rfl (by kernel_rfl) (by kernel_rfl) (by kernel_rfl) (fun _ _ _ h => h) (Or.inl ⟨rfl, ?_⟩) (by assumption) ?_
                rotate_left
                · intro wz hSw; (try dsimp only at hSw); go_simp; try with_reducible rfl
                try simp only [Act.put, List.setIfInBounds_toArray, List.set_cons_zero, List.set_cons_succ]
                refine wpAnyH_take (i := 5) (oi := ({ dst := some 143, op := Op.load 40 (Operand.tmp 18), type := 40, pos := "law.go:113", after := #[{ on := 1, ground := Ground.guard }], guard := some (1, true) } : Oper)) (v := ?_) rfl (by kernel_rfl) (by kernel_rfl) (by kernel_rfl) (fun _ _ _ h => h) (Or.inl ⟨rfl, ?_⟩) (by assumption) ?_
                rotate_left
                · intro wz hSw; (try dsimp only at hSw); go_simp; try with_reducible rfl
                try simp only [Act.put, List.setIfInBounds_toArray, List.set_cons_zero, List.set_cons_succ]
                refine wpAnyH_take (i := 6) (oi := ({ dst := some 144, op := Op.build 44 #[(0, Operand.tmp 141), (1, Operand.tmp 142), (2, Operand.tmp 143)], type := 44, pos := "law.go:113", after := #[{ on := 3, ground := Ground.data }, { on := 4, ground := Ground.data }, { on := 5, ground := Ground.data }, { on := 1, ground := Ground.guard }], guard := some (1, true) } : Oper)) (v := ?_) rfl (by kernel_rfl) (by kernel_rfl) (by kernel_rfl) (fun _ _ _ h => h) (Or.inl ⟨rfl, ?_⟩) (by assumption) ?_
                rotate_left
                · intro wz hSw; (try dsimp only at hSw); go_simp; try with_reducible rfl
                try simp only [Act.put, List.setIfInBounds_toArray, List.set_cons_zero, List.set_cons_succ]
                refine wpAnyH_take (i := 8) (oi := ({ dst := some 146, op := Op.move (Operand.tmp 22), type := 4, pos := "law.go:113", after := #[{ on := 1, ground := Ground.guard }], guard := some (1, true) } : Oper)) (v := ?_) rfl (by kernel_rfl) (by kernel_rfl) (by kernel_rfl) (fun _ _ _ h => h) (Or.inl ⟨rfl, ?_⟩) (by assumption) ?_
                rotate_left
                · intro wz hSw; (try dsimp only at hSw); go_simp; try with_reducible rfl
                try simp only [Act.put, List.setIfInBounds_toArray, List.set_cons_zero, List.set_cons_succ]
                refine wpAnyH_ready (rs := [7]) (by kernel_rfl) (by simp) ?_
                refine AllReadyH.cons (o := ({ dst := some 145, op := Op.call { callee := Callee.value (Operand.func 21), args := #[Operand.tmp 140, Operand.tmp 144], argTypes := #[22, 44] }, type := 4, pos := "law.go:113", after := #[{ on := 2, ground := Ground.data }, { on := 6, ground := Ground.data }, { on := 1, ground := Ground.chain }, { on := 1, ground := Ground.guard }], guard := some (1, true) } : Oper)) rfl (fun K9 hK9 => ?_) AllReadyH.nil
                go_simp
                with_reducible refine c1.mono ?_
                rintro e wC ⟨rfl, bC'⟩
                have bC := hBd.trans (bC'.mono hBd.size)
                have hz1 := (qA.on bC).two
                have hKc := HKD.out.on bC
                go_wp2_with fail
                clear hHeld
                refine hK9.out _ _ hz1 (fun hHeld => ?_)
                clear hK9 K9
                try simp only [Act.put, List.setIfInBounds_toArray, List.set_cons_zero, List.set_cons_succ]
                refine wpAnyH_take (i := 9) (oi := ({ dst := some 147, op := Op.move (Operand.tmp 146), type := 4, pos := "law.go:113", after := #[{ on := 8, ground := Ground.data }, { on := 7, ground := Ground.chain }, { on := 1, ground := Ground.guard }], guard := some (1, true) } : Oper)) (v := ?_) rfl (by kernel_rfl) (by kernel_rfl) (by kernel_rfl) (fun _ _ _ h => h) (Or.inl ⟨rfl, ?_⟩) (by assumption) ?_
                rotate_left
                · intro wz hSw; (try dsimp only at hSw); go_simp; try with_reducible rfl
                try simp only [Act.put, List.setIfInBounds_toArray, List.set_cons_zero, List.set_cons_succ]
                refine wpAnyH_take (i := 10) (oi := ({ dst := some 148, op := Op.move (Operand.tmp 25), type := 4, pos := "law.go:113", after := #[{ on := 9, ground := Ground.guard }], guard := some (9, true) } : Oper)) (v := undef) rfl (by kernel_rfl) (by kernel_rfl) (by kernel_rfl) (fun _ _ _ h => h) (Or.inr ⟨rfl, rfl⟩) (by assumption) ?_
                try simp only [Act.put, List.setIfInBounds_toArray, List.set_cons_zero, List.set_cons_succ]
                refine wpAnyH_take (i := 11) (oi := ({ dst := some 149, op := Op.pick (Operand.tmp 147) (Operand.tmp 148) (Operand.const (Value.bool false)), type := 4, pos := "law.go:113", after := #[{ on := 9, ground := Ground.data }, { on := 10, ground := Ground.data }, { on := 1, ground := Ground.guard }], guard := some (1, true) } : Oper)) (v := ?_) rfl (by kernel_rfl) (by kernel_rfl) (by kernel_rfl) (fun _ _ _ h => h) (Or.inl ⟨rfl, ?_⟩) (by assumption) ?_
                rotate_left
                · intro wz hSw; (try dsimp only at hSw); go_simp; try with_reducible rfl
                try simp only [Act.put, List.setIfInBounds_toArray, List.set_cons_zero, List.set_cons_succ]
                refine wpAnyH_take (i := 12) (oi := ({ dst := some 150, op := Op.move (Operand.tmp 149), type := 4, pos := "law.go:113", after := #[{ on := 11, ground := Ground.data }, { on := 9, ground := Ground.chain }, { on := 1, ground := Ground.guard }], guard := some (1, true) } : Oper)) (v := ?_) rfl (by kernel_rfl) (by kernel_rfl) (by kernel_rfl) (fun _ _ _ h => h) (Or.inl ⟨rfl, ?_⟩) (by assumption) ?_
                rotate_left
                · intro wz hSw; (try dsimp only at hSw); go_simp; try with_reducible rfl
                try simp only [Act.put, List.setIfInBounds_toArray, List.set_cons_zero, List.set_cons_succ]
                refine wpAnyH_take (i := 13) (oi := ({ dst := some 151, op := Op.move (Operand.tmp 29), type := 25, pos := "law.go:113", after := #[{ on := 12, ground := Ground.guard }], guard := some (12, true) } : Oper)) (v := undef) rfl (by kernel_rfl) (by kernel_rfl) (by kernel_rfl) (fun _ _ _ h => h) (Or.inr ⟨rfl, rfl⟩) (by assumption) ?_
                try simp only [Act.put, List.setIfInBounds_toArray, List.set_cons_zero, List.set_cons_succ]
                refine wpAnyH_take (i := 14) (oi := ({ dst := some 152, op := Op.move (Operand.tmp 17), type := 25, pos := "law.go:113", after := #[{ on := 12, ground := Ground.guard }], guard := some (12, true) } : Oper)) (v := undef) rfl (by kernel_rfl) (by kernel_rfl) (by kernel_rfl) (fun _ _ _ h => h) (Or.inr ⟨rfl, rfl⟩) (by assumption) ?_
                try simp only [Act.put, List.setIfInBounds_toArray, List.set_cons_zero, List.set_cons_succ]
                refine wpAnyH_take (i := 15) (oi := ({ dst := some 153, op := Op.binOp BinOp.eql 25 (Operand.tmp 151) (Operand.tmp 152) 25, type := 4, pos := "law.go:113", after := #[{ on := 13, ground := Ground.data }, { on := 14, ground := Ground.data }, { on := 12, ground := Ground.guard }], guard := some (12, true) } : Oper)) (v := undef) rfl (by kernel_rfl) (by kernel_rfl) (by kernel_rfl) (fun _ _ _ h => h) (Or.inr ⟨rfl, rfl⟩) (by assumption) ?_
                try simp only [Act.put, List.setIfInBounds_toArray, List.set_cons_zero, List.set_cons_succ]
                refine wpAnyH_take (i := 16) (oi := ({ dst := some 154, op := Op.pick (Operand.tmp 150) (Operand.tmp 153) (Operand.const (Value.bool false)), type := 4, pos := "law.go:113", after := #[{ on := 12, ground := Ground.data }, { on := 15, ground := Ground.data }, { on := 1, ground := Ground.guard }], guard := some (1, true) } : Oper)) (v := ?_) rfl (by kernel_rfl) (by kernel_rfl) (by kernel_rfl) (fun _ _ _ h => h) (Or.inl ⟨rfl, ?_⟩) (by assumption) ?_
                rotate_left
                · intro wz hSw; (try dsimp only at hSw); go_simp; try with_reducible rfl
                try simp only [Act.put, List.setIfInBounds_toArray, List.set_cons_zero, List.set_cons_succ]
                refine wpAnyH_take (i := 17) (oi := ({ dst := some 155, op := Op.binOp BinOp.eql 4 (Operand.tmp 145) (Operand.tmp 154) 4, type := 4, pos := "law.go:113", after := #[{ on := 7, ground := Ground.data }, { on := 16, ground := Ground.data }, { on := 1, ground := Ground.guard }], guard := some (1, true) } : Oper)) (v := ?_) rfl (by kernel_rfl) (by kernel_rfl) (by kernel_rfl) (fun _ _ _ h => h) (Or.inl ⟨rfl, ?_⟩) (by assumption) ?_
                rotate_left
                · intro wz hSw; (try dsimp only at hSw); go_simp; try with_reducible rfl
                try simp only [Act.put, List.setIfInBounds_toArray, List.set_cons_zero, List.set_cons_succ]
                refine wpAnyH_take (i := 18) (oi := ({ dst := some 156, op := Op.pick (Operand.tmp 139) (Operand.tmp 155) (Operand.const (Value.bool false)), type := 4, pos := "law.go:113", after := #[{ on := 1, ground := Ground.data }, { on := 17, ground := Ground.data }], guard := none } : Oper)) (v := ?_) rfl (by kernel_rfl) (by kernel_rfl) (by kernel_rfl) (fun _ _ _ h => h) (Or.inl ⟨rfl, ?_⟩) (by assumption) ?_
                rotate_left
                · intro wz hSw; (try dsimp only at hSw); go_simp; try with_reducible rfl
                try simp only [Act.put, List.setIfInBounds_toArray, List.set_cons_zero, List.set_cons_succ]
                refine wpAnyH_take (i := 19) (oi := ({ dst := some 157, op := Op.move (Operand.tmp 156), type := 4, pos := "law.go:113", after := #[{ on := 18, ground := Ground.data }, { on := 12, ground := Ground.chain }], guard := none } : Oper)) (v := ?_) rfl (by kernel_rfl) (by kernel_rfl) (by kernel_rfl) (fun _ _ _ h => h) (Or.inl ⟨rfl, ?_⟩) (by assumption) ?_
                rotate_left
                · intro wz hSw; (try dsimp only at hSw); go_simp; try with_reducible rfl
                try simp only [Act.put, List.setIfInBounds_toArray, List.set_cons_zero, List.set_cons_succ]
                refine wpAnyH_take (i := 20) (oi := ({ dst := some 158, op := Op.move (Operand.tmp 14), type := 22, pos := "law.go:113", after := #[{ on := 19, ground := Ground.guard }], guard := some (19, true) } : Oper)) (v := ?_) rfl (by kernel_rfl) (by kernel_rfl) (by kernel_rfl) (fun _ _ _ h => h) (Or.inl ⟨rfl, ?_⟩) (by assumption) ?_
                rotate_left
                · intro wz hSw; (try dsimp only at hSw); go_simp; try with_reducible rfl
                try simp only [Act.put, List.setIfInBounds_toArray, List.set_cons_zero, List.set_cons_succ]
                refine wpAnyH_take (i := 21) (oi := ({ dst := some 159, op := Op.move (Operand.tmp 15), type := 24, pos := "law.go:113", after := #[{ on := 19, ground := Ground.guard }], guard := some (19, true) } : Oper)) (v := ?_) rfl (by kernel_rfl) (by kernel_rfl) (by kernel_rfl) (fun _ _ _ h => h) (Or.inl ⟨rfl, ?_⟩) (by assumption) ?_
                rotate_left
                · intro wz hSw; (try dsimp only at hSw); go_simp; try with_reducible rfl
                try simp only [Act.put, List.setIfInBounds_toArray, List.set_cons_zero, List.set_cons_succ]
                refine wpAnyH_take (i := 23) (oi := ({ dst := some 161, op := Op.move (Operand.tmp 15), type := 24, pos := "law.go:113", after := #[{ on := 19, ground := Ground.guard }], guard := some (19, true) } : Oper)) (v := ?_) rfl (by kernel_rfl) (by kernel_rfl) (by kernel_rfl) (fun _ _ _ h => h) (Or.inl ⟨rfl, ?_⟩) (by assumption) ?_
                rotate_left
                · intro wz hSw; (try dsimp only at hSw); go_simp; try with_reducible rfl
                try simp only [Act.put, List.setIfInBounds_toArray, List.set_cons_zero, List.set_cons_succ]
                refine wpAnyH_take (i := 25) (oi := ({ dst := some 163, op := Op.move (Operand.tmp 17), type := 25, pos := "law.go:113", after := #[{ on := 19, ground := Ground.guard }], guard := some (19, true) } : Oper)) (v := ?_) rfl (by kernel_rfl) (by kernel_rfl) (by kernel_rfl) (fun _ _ _ h => h) (Or.inl ⟨rfl, ?_⟩) (by assumption) ?_
                rotate_left
                · intro wz hSw; (try dsimp only at hSw); go_simp; try with_reducible rfl
                try simp only [Act.put, List.setIfInBounds_toArray, List.set_cons_zero, List.set_cons_succ]
                refine wpAnyH_take (i := 26) (oi := ({ dst := some 164, op := Op.load 40 (Operand.tmp 18), type := 40, pos := "law.go:113", after := #[{ on := 19, ground := Ground.guard }], guard := some (19, true) } : Oper)) (v := ?_) rfl (by kernel_rfl) (by kernel_rfl) (by kernel_rfl) (fun _ _ _ h => h) (Or.inl ⟨rfl, ?_⟩) (by assumption) ?_
                rotate_left
                · intro wz hSw; (try dsimp only at hSw); go_simp; try with_reducible rfl
                try simp only [Act.put, List.setIfInBounds_toArray, List.set_cons_zero, List.set_cons_succ]
                refine wpAnyH_ready (rs := [22]) (by kernel_rfl) (by simp) ?_
                refine AllReadyH.cons (o := ({ dst := some 160, op := Op.call { callee := Callee.builtin Builtin.append, args := #[Operand.const (Value.slice none 0 0), Operand.tmp 159], argTypes := #[24, 24] }, type := 24, pos := "law.go:113", after := #[{ on := 21, ground := Ground.data }, { on := 19, ground := Ground.chain }, { on := 19, ground := Ground.guard }], guard := some (19, true) } : Oper)) rfl (fun K9 hK9 => ?_) AllReadyH.nil
                refine step_append_guarded rfl _ _ 24 rfl _ 25 i0 (.int .u64 0) 1 8 Try.underlying24 hi hy0 hy1 hy2 rfl (by decide) (.slice none 0 0) 0 [] rfl (World.ownsRow_nil _ _ _ _) K ks.length kc (ks.map wv) rfl (by rw [List.length_map, Nat.mul_one]) (hKc.news rfl) (words_one _) (by unfold maxLen; omega) (by omega) (Nat.le_refl _) ?_
                intro S1 cap1 wA own1 grow1
                simp only [Nat.zero_add, List.nil_append] at own1 ⊢
                have hB1 : Below wq.heap.size wq wA := Below.grown bC grow1 bC.size (fun k h => by cases h)
                have hz2 := (qA.on hB1).two
                have hKa := HKD.out.on hB1
                have ob1 : ∀ k, (Value.slice S1 ks.length cap1).ownBlock = some k → wq.heap.size ≤ k := fun k h => Nat.le_trans bC.size (own1.lt k h).1
                clear hHeld
                refine hK9.out _ _ hz2 (fun hHeld => ?_)
                clear hK9 K9
                try simp only [Act.put, List.setIfInBounds_toArray, List.set_cons_zero, List.set_cons_succ]
                refine wpAnyH_ready (rs := [24]) (by kernel_rfl) (by simp) ?_
                refine AllReadyH.cons (o := ({ dst := some 162, op := Op.call { callee := Callee.builtin Builtin.append, args := #[Operand.tmp 160, Operand.tmp 161], argTypes := #[24, 24] }, type := 24, pos := "law.go:113", after := #[{ on := 22, ground := Ground.data }, { on := 23, ground := Ground.data }, { on := 22, ground := Ground.chain }, { on := 19, ground := Ground.guard }], guard := some (19, true) } : Oper)) rfl (fun K9 hK9 => ?_) AllReadyH.nil
                refine step_append_guarded rfl _ _ 24 rfl _ 25 i0 (.int .u64 0) 1 8 Try.underlying24 hi hy0 hy1 hy2 rfl (by decide) (.slice S1 ks.length cap1) ks.length _ rfl own1 K ks.length kc (ks.map wv) rfl (by rw [List.length_map, Nat.mul_one]) (hKa.news rfl) (words_one _) (by unfold maxLen; omega) (by omega) grow1.size ?_
                intro S2 cap2 wB own2 grow2
                have hB2 : Below wq.heap.size wq wB := Below.grown hB1 grow2 hB1.size ob1
                have hz3 := (qA.on hB2).two
                have own2' := own2
                rw [← List.map_append] at own2'
                have trx := words_own own2' (by rw [List.length_append])
                have c2 := Check_eq A S2 SA t.length c (ks.length + ks.length) cap2 l.length sa t l (ks ++ ks) r false false HCD.out (by rw [List.length_append]) rfl wB (hT.on hB2) trx (hA.on hB2) hfitD (by omega) (by rw [List.length_append]; omega) (by omega)
                clear hHeld
                refine hK9.out _ _ hz3 (fun hHeld => ?_)
                clear hK9 K9
                try simp only [Act.put, List.setIfInBounds_toArray, List.set_cons_zero, List.set_cons_succ]
                refine wpAnyH_take (i := 27) (oi := ({ dst := some 165, op := Op.build 44 #[(0, Operand.tmp 162), (1, Operand.tmp 163), (2, Operand.tmp 164)], type := 44, pos := "law.go:113", after := #[{ on := 24, ground := Ground.data }, { on := 25, ground := Ground.data }, { on := 26, ground := Ground.data }, { on := 19, ground := Ground.guard }], guard := some (19, true) } : Oper)) (v := ?_) rfl (by kernel_rfl) (by kernel_rfl) (by kernel_rfl) (fun _ _ _ h => h) (Or.inl ⟨rfl, ?_⟩) (by assumption) ?_
                rotate_left
                · intro wz hSw; (try dsimp only at hSw); go_simp; try with_reducible rfl
                try simp only [Act.put, List.setIfInBounds_toArray, List.set_cons_zero, List.set_cons_succ]
                refine wpAnyH_ready (rs := [28]) (by kernel_rfl) (by simp) ?_
                refine AllReadyH.cons (o := ({ dst := some 166, op := Op.call { callee := Callee.value (Operand.func 21), args := #[Operand.tmp 158, Operand.tmp 165], argTypes := #[22, 44] }, type := 4, pos := "law.go:113", after := #[{ on := 20, ground := Ground.data }, { on := 27, ground := Ground.data }, { on := 24, ground := Ground.chain }, { on := 19, ground := Ground.guard }], guard := some (19, true) } : Oper)) rfl (fun K9 hK9 => ?_) AllReadyH.nil
                go_simp
                with_reducible refine c2.mono ?_
                rintro e wE ⟨rfl, bE'⟩
                have bE := hB2.trans (bE'.mono hB2.size)
                have hz4 := (qA.on bE).two
                go_wp2_with fail
                clear hHeld
                refine hK9.out _ _ hz4 (fun hHeld => ?_)
                clear hK9 K9
                try simp only [Act.put, List.setIfInBounds_toArray, List.set_cons_zero, List.set_cons_succ]
                refine wpAnyH_take (i := 29) (oi := ({ dst := some 167, op := Op.unOp UnOp.not 4 (Operand.tmp 166), type := 4, pos := "law.go:113", after := #[{ on := 28, ground := Ground.data }, { on := 19, ground := Ground.guard }], guard := some (19, true) } : Oper)) (v := ?_) rfl (by kernel_rfl) (by kernel_rfl) (by kernel_rfl) (fun _ _ _ h => h) (Or.inl ⟨rfl, ?_⟩) (by assumption) ?_
                rotate_left
                · intro wz hSw; (try dsimp only at hSw); go_simp; try with_reducible rfl
                try simp only [Act.put, List.setIfInBounds_toArray, List.set_cons_zero, List.set_cons_succ]
                refine wpAnyH_take (i := 30) (oi := ({ dst := some 168, op := Op.pick (Operand.tmp 157) (Operand.tmp 167) (Operand.const (Value.bool false)), type := 4, pos := "law.go:113", after := #[{ on := 19, ground := Ground.data }, { on := 29, ground := Ground.data }], guard := none } : Oper)) (v := ?_) rfl (by kernel_rfl) (by kernel_rfl) (by kernel_rfl) (fun _ _ _ h => h) (Or.inl ⟨rfl, ?_⟩) (by assumption) ?_
                rotate_left
                · intro wz hSw; (try dsimp only at hSw); go_simp; try with_reducible rfl
                try simp only [Act.put, List.setIfInBounds_toArray, List.set_cons_zero, List.set_cons_succ]
                refine wpAnyH_take (i := 31) (oi := ({ dst := some 12, op := Op.assign (Operand.tmp 168), type := 4, pos := "law.go:113", after := #[{ on := 30, ground := Ground.data }, { on := 28, ground := Ground.chain }, { on := 0, ground := Ground.phase }, { on := 1, ground := Ground.phase }, { on := 2, ground := Ground.phase }, { on := 3, ground := Ground.phase }, { on := 4, ground := Ground.phase }, { on := 5, ground := Ground.phase }, { on := 6, ground := Ground.phase }, { on := 7, ground := Ground.phase }, { on := 8, ground := Ground.phase }, { on := 9, ground := Ground.phase }, { on := 10, ground := Ground.phase }, { on := 11, ground := Ground.phase }, { on := 12, ground := Ground.phase }, { on := 13, ground := Ground.phase }, { on := 14, ground := Ground.phase }, { on := 15, ground := Ground.phase }, { on := 16, ground := Ground.phase }, { on := 17, ground := Ground.phase }, { on := 18, ground := Ground.phase }, { on := 19, ground := Ground.phase }, { on := 20, ground := Ground.phase }, { on := 21, ground := Ground.phase }, { on := 22, ground := Ground.phase }, { on := 23, ground := Ground.phase }, { on := 24, ground := Ground.phase }, { on := 25, ground := Ground.phase }, { on := 26, ground := Ground.phase }, { on := 27, ground := Ground.phase }, { on := 28, ground := Ground.phase }, { on := 29, ground := Ground.phase }, { on := 30, ground := Ground.phase }], guard := none } : Oper)) (v := ?_) rfl (by kernel_rfl) (by kernel_rfl) (by kernel_rfl) (fun _ _ _ h => h) (Or.inl ⟨rfl, ?_⟩) (by assumption) ?_
                rotate_left
                · intro wz hSw; (try dsimp only at hSw); go_simp; try with_reducible rfl
                try simp only [Act.put, List.setIfInBounds_toArray, List.set_cons_zero, List.set_cons_succ]
                refine wpAnyH_done (by kernel_rfl) ?_ _
                all_goals
                  go_simp
                  go_wp2_with fail
                  go_ret
                  exact ⟨rfl, BQ.trans (bE.mono BQ.size)⟩
              · go_upto_region 28 with (fail)
                have hBd : Below wq.heap.size wq wq.drew := (Below.refl _ _).drew
                have hz0 := qA.two
                have c1 := Check_eq A O SA t.length c os.length oc l.length sa t l os z false false hX rfl rfl _ (hT.on hBd) (hO.on hBd) (hA.on hBd) hfitO (by omega) (by omega) (by omega)
                have hfitD : ∀ x ∈ ks ++ ks, x < 18446744073709551616 := fun x hx => by
                  rcases List.mem_append.1 hx with h | h <;> exact hfit x h
                obtain ⟨y0, y1⟩ := hz0
                have HKD := Lib.hid hK
                clear hK
                refine wp_region_held_drew (S := (fun w' => w'.cell? ⟨gA, 0, none⟩ = some (.bool false) ∧ w'.cell? ⟨gA, 1, none⟩ = some (.slice SA l.length sa))) (by kernel_rfl) (qA.on hBd).two (fun hHeld => ?_)
                refine wpAnyH_take (i := 0) (oi := ({ dst := some 138, op := Op.move (Operand.tmp 13), type := 4, pos := "law.go:113", after := #[], guard := none } : Oper)) (v := ?_) rfl (by kernel_rfl) (by kernel_rfl) (by kernel_rfl) (fun _ _ _ h => h) (Or.inl ⟨rfl, ?_⟩) (by assumption) ?_
                rotate_left
                · intro wz hSw; (try dsimp only at hSw); go_simp; try with_reducible rfl
                try simp only [Act.put, List.setIfInBounds_toArray, List.set_cons_zero, List.set_cons_succ]
                refine wpAnyH_take (i := 1) (oi := ({ dst := some 139, op := Op.move (Operand.tmp 138), type := 4, pos := "law.go:113", after := #[{ on := 0, ground := Ground.data }], guard := none } : Oper)) (v := ?_) rfl (by kernel_rfl) (by kernel_rfl) (by kernel_rfl) (fun _ _ _ h => h) (Or.inl ⟨rfl, ?_⟩) (by assumption) ?_
                rotate_left
                · intro wz hSw; (try dsimp only at hSw); go_simp; try with_reducible rfl
                try simp only [Act.put, List.setIfInBounds_toArray, List.set_cons_zero, List.set_cons_succ]
                refine wpAnyH_take (i := 2) (oi := ({ dst := some 140, op := Op.move (Operand.tmp 14), type := 22, pos := "law.go:113", after := #[{ on := 1, ground := Ground.guard }], guard := some (1, true) } : Oper)) (v := ?_) rfl (by kernel_rfl) (by kernel_rfl) (by kernel_rfl) (fun _ _ _ h => h) (Or.inl ⟨rfl, ?_⟩) (by assumption) ?_
                rotate_left
                · intro wz hSw; (try dsimp only at hSw); go_simp; try with_reducible rfl
                try simp only [Act.put, List.setIfInBounds_toArray, List.set_cons_zero, List.set_cons_succ]
                refine wpAnyH_take (i := 3) (oi := ({ dst := some 141, op := Op.move (Operand.tmp 16), type := 24, pos := "law.go:113", after := #[{ on := 1, ground := Ground.guard }], guard := some (1, true) } : Oper)) (v := ?_) rfl (by kernel_rfl) (by kernel_rfl) (by kernel_rfl) (fun _ _ _ h => h) (Or.inl ⟨rfl, ?_⟩) (by assumption) ?_
                rotate_left
                · intro wz hSw; (try dsimp only at hSw); go_simp; try with_reducible rfl
                try simp only [Act.put, List.setIfInBounds_toArray, List.set_cons_zero, List.set_cons_succ]
                refine wpAnyH_take (i := 4) (oi := ({ dst := some 142, op := Op.move (Operand.tmp 29), type := 25, pos := "law.go:113", after := #[{ on := 1, ground := Ground.guard }], guard := some (1, true) } : Oper)) (v := ?_) rfl (by kernel_rfl) (by kernel_rfl) (by kernel_rfl) (fun _ _ _ h => h) (Or.inl ⟨rfl, ?_⟩) (by assumption) ?_
                rotate_left
                · intro wz hSw; (try dsimp only at hSw); go_simp; try with_reducible rfl
                try simp only [Act.put, List.setIfInBounds_toArray, List.set_cons_zero, List.set_cons_succ]
                refine wpAnyH_take (i := 5) (oi := ({ dst := some 143, op := Op.load 40 (Operand.tmp 18), type := 40, pos := "law.go:113", after := #[{ on := 1, ground := Ground.guard }], guard := some (1, true) } : Oper)) (v := ?_) rfl (by kernel_rfl) (by kernel_rfl) (by kernel_rfl) (fun _ _ _ h => h) (Or.inl ⟨rfl, ?_⟩) (by assumption) ?_
                rotate_left
                · intro wz hSw; (try dsimp only at hSw); go_simp; try with_reducible rfl
                try simp only [Act.put, List.setIfInBounds_toArray, List.set_cons_zero, List.set_cons_succ]
                refine wpAnyH_take (i := 6) (oi := ({ dst := some 144, op := Op.build 44 #[(0, Operand.tmp 141), (1, Operand.tmp 142), (2, Operand.tmp 143)], type := 44, pos := "law.go:113", after := #[{ on := 3, ground := Ground.data }, { on := 4, ground := Ground.data }, { on := 5, ground := Ground.data }, { on := 1, ground := Ground.guard }], guard := some (1, true) } : Oper)) (v := ?_) rfl (by kernel_rfl) (by kernel_rfl) (by kernel_rfl) (fun _ _ _ h => h) (Or.inl ⟨rfl, ?_⟩) (by assumption) ?_
                rotate_left
                · intro wz hSw; (try dsimp only at hSw); go_simp; try with_reducible rfl
                try simp only [Act.put, List.setIfInBounds_toArray, List.set_cons_zero, List.set_cons_succ]
                refine wpAnyH_take (i := 8) (oi := ({ dst := some 146, op := Op.move (Operand.tmp 22), type := 4, pos := "law.go:113", after := #[{ on := 1, ground := Ground.guard }], guard := some (1, true) } : Oper)) (v := ?_) rfl (by kernel_rfl) (by kernel_rfl) (by kernel_rfl) (fun _ _ _ h => h) (Or.inl ⟨rfl, ?_⟩) (by assumption) ?_
                rotate_left
                · intro wz hSw; (try dsimp only at hSw); go_simp; try with_reducible rfl
                try simp only [Act.put, List.setIfInBounds_toArray, List.set_cons_zero, List.set_cons_succ]
                refine wpAnyH_ready (rs := [7]) (by kernel_rfl) (by simp) ?_
                refine AllReadyH.cons (o := ({ dst := some 145, op := Op.call { callee := Callee.value (Operand.func 21), args := #[Operand.tmp 140, Operand.tmp 144], argTypes := #[22, 44] }, type := 4, pos := "law.go:113", after := #[{ on := 2, ground := Ground.data }, { on := 6, ground := Ground.data }, { on := 1, ground := Ground.chain }, { on := 1, ground := Ground.guard }], guard := some (1, true) } : Oper)) rfl (fun K9 hK9 => ?_) AllReadyH.nil
                go_simp
                with_reducible refine c1.mono ?_
                rintro e wC ⟨rfl, bC'⟩
                have bC := hBd.trans (bC'.mono hBd.size)
                have hz1 := (qA.on bC).two
                have hKc := HKD.out.on bC
                go_wp2_with fail
                clear hHeld
                refine hK9.out _ _ hz1 (fun hHeld => ?_)
                clear hK9 K9
                try simp only [Act.put, List.setIfInBounds_toArray, List.set_cons_zero, List.set_cons_succ]
                refine wpAnyH_take (i := 9) (oi := ({ dst := some 147, op := Op.move (Operand.tmp 146), type := 4, pos := "law.go:113", after := #[{ on := 8, ground := Ground.data }, { on := 7, ground := Ground.chain }, { on := 1, ground := Ground.guard }], guard := some (1, true) } : Oper)) (v := ?_) rfl (by kernel_rfl) (by kernel_rfl) (by kernel_rfl) (fun _ _ _ h => h) (Or.inl ⟨rfl, ?_⟩) (by assumption) ?_
                rotate_left
                · intro wz hSw; (try dsimp only at hSw); go_simp; try with_reducible rfl
                try simp only [Act.put, List.setIfInBounds_toArray, List.set_cons_zero, List.set_cons_succ]
                refine wpAnyH_take (i := 10) (oi := ({ dst := some 148, op := Op.move (Operand.tmp 25), type := 4, pos := "law.go:113", after := #[{ on := 9, ground := Ground.guard }], guard := some (9, true) } : Oper)) (v := ?_) rfl (by kernel_rfl) (by kernel_rfl) (by kernel_rfl) (fun _ _ _ h => h) (Or.inl ⟨rfl, ?_⟩) (by assumption) ?_
                rotate_left
                · intro wz hSw; (try dsimp only at hSw); go_simp; try with_reducible rfl
                try simp only [Act.put, List.setIfInBounds_toArray, List.set_cons_zero, List.set_cons_succ]
                refine wpAnyH_take (i := 11) (oi := ({ dst := some 149, op := Op.pick (Operand.tmp 147) (Operand.tmp 148) (Operand.const (Value.bool false)), type := 4, pos := "law.go:113", after := #[{ on := 9, ground := Ground.data }, { on := 10, ground := Ground.data }, { on := 1, ground := Ground.guard }], guard := some (1, true) } : Oper)) (v := ?_) rfl (by kernel_rfl) (by kernel_rfl) (by kernel_rfl) (fun _ _ _ h => h) (Or.inl ⟨rfl, ?_⟩) (by assumption) ?_
                rotate_left
                · intro wz hSw; (try dsimp only at hSw); go_simp; try with_reducible rfl
                try simp only [Act.put, List.setIfInBounds_toArray, List.set_cons_zero, List.set_cons_succ]
                refine wpAnyH_take (i := 12) (oi := ({ dst := some 150, op := Op.move (Operand.tmp 149), type := 4, pos := "law.go:113", after := #[{ on := 11, ground := Ground.data }, { on := 9, ground := Ground.chain }, { on := 1, ground := Ground.guard }], guard := some (1, true) } : Oper)) (v := ?_) rfl (by kernel_rfl) (by kernel_rfl) (by kernel_rfl) (fun _ _ _ h => h) (Or.inl ⟨rfl, ?_⟩) (by assumption) ?_
                rotate_left
                · intro wz hSw; (try dsimp only at hSw); go_simp; try with_reducible rfl
                try simp only [Act.put, List.setIfInBounds_toArray, List.set_cons_zero, List.set_cons_succ]
                refine wpAnyH_take (i := 13) (oi := ({ dst := some 151, op := Op.move (Operand.tmp 29), type := 25, pos := "law.go:113", after := #[{ on := 12, ground := Ground.guard }], guard := some (12, true) } : Oper)) (v := undef) rfl (by kernel_rfl) (by kernel_rfl) (by kernel_rfl) (fun _ _ _ h => h) (Or.inr ⟨rfl, rfl⟩) (by assumption) ?_
                try simp only [Act.put, List.setIfInBounds_toArray, List.set_cons_zero, List.set_cons_succ]
                refine wpAnyH_take (i := 14) (oi := ({ dst := some 152, op := Op.move (Operand.tmp 17), type := 25, pos := "law.go:113", after := #[{ on := 12, ground := Ground.guard }], guard := some (12, true) } : Oper)) (v := undef) rfl (by kernel_rfl) (by kernel_rfl) (by kernel_rfl) (fun _ _ _ h => h) (Or.inr ⟨rfl, rfl⟩) (by assumption) ?_
                try simp only [Act.put, List.setIfInBounds_toArray, List.set_cons_zero, List.set_cons_succ]
                refine wpAnyH_take (i := 15) (oi := ({ dst := some 153, op := Op.binOp BinOp.eql 25 (Operand.tmp 151) (Operand.tmp 152) 25, type := 4, pos := "law.go:113", after := #[{ on := 13, ground := Ground.data }, { on := 14, ground := Ground.data }, { on := 12, ground := Ground.guard }], guard := some (12, true) } : Oper)) (v := undef) rfl (by kernel_rfl) (by kernel_rfl) (by kernel_rfl) (fun _ _ _ h => h) (Or.inr ⟨rfl, rfl⟩) (by assumption) ?_
                try simp only [Act.put, List.setIfInBounds_toArray, List.set_cons_zero, List.set_cons_succ]
                refine wpAnyH_take (i := 16) (oi := ({ dst := some 154, op := Op.pick (Operand.tmp 150) (Operand.tmp 153) (Operand.const (Value.bool false)), type := 4, pos := "law.go:113", after := #[{ on := 12, ground := Ground.data }, { on := 15, ground := Ground.data }, { on := 1, ground := Ground.guard }], guard := some (1, true) } : Oper)) (v := ?_) rfl (by kernel_rfl) (by kernel_rfl) (by kernel_rfl) (fun _ _ _ h => h) (Or.inl ⟨rfl, ?_⟩) (by assumption) ?_
                rotate_left
                · intro wz hSw; (try dsimp only at hSw); go_simp; try with_reducible rfl
                try simp only [Act.put, List.setIfInBounds_toArray, List.set_cons_zero, List.set_cons_succ]
                refine wpAnyH_take (i := 17) (oi := ({ dst := some 155, op := Op.binOp BinOp.eql 4 (Operand.tmp 145) (Operand.tmp 154) 4, type := 4, pos := "law.go:113", after := #[{ on := 7, ground := Ground.data }, { on := 16, ground := Ground.data }, { on := 1, ground := Ground.guard }], guard := some (1, true) } : Oper)) (v := ?_) rfl (by kernel_rfl) (by kernel_rfl) (by kernel_rfl) (fun _ _ _ h => h) (Or.inl ⟨rfl, ?_⟩) (by assumption) ?_
                rotate_left
                · intro wz hSw; (try dsimp only at hSw); go_simp; try with_reducible rfl
                try simp only [Act.put, List.setIfInBounds_toArray, List.set_cons_zero, List.set_cons_succ]
                refine wpAnyH_take (i := 18) (oi := ({ dst := some 156, op := Op.pick (Operand.tmp 139) (Operand.tmp 155) (Operand.const (Value.bool false)), type := 4, pos := "law.go:113", after := #[{ on := 1, ground := Ground.data }, { on := 17, ground := Ground.data }], guard := none } : Oper)) (v := ?_) rfl (by kernel_rfl) (by kernel_rfl) (by kernel_rfl) (fun _ _ _ h => h) (Or.inl ⟨rfl, ?_⟩) (by assumption) ?_
                rotate_left
                · intro wz hSw; (try dsimp only at hSw); go_simp; try with_reducible rfl
                try simp only [Act.put, List.setIfInBounds_toArray, List.set_cons_zero, List.set_cons_succ]
                refine wpAnyH_take (i := 19) (oi := ({ dst := some 157, op := Op.move (Operand.tmp 156), type := 4, pos := "law.go:113", after := #[{ on := 18, ground := Ground.data }, { on := 12, ground := Ground.chain }], guard := none } : Oper)) (v := ?_) rfl (by kernel_rfl) (by kernel_rfl) (by kernel_rfl) (fun _ _ _ h => h) (Or.inl ⟨rfl, ?_⟩) (by assumption) ?_
                rotate_left
                · intro wz hSw; (try dsimp only at hSw); go_simp; try with_reducible rfl
                try simp only [Act.put, List.setIfInBounds_toArray, List.set_cons_zero, List.set_cons_succ]
                refine wpAnyH_take (i := 20) (oi := ({ dst := some 158, op := Op.move (Operand.tmp 14), type := 22, pos := "law.go:113", after := #[{ on := 19, ground := Ground.guard }], guard := some (19, true) } : Oper)) (v := ?_) rfl (by kernel_rfl) (by kernel_rfl) (by kernel_rfl) (fun _ _ _ h => h) (Or.inl ⟨rfl, ?_⟩) (by assumption) ?_
                rotate_left
                · intro wz hSw; (try dsimp only at hSw); go_simp; try with_reducible rfl
                try simp only [Act.put, List.setIfInBounds_toArray, List.set_cons_zero, List.set_cons_succ]
                refine wpAnyH_take (i := 21) (oi := ({ dst := some 159, op := Op.move (Operand.tmp 15), type := 24, pos := "law.go:113", after := #[{ on := 19, ground := Ground.guard }], guard := some (19, true) } : Oper)) (v := ?_) rfl (by kernel_rfl) (by kernel_rfl) (by kernel_rfl) (fun _ _ _ h => h) (Or.inl ⟨rfl, ?_⟩) (by assumption) ?_
                rotate_left
                · intro wz hSw; (try dsimp only at hSw); go_simp; try with_reducible rfl
                try simp only [Act.put, List.setIfInBounds_toArray, List.set_cons_zero, List.set_cons_succ]
                refine wpAnyH_take (i := 23) (oi := ({ dst := some 161, op := Op.move (Operand.tmp 15), type := 24, pos := "law.go:113", after := #[{ on := 19, ground := Ground.guard }], guard := some (19, true) } : Oper)) (v := ?_) rfl (by kernel_rfl) (by kernel_rfl) (by kernel_rfl) (fun _ _ _ h => h) (Or.inl ⟨rfl, ?_⟩) (by assumption) ?_
                rotate_left
                · intro wz hSw; (try dsimp only at hSw); go_simp; try with_reducible rfl
                try simp only [Act.put, List.setIfInBounds_toArray, List.set_cons_zero, List.set_cons_succ]
                refine wpAnyH_take (i := 25) (oi := ({ dst := some 163, op := Op.move (Operand.tmp 17), type := 25, pos := "law.go:113", after := #[{ on := 19, ground := Ground.guard }], guard := some (19, true) } : Oper)) (v := ?_) rfl (by kernel_rfl) (by kernel_rfl) (by kernel_rfl) (fun _ _ _ h => h) (Or.inl ⟨rfl, ?_⟩) (by assumption) ?_
                rotate_left
                · intro wz hSw; (try dsimp only at hSw); go_simp; try with_reducible rfl
                try simp only [Act.put, List.setIfInBounds_toArray, List.set_cons_zero, List.set_cons_succ]
                refine wpAnyH_take (i := 26) (oi := ({ dst := some 164, op := Op.load 40 (Operand.tmp 18), type := 40, pos := "law.go:113", after := #[{ on := 19, ground := Ground.guard }], guard := some (19, true) } : Oper)) (v := ?_) rfl (by kernel_rfl) (by kernel_rfl) (by kernel_rfl) (fun _ _ _ h => h) (Or.inl ⟨rfl, ?_⟩) (by assumption) ?_
                rotate_left
                · intro wz hSw; (try dsimp only at hSw); go_simp; try with_reducible rfl
                try simp only [Act.put, List.setIfInBounds_toArray, List.set_cons_zero, List.set_cons_succ]
                refine wpAnyH_ready (rs := [22]) (by kernel_rfl) (by simp) ?_
                refine AllReadyH.cons (o := ({ dst := some 160, op := Op.call { callee := Callee.builtin Builtin.append, args := #[Operand.const (Value.slice none 0 0), Operand.tmp 159], argTypes := #[24, 24] }, type := 24, pos := "law.go:113", after := #[{ on := 21, ground := Ground.data }, { on := 19, ground := Ground.chain }, { on := 19, ground := Ground.guard }], guard := some (19, true) } : Oper)) rfl (fun K9 hK9 => ?_) AllReadyH.nil
                refine step_append_guarded rfl _ _ 24 rfl _ 25 i0 (.int .u64 0) 1 8 Try.underlying24 hi hy0 hy1 hy2 rfl (by decide) (.slice none 0 0) 0 [] rfl (World.ownsRow_nil _ _ _ _) K ks.length kc (ks.map wv) rfl (by rw [List.length_map, Nat.mul_one]) (hKc.news rfl) (words_one _) (by unfold maxLen; omega) (by omega) (Nat.le_refl _) ?_
                intro S1 cap1 wA own1 grow1
                simp only [Nat.zero_add, List.nil_append] at own1 ⊢
                have hB1 : Below wq.heap.size wq wA := Below.grown bC grow1 bC.size (fun k h => by cases h)
                have hz2 := (qA.on hB1).two
                have hKa := HKD.out.on hB1
                have ob1 : ∀ k, (Value.slice S1 ks.length cap1).ownBlock = some k → wq.heap.size ≤ k := fun k h => Nat.le_trans bC.size (own1.lt k h).1
                clear hHeld
                refine hK9.out _ _ hz2 (fun hHeld => ?_)
                clear hK9 K9
                try simp only [Act.put, List.setIfInBounds_toArray, List.set_cons_zero, List.set_cons_succ]
                refine wpAnyH_ready (rs := [24]) (by kernel_rfl) (by simp) ?_
                refine AllReadyH.cons (o := ({ dst := some 162, op := Op.call { callee := Callee.builtin Builtin.append, args := #[Operand.tmp 160, Operand.tmp 161], argTypes := #[24, 24] }, type := 24, pos := "law.go:113", after := #[{ on := 22, ground := Ground.data }, { on := 23, ground := Ground.data }, { on := 22, ground := Ground.chain }, { on := 19, ground := Ground.guard }], guard := some (19, true) } : Oper)) rfl (fun K9 hK9 => ?_) AllReadyH.nil
                refine step_append_guarded rfl _ _ 24 rfl _ 25 i0 (.int .u64 0) 1 8 Try.underlying24 hi hy0 hy1 hy2 rfl (by decide) (.slice S1 ks.length cap1) ks.length _ rfl own1 K ks.length kc (ks.map wv) rfl (by rw [List.length_map, Nat.mul_one]) (hKa.news rfl) (words_one _) (by unfold maxLen; omega) (by omega) grow1.size ?_
                intro S2 cap2 wB own2 grow2
                have hB2 : Below wq.heap.size wq wB := Below.grown hB1 grow2 hB1.size ob1
                have hz3 := (qA.on hB2).two
                have own2' := own2
                rw [← List.map_append] at own2'
                have trx := words_own own2' (by rw [List.length_append])
                have c2 := Check_eq A S2 SA t.length c (ks.length + ks.length) cap2 l.length sa t l (ks ++ ks) r false false HCD.out (by rw [List.length_append]) rfl wB (hT.on hB2) trx (hA.on hB2) hfitD (by omega) (by rw [List.length_append]; omega) (by omega)
                clear hHeld
                refine hK9.out _ _ hz3 (fun hHeld => ?_)
                clear hK9 K9
                try simp only [Act.put, List.setIfInBounds_toArray, List.set_cons_zero, List.set_cons_succ]
                refine wpAnyH_take (i := 27) (oi := ({ dst := some 165, op := Op.build 44 #[(0, Operand.tmp 162), (1, Operand.tmp 163), (2, Operand.tmp 164)], type := 44, pos := "law.go:113", after := #[{ on := 24, ground := Ground.data }, { on := 25, ground := Ground.data }, { on := 26, ground := Ground.data }, { on := 19, ground := Ground.guard }], guard := some (19, true) } : Oper)) (v := ?_) rfl (by kernel_rfl) (by kernel_rfl) (by kernel_rfl) (fun _ _ _ h => h) (Or.inl ⟨rfl, ?_⟩) (by assumption) ?_
                rotate_left
                · intro wz hSw; (try dsimp only at hSw); go_simp; try with_reducible rfl
                try simp only [Act.put, List.setIfInBounds_toArray, List.set_cons_zero, List.set_cons_succ]
                refine wpAnyH_ready (rs := [28]) (by kernel_rfl) (by simp) ?_
                refine AllReadyH.cons (o := ({ dst := some 166, op := Op.call { callee := Callee.value (Operand.func 21), args := #[Operand.tmp 158, Operand.tmp 165], argTypes := #[22, 44] }, type := 4, pos := "law.go:113", after := #[{ on := 20, ground := Ground.data }, { on := 27, ground := Ground.data }, { on := 24, ground := Ground.chain }, { on := 19, ground := Ground.guard }], guard := some (19, true) } : Oper)) rfl (fun K9 hK9 => ?_) AllReadyH.nil
                go_simp
                with_reducible refine c2.mono ?_
                rintro e wE ⟨rfl, bE'⟩
                have bE := hB2.trans (bE'.mono hB2.size)
                have hz4 := (qA.on bE).two
                go_wp2_with fail
                clear hHeld
                refine hK9.out _ _ hz4 (fun hHeld => ?_)
                clear hK9 K9
                try simp only [Act.put, List.setIfInBounds_toArray, List.set_cons_zero, List.set_cons_succ]
                refine wpAnyH_take (i := 29) (oi := ({ dst := some 167, op := Op.unOp UnOp.not 4 (Operand.tmp 166), type := 4, pos := "law.go:113", after := #[{ on := 28, ground := Ground.data }, { on := 19, ground := Ground.guard }], guard := some (19, true) } : Oper)) (v := ?_) rfl (by kernel_rfl) (by kernel_rfl) (by kernel_rfl) (fun _ _ _ h => h) (Or.inl ⟨rfl, ?_⟩) (by assumption) ?_
                rotate_left
                · intro wz hSw; (try dsimp only at hSw); go_simp; try with_reducible rfl
                try simp only [Act.put, List.setIfInBounds_toArray, List.set_cons_zero, List.set_cons_succ]
                refine wpAnyH_take (i := 30) (oi := ({ dst := some 168, op := Op.pick (Operand.tmp 157) (Operand.tmp 167) (Operand.const (Value.bool false)), type := 4, pos := "law.go:113", after := #[{ on := 19, ground := Ground.data }, { on := 29, ground := Ground.data }], guard := none } : Oper)) (v := ?_) rfl (by kernel_rfl) (by kernel_rfl) (by kernel_rfl) (fun _ _ _ h => h) (Or.inl ⟨rfl, ?_⟩) (by assumption) ?_
                rotate_left
                · intro wz hSw; (try dsimp only at hSw); go_simp; try with_reducible rfl
                try simp only [Act.put, List.setIfInBounds_toArray, List.set_cons_zero, List.set_cons_succ]
                refine wpAnyH_take (i := 31) (oi := ({ dst := some 12, op := Op.assign (Operand.tmp 168), type := 4, pos := "law.go:113", after := #[{ on := 30, ground := Ground.data }, { on := 28, ground := Ground.chain }, { on := 0, ground := Ground.phase }, { on := 1, ground := Ground.phase }, { on := 2, ground := Ground.phase }, { on := 3, ground := Ground.phase }, { on := 4, ground := Ground.phase }, { on := 5, ground := Ground.phase }, { on := 6, ground := Ground.phase }, { on := 7, ground := Ground.phase }, { on := 8, ground := Ground.phase }, { on := 9, ground := Ground.phase }, { on := 10, ground := Ground.phase }, { on := 11, ground := Ground.phase }, { on := 12, ground := Ground.phase }, { on := 13, ground := Ground.phase }, { on := 14, ground := Ground.phase }, { on := 15, ground := Ground.phase }, { on := 16, ground := Ground.phase }, { on := 17, ground := Ground.phase }, { on := 18, ground := Ground.phase }, { on := 19, ground := Ground.phase }, { on := 20, ground := Ground.phase }, { on := 21, ground := Ground.phase }, { on := 22, ground := Ground.phase }, { on := 23, ground := Ground.phase }, { on := 24, ground := Ground.phase }, { on := 25, ground := Ground.phase }, { on := 26, ground := Ground.phase }, { on := 27, ground := Ground.phase }, { on := 28, ground := Ground.phase }, { on := 29, ground := Ground.phase }, { on := 30, ground := Ground.phase }], guard := none } : Oper)) (v := ?_) rfl (by kernel_rfl) (by kernel_rfl) (by kernel_rfl) (fun _ _ _ h => h) (Or.inl ⟨rfl, ?_⟩) (by assumption) ?_
                rotate_left
                · intro wz hSw; (try dsimp only at hSw); go_simp; try with_reducible rfl
                try simp only [Act.put, List.setIfInBounds_toArray, List.set_cons_zero, List.set_cons_succ]
                refine wpAnyH_done (by kernel_rfl) ?_ _
                all_goals
                  go_simp
                  go_wp2_with fail
                  go_ret
                  exact ⟨rfl, BQ.trans (bE.mono BQ.size)⟩
            · have HSM := Lib.hid hu1
              clear hu1
              obtain ⟨wq, hwq⟩ : ∃ wq, wq = wr := ⟨_, rfl⟩
              subst hwq
              replace hT := hT.on hb
              replace hK := hK.on hb
              replace hO := hO.on hb
              replace hA := hA.on hb
              replace qA := qA.on hb
              have BQ := B14.trans (hb.mono B14.size)
              clear hb B14
              have hr2 := pickN_lt another 3 (by decide)
              have cR2 := fun W => pick7_any another 3 W hano (by decide) (by decide)
              generalize pickN another 3 = z at *
              have hwz : IntKind.u64.wrap (z : Int) = (z : Int) := IntWalk.u64_in _ (by omega)
              go_wp2_with fail
              with_reducible refine (cR2 _).mono ?_
              rintro e wz ⟨rfl, rfl⟩
              clear cR2
              have hX := HCO2.out z
              rw [HSM.out] at hX
              cases is
              · simp only [Bool.false_and] at hX
                go_upto_region 28 with (fail)
                have hBd : Below wq.heap.size wq wq.drew := (Below.refl _ _).drew
                have hz0 := qA.two
                have c1 := Check_eq A O SA t.length c os.length oc l.length sa t l os z false false hX rfl rfl _ (hT.on hBd) (hO.on hBd) (hA.on hBd) hfitO (by omega) (by omega) (by omega)
                have hfitD : ∀ x ∈ ks ++ ks, x < 18446744073709551616 := fun x hx => by
                  rcases List.mem_append.1 hx with h | h <;> exact hfit x h
                obtain ⟨y0, y1⟩ := hz0
                have HKD := Lib.hid hK
                clear hK
                refine wp_region_held_drew (S := (fun w' => w'.cell? ⟨gA, 0, none⟩ = some (.bool false) ∧ w'.cell? ⟨gA, 1, none⟩ = some (.slice SA l.length sa))) (by kernel_rfl) (qA.on hBd).two (fun hHeld => ?_)
                refine wpAnyH_take (i := 0) (oi := ({ dst := some 138, op := Op.move (Operand.tmp 13), type := 4, pos := "law.go:113", after := #[], guard := none } : Oper)) (v := ?_) rfl (by kernel_rfl) (by kernel_rfl) (by kernel_rfl) (fun _ _ _ h => h) (Or.inl ⟨rfl, ?_⟩) (by assumption) ?_
                rotate_left
                · intro wz hSw; (try dsimp only at hSw); go_simp; try with_reducible rfl
                try simp only [Act.put, List.setIfInBounds_toArray, List.set_cons_zero, List.set_cons_succ]
                refine wpAnyH_take (i := 1) (oi := ({ dst := some 139, op := Op.move (Operand.tmp 138), type := 4, pos := "law.go:113", after := #[{ on := 0, ground := Ground.data }], guard := none } : Oper)) (v := ?_) rfl (by kernel_rfl) (by kernel_rfl) (by kernel_rfl) (fun _ _ _ h => h) (Or.inl ⟨rfl, ?_⟩) (by assumption) ?_
                rotate_left
                · intro wz hSw; (try dsimp only at hSw); go_simp; try with_reducible rfl
                try simp only [Act.put, List.setIfInBounds_toArray, List.set_cons_zero, List.set_cons_succ]
                refine wpAnyH_take (i := 2) (oi := ({ dst := some 140, op := Op.move (Operand.tmp 14), type := 22, pos := "law.go:113", after := #[{ on := 1, ground := Ground.guard }], guard := some (1, true) } : Oper)) (v := ?_) rfl (by kernel_rfl) (by kernel_rfl) (by kernel_rfl) (fun _ _ _ h => h) (Or.inl ⟨rfl, ?_⟩) (by assumption) ?_
                rotate_left
                · intro wz hSw; (try dsimp only at hSw); go_simp; try with_reducible rfl
                try simp only [Act.put, List.setIfInBounds_toArray, List.set_cons_zero, List.set_cons_succ]
                refine wpAnyH_take (i := 3) (oi := ({ dst := some 141, op := Op.move (Operand.tmp 16), type := 24, pos := "law.go:113", after := #[{ on := 1, ground := Ground.guard }], guard := some (1, true) } : Oper)) (v := ?_) rfl (by kernel_rfl) (by kernel_rfl) (by kernel_rfl) (fun _ _ _ h => h) (Or.inl ⟨rfl, ?_⟩) (by assumption) ?_
                rotate_left
                · intro wz hSw; (try dsimp only at hSw); go_simp; try with_reducible rfl
                try simp only [Act.put, List.setIfInBounds_toArray, List.set_cons_zero, List.set_cons_succ]
                refine wpAnyH_take (i := 4) (oi := ({ dst := some 142, op := Op.move (Operand.tmp 29), type := 25, pos := "law.go:113", after := #[{ on := 1, ground := Ground.guard }], guard := some (1, true) } : Oper)) (v := ?_) rfl (by kernel_rfl) (by kernel_rfl) (by kernel_rfl) (fun _ _ _ h => h) (Or.inl ⟨rfl, ?_⟩) (by assumption) ?_
                rotate_left
                · intro wz hSw; (try dsimp only at hSw); go_simp; try with_reducible rfl
                try simp only [Act.put, List.setIfInBounds_toArray, List.set_cons_zero, List.set_cons_succ]
                refine wpAnyH_take (i := 5) (oi := ({ dst := some 143, op := Op.load 40 (Operand.tmp 18), type := 40, pos := "law.go:113", after := #[{ on := 1, ground := Ground.guard }], guard := some (1, true) } : Oper)) (v := ?_) rfl (by kernel_rfl) (by kernel_rfl) (by kernel_rfl) (fun _ _ _ h => h) (Or.inl ⟨rfl, ?_⟩) (by assumption) ?_
                rotate_left
                · intro wz hSw; (try dsimp only at hSw); go_simp; try with_reducible rfl
                try simp only [Act.put, List.setIfInBounds_toArray, List.set_cons_zero, List.set_cons_succ]
                refine wpAnyH_take (i := 6) (oi := ({ dst := some 144, op := Op.build 44 #[(0, Operand.tmp 141), (1, Operand.tmp 142), (2, Operand.tmp 143)], type := 44, pos := "law.go:113", after := #[{ on := 3, ground := Ground.data }, { on := 4, ground := Ground.data }, { on := 5, ground := Ground.data }, { on := 1, ground := Ground.guard }], guard := some (1, true) } : Oper)) (v := ?_) rfl (by kernel_rfl) (by kernel_rfl) (by kernel_rfl) (fun _ _ _ h => h) (Or.inl ⟨rfl, ?_⟩) (by assumption) ?_
                rotate_left
                · intro wz hSw; (try dsimp only at hSw); go_simp; try with_reducible rfl
                try simp only [Act.put, List.setIfInBounds_toArray, List.set_cons_zero, List.set_cons_succ]
                refine wpAnyH_take (i := 8) (oi := ({ dst := some 146, op := Op.move (Operand.tmp 22), type := 4, pos := "law.go:113", after := #[{ on := 1, ground := Ground.guard }], guard := some (1, true) } : Oper)) (v := ?_) rfl (by kernel_rfl) (by kernel_rfl) (by kernel_rfl) (fun _ _ _ h => h) (Or.inl ⟨rfl, ?_⟩) (by assumption) ?_
                rotate_left
                · intro wz hSw; (try dsimp only at hSw); go_simp; try with_reducible rfl
                try simp only [Act.put, List.setIfInBounds_toArray, List.set_cons_zero, List.set_cons_succ]
                refine wpAnyH_ready (rs := [7]) (by kernel_rfl) (by simp) ?_
                refine AllReadyH.cons (o := ({ dst := some 145, op := Op.call { callee := Callee.value (Operand.func 21), args := #[Operand.tmp 140, Operand.tmp 144], argTypes := #[22, 44] }, type := 4, pos := "law.go:113", after := #[{ on := 2, ground := Ground.data }, { on := 6, ground := Ground.data }, { on := 1, ground := Ground.chain }, { on := 1, ground := Ground.guard }], guard := some (1, true) } : Oper)) rfl (fun K9 hK9 => ?_) AllReadyH.nil
                go_simp
                with_reducible refine c1.mono ?_
                rintro e wC ⟨rfl, bC'⟩
                have bC := hBd.trans (bC'.mono hBd.size)
                have hz1 := (qA.on bC).two
                have hKc := HKD.out.on bC
                go_wp2_with fail
                clear hHeld
                refine hK9.out _ _ hz1 (fun hHeld => ?_)
                clear hK9 K9
                try simp only [Act.put, List.setIfInBounds_toArray, List.set_cons_zero, List.set_cons_succ]
                refine wpAnyH_take (i := 9) (oi := ({ dst := some 147, op := Op.move (Operand.tmp 146), type := 4, pos := "law.go:113", after := #[{ on := 8, ground := Ground.data }, { on := 7, ground := Ground.chain }, { on := 1, ground := Ground.guard }], guard := some (1, true) } : Oper)) (v := ?_) rfl (by kernel_rfl) (by kernel_rfl) (by kernel_rfl) (fun _ _ _ h => h) (Or.inl ⟨rfl, ?_⟩) (by assumption) ?_
                rotate_left
                · intro wz hSw; (try dsimp only at hSw); go_simp; try with_reducible rfl
                try simp only [Act.put, List.setIfInBounds_toArray, List.set_cons_zero, List.set_cons_succ]
                refine wpAnyH_take (i := 10) (oi := ({ dst := some 148, op := Op.move (Operand.tmp 25), type := 4, pos := "law.go:113", after := #[{ on := 9, ground := Ground.guard }], guard := some (9, true) } : Oper)) (v := undef) rfl (by kernel_rfl) (by kernel_rfl) (by kernel_rfl) (fun _ _ _ h => h) (Or.inr ⟨rfl, rfl⟩) (by assumption) ?_
                try simp only [Act.put, List.setIfInBounds_toArray, List.set_cons_zero, List.set_cons_succ]
                refine wpAnyH_take (i := 11) (oi := ({ dst := some 149, op := Op.pick (Operand.tmp 147) (Operand.tmp 148) (Operand.const (Value.bool false)), type := 4, pos := "law.go:113", after := #[{ on := 9, ground := Ground.data }, { on := 10, ground := Ground.data }, { on := 1, ground := Ground.guard }], guard := some (1, true) } : Oper)) (v := ?_) rfl (by kernel_rfl) (by kernel_rfl) (by kernel_rfl) (fun _ _ _ h => h) (Or.inl ⟨rfl, ?_⟩) (by assumption) ?_
                rotate_left
                · intro wz hSw; (try dsimp only at hSw); go_simp; try with_reducible rfl
                try simp only [Act.put, List.setIfInBounds_toArray, List.set_cons_zero, List.set_cons_succ]
                refine wpAnyH_take (i := 12) (oi := ({ dst := some 150, op := Op.move (Operand.tmp 149), type := 4, pos := "law.go:113", after := #[{ on := 11, ground := Ground.data }, { on := 9, ground := Ground.chain }, { on := 1, ground := Ground.guard }], guard := some (1, true) } : Oper)) (v := ?_) rfl (by kernel_rfl) (by kernel_rfl) (by kernel_rfl) (fun _ _ _ h => h) (Or.inl ⟨rfl, ?_⟩) (by assumption) ?_
                rotate_left
                · intro wz hSw; (try dsimp only at hSw); go_simp; try with_reducible rfl
                try simp only [Act.put, List.setIfInBounds_toArray, List.set_cons_zero, List.set_cons_succ]
                refine wpAnyH_take (i := 13) (oi := ({ dst := some 151, op := Op.move (Operand.tmp 29), type := 25, pos := "law.go:113", after := #[{ on := 12, ground := Ground.guard }], guard := some (12, true) } : Oper)) (v := undef) rfl (by kernel_rfl) (by kernel_rfl) (by kernel_rfl) (fun _ _ _ h => h) (Or.inr ⟨rfl, rfl⟩) (by assumption) ?_
                try simp only [Act.put, List.setIfInBounds_toArray, List.set_cons_zero, List.set_cons_succ]
                refine wpAnyH_take (i := 14) (oi := ({ dst := some 152, op := Op.move (Operand.tmp 17), type := 25, pos := "law.go:113", after := #[{ on := 12, ground := Ground.guard }], guard := some (12, true) } : Oper)) (v := undef) rfl (by kernel_rfl) (by kernel_rfl) (by kernel_rfl) (fun _ _ _ h => h) (Or.inr ⟨rfl, rfl⟩) (by assumption) ?_
                try simp only [Act.put, List.setIfInBounds_toArray, List.set_cons_zero, List.set_cons_succ]
                refine wpAnyH_take (i := 15) (oi := ({ dst := some 153, op := Op.binOp BinOp.eql 25 (Operand.tmp 151) (Operand.tmp 152) 25, type := 4, pos := "law.go:113", after := #[{ on := 13, ground := Ground.data }, { on := 14, ground := Ground.data }, { on := 12, ground := Ground.guard }], guard := some (12, true) } : Oper)) (v := undef) rfl (by kernel_rfl) (by kernel_rfl) (by kernel_rfl) (fun _ _ _ h => h) (Or.inr ⟨rfl, rfl⟩) (by assumption) ?_
                try simp only [Act.put, List.setIfInBounds_toArray, List.set_cons_zero, List.set_cons_succ]
                refine wpAnyH_take (i := 16) (oi := ({ dst := some 154, op := Op.pick (Operand.tmp 150) (Operand.tmp 153) (Operand.const (Value.bool false)), type := 4, pos := "law.go:113", after := #[{ on := 12, ground := Ground.data }, { on := 15, ground := Ground.data }, { on := 1, ground := Ground.guard }], guard := some (1, true) } : Oper)) (v := ?_) rfl (by kernel_rfl) (by kernel_rfl) (by kernel_rfl) (fun _ _ _ h => h) (Or.inl ⟨rfl, ?_⟩) (by assumption) ?_
                rotate_left
                · intro wz hSw; (try dsimp only at hSw); go_simp; try with_reducible rfl
                try simp only [Act.put, List.setIfInBounds_toArray, List.set_cons_zero, List.set_cons_succ]
                refine wpAnyH_take (i := 17) (oi := ({ dst := some 155, op := Op.binOp BinOp.eql 4 (Operand.tmp 145) (Operand.tmp 154) 4, type := 4, pos := "law.go:113", after := #[{ on := 7, ground := Ground.data }, { on := 16, ground := Ground.data }, { on := 1, ground := Ground.guard }], guard := some (1, true) } : Oper)) (v := ?_) rfl (by kernel_rfl) (by kernel_rfl) (by kernel_rfl) (fun _ _ _ h => h) (Or.inl ⟨rfl, ?_⟩) (by assumption) ?_
                rotate_left
                · intro wz hSw; (try dsimp only at hSw); go_simp; try with_reducible rfl
                try simp only [Act.put, List.setIfInBounds_toArray, List.set_cons_zero, List.set_cons_succ]
                refine wpAnyH_take (i := 18) (oi := ({ dst := some 156, op := Op.pick (Operand.tmp 139) (Operand.tmp 155) (Operand.const (Value.bool false)), type := 4, pos := "law.go:113", after := #[{ on := 1, ground := Ground.data }, { on := 17, ground := Ground.data }], guard := none } : Oper)) (v := ?_) rfl (by kernel_rfl) (by kernel_rfl) (by kernel_rfl) (fun _ _ _ h => h) (Or.inl ⟨rfl, ?_⟩) (by assumption) ?_
                rotate_left
                · intro wz hSw; (try dsimp only at hSw); go_simp; try with_reducible rfl
                try simp only [Act.put, List.setIfInBounds_toArray, List.set_cons_zero, List.set_cons_succ]
                refine wpAnyH_take (i := 19) (oi := ({ dst := some 157, op := Op.move (Operand.tmp 156), type := 4, pos := "law.go:113", after := #[{ on := 18, ground := Ground.data }, { on := 12, ground := Ground.chain }], guard := none } : Oper)) (v := ?_) rfl (by kernel_rfl) (by kernel_rfl) (by kernel_rfl) (fun _ _ _ h => h) (Or.inl ⟨rfl, ?_⟩) (by assumption) ?_
                rotate_left
                · intro wz hSw; (try dsimp only at hSw); go_simp; try with_reducible rfl
                try simp only [Act.put, List.setIfInBounds_toArray, List.set_cons_zero, List.set_cons_succ]
                refine wpAnyH_take (i := 20) (oi := ({ dst := some 158, op := Op.move (Operand.tmp 14), type := 22, pos := "law.go:113", after := #[{ on := 19, ground := Ground.guard }], guard := some (19, true) } : Oper)) (v := ?_) rfl (by kernel_rfl) (by kernel_rfl) (by kernel_rfl) (fun _ _ _ h => h) (Or.inl ⟨rfl, ?_⟩) (by assumption) ?_
                rotate_left
                · intro wz hSw; (try dsimp only at hSw); go_simp; try with_reducible rfl
                try simp only [Act.put, List.setIfInBounds_toArray, List.set_cons_zero, List.set_cons_succ]
                refine wpAnyH_take (i := 21) (oi := ({ dst := some 159, op := Op.move (Operand.tmp 15), type := 24, pos := "law.go:113", after := #[{ on := 19, ground := Ground.guard }], guard := some (19, true) } : Oper)) (v := ?_) rfl (by kernel_rfl) (by kernel_rfl) (by kernel_rfl) (fun _ _ _ h => h) (Or.inl ⟨rfl, ?_⟩) (by assumption) ?_
                rotate_left
                · intro wz hSw; (try dsimp only at hSw); go_simp; try with_reducible rfl
                try simp only [Act.put, List.setIfInBounds_toArray, List.set_cons_zero, List.set_cons_succ]
                refine wpAnyH_take (i := 23) (oi := ({ dst := some 161, op := Op.move (Operand.tmp 15), type := 24, pos := "law.go:113", after := #[{ on := 19, ground := Ground.guard }], guard := some (19, true) } : Oper)) (v := ?_) rfl (by kernel_rfl) (by kernel_rfl) (by kernel_rfl) (fun _ _ _ h => h) (Or.inl ⟨rfl, ?_⟩) (by assumption) ?_
                rotate_left
                · intro wz hSw; (try dsimp only at hSw); go_simp; try with_reducible rfl
                try simp only [Act.put, List.setIfInBounds_toArray, List.set_cons_zero, List.set_cons_succ]
                refine wpAnyH_take (i := 25) (oi := ({ dst := some 163, op := Op.move (Operand.tmp 17), type := 25, pos := "law.go:113", after := #[{ on := 19, ground := Ground.guard }], guard := some (19, true) } : Oper)) (v := ?_) rfl (by kernel_rfl) (by kernel_rfl) (by kernel_rfl) (fun _ _ _ h => h) (Or.inl ⟨rfl, ?_⟩) (by assumption) ?_
                rotate_left
                · intro wz hSw; (try dsimp only at hSw); go_simp; try with_reducible rfl
                try simp only [Act.put, List.setIfInBounds_toArray, List.set_cons_zero, List.set_cons_succ]
                refine wpAnyH_take (i := 26) (oi := ({ dst := some 164, op := Op.load 40 (Operand.tmp 18), type := 40, pos := "law.go:113", after := #[{ on := 19, ground := Ground.guard }], guard := some (19, true) } : Oper)) (v := ?_) rfl (by kernel_rfl) (by kernel_rfl) (by kernel_rfl) (fun _ _ _ h => h) (Or.inl ⟨rfl, ?_⟩) (by assumption) ?_
                rotate_left
                · intro wz hSw; (try dsimp only at hSw); go_simp; try with_reducible rfl
                try simp only [Act.put, List.setIfInBounds_toArray, List.set_cons_zero, List.set_cons_succ]
                refine wpAnyH_ready (rs := [22]) (by kernel_rfl) (by simp) ?_
                refine AllReadyH.cons (o := ({ dst := some 160, op := Op.call { callee := Callee.builtin Builtin.append, args := #[Operand.const (Value.slice none 0 0), Operand.tmp 159], argTypes := #[24, 24] }, type := 24, pos := "law.go:113", after := #[{ on := 21, ground := Ground.data }, { on := 19, ground := Ground.chain }, { on := 19, ground := Ground.guard }], guard := some (19, true) } : Oper)) rfl (fun K9 hK9 => ?_) AllReadyH.nil
                refine step_append_guarded rfl _ _ 24 rfl _ 25 i0 (.int .u64 0) 1 8 Try.underlying24 hi hy0 hy1 hy2 rfl (by decide) (.slice none 0 0) 0 [] rfl (World.ownsRow_nil _ _ _ _) K ks.length kc (ks.map wv) rfl (by rw [List.length_map, Nat.mul_one]) (hKc.news rfl) (words_one _) (by unfold maxLen; omega) (by omega) (Nat.le_refl _) ?_
                intro S1 cap1 wA own1 grow1
                simp only [Nat.zero_add, List.nil_append] at own1 ⊢
                have hB1 : Below wq.heap.size wq wA := Below.grown bC grow1 bC.size (fun k h => by cases h)
                have hz2 := (qA.on hB1).two
                have hKa := HKD.out.on hB1
                have ob1 : ∀ k, (Value.slice S1 ks.length cap1).ownBlock = some k → wq.heap.size ≤ k := fun k h => Nat.le_trans bC.size (own1.lt k h).1
                clear hHeld
                refine hK9.out _ _ hz2 (fun hHeld => ?_)
                clear hK9 K9
                try simp only [Act.put, List.setIfInBounds_toArray, List.set_cons_zero, List.set_cons_succ]
                refine wpAnyH_ready (rs := [24]) (by kernel_rfl) (by simp) ?_
                refine AllReadyH.cons (o := ({ dst := some 162, op := Op.call { callee := Callee.builtin Builtin.append, args := #[Operand.tmp 160, Operand.tmp 161], argTypes := #[24, 24] }, type := 24, pos := "law.go:113", after := #[{ on := 22, ground := Ground.data }, { on := 23, ground := Ground.data }, { on := 22, ground := Ground.chain }, { on := 19, ground := Ground.guard }], guard := some (19, true) } : Oper)) rfl (fun K9 hK9 => ?_) AllReadyH.nil
                refine step_append_guarded rfl _ _ 24 rfl _ 25 i0 (.int .u64 0) 1 8 Try.underlying24 hi hy0 hy1 hy2 rfl (by decide) (.slice S1 ks.length cap1) ks.length _ rfl own1 K ks.length kc (ks.map wv) rfl (by rw [List.length_map, Nat.mul_one]) (hKa.news rfl) (words_one _) (by unfold maxLen; omega) (by omega) grow1.size ?_
                intro S2 cap2 wB own2 grow2
                have hB2 : Below wq.heap.size wq wB := Below.grown hB1 grow2 hB1.size ob1
                have hz3 := (qA.on hB2).two
                have own2' := own2
                rw [← List.map_append] at own2'
                have trx := words_own own2' (by rw [List.length_append])
                have c2 := Check_eq A S2 SA t.length c (ks.length + ks.length) cap2 l.length sa t l (ks ++ ks) r false false HCD.out (by rw [List.length_append]) rfl wB (hT.on hB2) trx (hA.on hB2) hfitD (by omega) (by rw [List.length_append]; omega) (by omega)
                clear hHeld
                refine hK9.out _ _ hz3 (fun hHeld => ?_)
                clear hK9 K9
                try simp only [Act.put, List.setIfInBounds_toArray, List.set_cons_zero, List.set_cons_succ]
                refine wpAnyH_take (i := 27) (oi := ({ dst := some 165, op := Op.build 44 #[(0, Operand.tmp 162), (1, Operand.tmp 163), (2, Operand.tmp 164)], type := 44, pos := "law.go:113", after := #[{ on := 24, ground := Ground.data }, { on := 25, ground := Ground.data }, { on := 26, ground := Ground.data }, { on := 19, ground := Ground.guard }], guard := some (19, true) } : Oper)) (v := ?_) rfl (by kernel_rfl) (by kernel_rfl) (by kernel_rfl) (fun _ _ _ h => h) (Or.inl ⟨rfl, ?_⟩) (by assumption) ?_
                rotate_left
                · intro wz hSw; (try dsimp only at hSw); go_simp; try with_reducible rfl
                try simp only [Act.put, List.setIfInBounds_toArray, List.set_cons_zero, List.set_cons_succ]
                refine wpAnyH_ready (rs := [28]) (by kernel_rfl) (by simp) ?_
                refine AllReadyH.cons (o := ({ dst := some 166, op := Op.call { callee := Callee.value (Operand.func 21), args := #[Operand.tmp 158, Operand.tmp 165], argTypes := #[22, 44] }, type := 4, pos := "law.go:113", after := #[{ on := 20, ground := Ground.data }, { on := 27, ground := Ground.data }, { on := 24, ground := Ground.chain }, { on := 19, ground := Ground.guard }], guard := some (19, true) } : Oper)) rfl (fun K9 hK9 => ?_) AllReadyH.nil
                go_simp
                with_reducible refine c2.mono ?_
                rintro e wE ⟨rfl, bE'⟩
                have bE := hB2.trans (bE'.mono hB2.size)
                have hz4 := (qA.on bE).two
                go_wp2_with fail
                clear hHeld
                refine hK9.out _ _ hz4 (fun hHeld => ?_)
                clear hK9 K9
                try simp only [Act.put, List.setIfInBounds_toArray, List.set_cons_zero, List.set_cons_succ]
                refine wpAnyH_take (i := 29) (oi := ({ dst := some 167, op := Op.unOp UnOp.not 4 (Operand.tmp 166), type := 4, pos := "law.go:113", after := #[{ on := 28, ground := Ground.data }, { on := 19, ground := Ground.guard }], guard := some (19, true) } : Oper)) (v := ?_) rfl (by kernel_rfl) (by kernel_rfl) (by kernel_rfl) (fun _ _ _ h => h) (Or.inl ⟨rfl, ?_⟩) (by assumption) ?_
                rotate_left
                · intro wz hSw; (try dsimp only at hSw); go_simp; try with_reducible rfl
                try simp only [Act.put, List.setIfInBounds_toArray, List.set_cons_zero, List.set_cons_succ]
                refine wpAnyH_take (i := 30) (oi := ({ dst := some 168, op := Op.pick (Operand.tmp 157) (Operand.tmp 167) (Operand.const (Value.bool false)), type := 4, pos := "law.go:113", after := #[{ on := 19, ground := Ground.data }, { on := 29, ground := Ground.data }], guard := none } : Oper)) (v := ?_) rfl (by kernel_rfl) (by kernel_rfl) (by kernel_rfl) (fun _ _ _ h => h) (Or.inl ⟨rfl, ?_⟩) (by assumption) ?_
                rotate_left
                · intro wz hSw; (try dsimp only at hSw); go_simp; try with_reducible rfl
                try simp only [Act.put, List.setIfInBounds_toArray, List.set_cons_zero, List.set_cons_succ]
                refine wpAnyH_take (i := 31) (oi := ({ dst := some 12, op := Op.assign (Operand.tmp 168), type := 4, pos := "law.go:113", after := #[{ on := 30, ground := Ground.data }, { on := 28, ground := Ground.chain }, { on := 0, ground := Ground.phase }, { on := 1, ground := Ground.phase }, { on := 2, ground := Ground.phase }, { on := 3, ground := Ground.phase }, { on := 4, ground := Ground.phase }, { on := 5, ground := Ground.phase }, { on := 6, ground := Ground.phase }, { on := 7, ground := Ground.phase }, { on := 8, ground := Ground.phase }, { on := 9, ground := Ground.phase }, { on := 10, ground := Ground.phase }, { on := 11, ground := Ground.phase }, { on := 12, ground := Ground.phase }, { on := 13, ground := Ground.phase }, { on := 14, ground := Ground.phase }, { on := 15, ground := Ground.phase }, { on := 16, ground := Ground.phase }, { on := 17, ground := Ground.phase }, { on := 18, ground := Ground.phase }, { on := 19, ground := Ground.phase }, { on := 20, ground := Ground.phase }, { on := 21, ground := Ground.phase }, { on := 22, ground := Ground.phase }, { on := 23, ground := Ground.phase }, { on := 24, ground := Ground.phase }, { on := 25, ground := Ground.phase }, { on := 26, ground := Ground.phase }, { on := 27, ground := Ground.phase }, { on := 28, ground := Ground.phase }, { on := 29, ground := Ground.phase }, { on := 30, ground := Ground.phase }], guard := none } : Oper)) (v := ?_) rfl (by kernel_rfl) (by kernel_rfl) (by kernel_rfl) (fun _ _ _ h => h) (Or.inl ⟨rfl, ?_⟩) (by assumption) ?_
                rotate_left
                · intro wz hSw; (try dsimp only at hSw); go_simp; try with_reducible rfl
                try simp only [Act.put, List.setIfInBounds_toArray, List.set_cons_zero, List.set_cons_succ]
                refine wpAnyH_done (by kernel_rfl) ?_ _
                all_goals
                  go_simp
                  go_wp2_with fail
                  go_ret
                  exact ⟨rfl, BQ.trans (bE.mono BQ.size)⟩
              · by_cases hzr : z = r
                · have hzr' := hzr.symm
                  subst hzr'
                  have hX' : checkO t os r false l = true := by rw [hX]; simp
                  clear hX
                  have hX := hX'
                  go_upto_region 28 with (fail)
                  have hBd : Below wq.heap.size wq wq.drew := (Below.refl _ _).drew
                  have hz0 := qA.two
                  have c1 := Check_eq A O SA t.length c os.length oc l.length sa t l os r false true hX rfl rfl _ (hT.on hBd) (hO.on hBd) (hA.on hBd) hfitO (by omega) (by omega) (by omega)
                  have hfitD : ∀ x ∈ ks ++ ks, x < 18446744073709551616 := fun x hx => by
                    rcases List.mem_append.1 hx with h | h <;> exact hfit x h
                  obtain ⟨y0, y1⟩ := hz0
                  have HKD := Lib.hid hK
                  clear hK
                  refine wp_region_held_drew (S := (fun w' => w'.cell? ⟨gA, 0, none⟩ = some (.bool false) ∧ w'.cell? ⟨gA, 1, none⟩ = some (.slice SA l.length sa))) (by kernel_rfl) (qA.on hBd).two (fun hHeld => ?_)
                  refine wpAnyH_take (i := 0) (oi := ({ dst := some 138, op := Op.move (Operand.tmp 13), type := 4, pos := "law.go:113", after := #[], guard := none } : Oper)) (v := ?_) rfl (by kernel_rfl) (by kernel_rfl) (by kernel_rfl) (fun _ _ _ h => h) (Or.inl ⟨rfl, ?_⟩) (by assumption) ?_
                  rotate_left
                  · intro wz hSw; (try dsimp only at hSw); go_simp; try with_reducible rfl
                  try simp only [Act.put, List.setIfInBounds_toArray, List.set_cons_zero, List.set_cons_succ]
                  refine wpAnyH_take (i := 1) (oi := ({ dst := some 139, op := Op.move (Operand.tmp 138), type := 4, pos := "law.go:113", after := #[{ on := 0, ground := Ground.data }], guard := none } : Oper)) (v := ?_) rfl (by kernel_rfl) (by kernel_rfl) (by kernel_rfl) (fun _ _ _ h => h) (Or.inl ⟨rfl, ?_⟩) (by assumption) ?_
                  rotate_left
                  · intro wz hSw; (try dsimp only at hSw); go_simp; try with_reducible rfl
                  try simp only [Act.put, List.setIfInBounds_toArray, List.set_cons_zero, List.set_cons_succ]
                  refine wpAnyH_take (i := 2) (oi := ({ dst := some 140, op := Op.move (Operand.tmp 14), type := 22, pos := "law.go:113", after := #[{ on := 1, ground := Ground.guard }], guard := some (1, true) } : Oper)) (v := ?_) rfl (by kernel_rfl) (by kernel_rfl) (by kernel_rfl) (fun _ _ _ h => h) (Or.inl ⟨rfl, ?_⟩) (by assumption) ?_
                  rotate_left
                  · intro wz hSw; (try dsimp only at hSw); go_simp; try with_reducible rfl
                  try simp only [Act.put, List.setIfInBounds_toArray, List.set_cons_zero, List.set_cons_succ]
                  refine wpAnyH_take (i := 3) (oi := ({ dst := some 141, op := Op.move (Operand.tmp 16), type := 24, pos := "law.go:113", after := #[{ on := 1, ground := Ground.guard }], guard := some (1, true) } : Oper)) (v := ?_) rfl (by kernel_rfl) (by kernel_rfl) (by kernel_rfl) (fun _ _ _ h => h) (Or.inl ⟨rfl, ?_⟩) (by assumption) ?_
                  rotate_left
                  · intro wz hSw; (try dsimp only at hSw); go_simp; try with_reducible rfl
                  try simp only [Act.put, List.setIfInBounds_toArray, List.set_cons_zero, List.set_cons_succ]
                  refine wpAnyH_take (i := 4) (oi := ({ dst := some 142, op := Op.move (Operand.tmp 29), type := 25, pos := "law.go:113", after := #[{ on := 1, ground := Ground.guard }], guard := some (1, true) } : Oper)) (v := ?_) rfl (by kernel_rfl) (by kernel_rfl) (by kernel_rfl) (fun _ _ _ h => h) (Or.inl ⟨rfl, ?_⟩) (by assumption) ?_
                  rotate_left
                  · intro wz hSw; (try dsimp only at hSw); go_simp; try with_reducible rfl
                  try simp only [Act.put, List.setIfInBounds_toArray, List.set_cons_zero, List.set_cons_succ]
                  refine wpAnyH_take (i := 5) (oi := ({ dst := some 143, op := Op.load 40 (Operand.tmp 18), type := 40, pos := "law.go:113", after := #[{ on := 1, ground := Ground.guard }], guard := some (1, true) } : Oper)) (v := ?_) rfl (by kernel_rfl) (by kernel_rfl) (by kernel_rfl) (fun _ _ _ h => h) (Or.inl ⟨rfl, ?_⟩) (by assumption) ?_
                  rotate_left
                  · intro wz hSw; (try dsimp only at hSw); go_simp; try with_reducible rfl
                  try simp only [Act.put, List.setIfInBounds_toArray, List.set_cons_zero, List.set_cons_succ]
                  refine wpAnyH_take (i := 6) (oi := ({ dst := some 144, op := Op.build 44 #[(0, Operand.tmp 141), (1, Operand.tmp 142), (2, Operand.tmp 143)], type := 44, pos := "law.go:113", after := #[{ on := 3, ground := Ground.data }, { on := 4, ground := Ground.data }, { on := 5, ground := Ground.data }, { on := 1, ground := Ground.guard }], guard := some (1, true) } : Oper)) (v := ?_) rfl (by kernel_rfl) (by kernel_rfl) (by kernel_rfl) (fun _ _ _ h => h) (Or.inl ⟨rfl, ?_⟩) (by assumption) ?_
                  rotate_left
                  · intro wz hSw; (try dsimp only at hSw); go_simp; try with_reducible rfl
                  try simp only [Act.put, List.setIfInBounds_toArray, List.set_cons_zero, List.set_cons_succ]
                  refine wpAnyH_take (i := 8) (oi := ({ dst := some 146, op := Op.move (Operand.tmp 22), type := 4, pos := "law.go:113", after := #[{ on := 1, ground := Ground.guard }], guard := some (1, true) } : Oper)) (v := ?_) rfl (by kernel_rfl) (by kernel_rfl) (by kernel_rfl) (fun _ _ _ h => h) (Or.inl ⟨rfl, ?_⟩) (by assumption) ?_
                  rotate_left
                  · intro wz hSw; (try dsimp only at hSw); go_simp; try with_reducible rfl
                  try simp only [Act.put, List.setIfInBounds_toArray, List.set_cons_zero, List.set_cons_succ]
                  refine wpAnyH_ready (rs := [7]) (by kernel_rfl) (by simp) ?_
                  refine AllReadyH.cons (o := ({ dst := some 145, op := Op.call { callee := Callee.value (Operand.func 21), args := #[Operand.tmp 140, Operand.tmp 144], argTypes := #[22, 44] }, type := 4, pos := "law.go:113", after := #[{ on := 2, ground := Ground.data }, { on := 6, ground := Ground.data }, { on := 1, ground := Ground.chain }, { on := 1, ground := Ground.guard }], guard := some (1, true) } : Oper)) rfl (fun K9 hK9 => ?_) AllReadyH.nil
                  go_simp
                  with_reducible refine c1.mono ?_
                  rintro e wC ⟨rfl, bC'⟩
                  have bC := hBd.trans (bC'.mono hBd.size)
                  have hz1 := (qA.on bC).two
                  have hKc := HKD.out.on bC
                  go_wp2_with fail
                  clear hHeld
                  refine hK9.out _ _ hz1 (fun hHeld => ?_)
                  clear hK9 K9
                  try simp only [Act.put, List.setIfInBounds_toArray, List.set_cons_zero, List.set_cons_succ]
                  refine wpAnyH_take (i := 9) (oi := ({ dst := some 147, op := Op.move (Operand.tmp 146), type := 4, pos := "law.go:113", after := #[{ on := 8, ground := Ground.data }, { on := 7, ground := Ground.chain }, { on := 1, ground := Ground.guard }], guard := some (1, true) } : Oper)) (v := ?_) rfl (by kernel_rfl) (by kernel_rfl) (by kernel_rfl) (fun _ _ _ h => h) (Or.inl ⟨rfl, ?_⟩) (by assumption) ?_
                  rotate_left
                  · intro wz hSw; (try dsimp only at hSw); go_simp; try with_reducible rfl
                  try simp only [Act.put, List.setIfInBounds_toArray, List.set_cons_zero, List.set_cons_succ]
                  refine wpAnyH_take (i := 10) (oi := ({ dst := some 148, op := Op.move (Operand.tmp 25), type := 4, pos := "law.go:113", after := #[{ on := 9, ground := Ground.guard }], guard := some (9, true) } : Oper)) (v := ?_) rfl (by kernel_rfl) (by kernel_rfl) (by kernel_rfl) (fun _ _ _ h => h) (Or.inl ⟨rfl, ?_⟩) (by assumption) ?_
                  rotate_left
                  · intro wz hSw; (try dsimp only at hSw); go_simp; try with_reducible rfl
                  try simp only [Act.put, List.setIfInBounds_toArray, List.set_cons_zero, List.set_cons_succ]
                  refine wpAnyH_take (i := 11) (oi := ({ dst := some 149, op := Op.pick (Operand.tmp 147) (Operand.tmp 148) (Operand.const (Value.bool false)), type := 4, pos := "law.go:113", after := #[{ on := 9, ground := Ground.data }, { on := 10, ground := Ground.data }, { on := 1, ground := Ground.guard }], guard := some (1, true) } : Oper)) (v := ?_) rfl (by kernel_rfl) (by kernel_rfl) (by kernel_rfl) (fun _ _ _ h => h) (Or.inl ⟨rfl, ?_⟩) (by assumption) ?_
                  rotate_left
                  · intro wz hSw; (try dsimp only at hSw); go_simp; try with_reducible rfl
                  try simp only [Act.put, List.setIfInBounds_toArray, List.set_cons_zero, List.set_cons_succ]
                  refine wpAnyH_take (i := 12) (oi := ({ dst := some 150, op := Op.move (Operand.tmp 149), type := 4, pos := "law.go:113", after := #[{ on := 11, ground := Ground.data }, { on := 9, ground := Ground.chain }, { on := 1, ground := Ground.guard }], guard := some (1, true) } : Oper)) (v := ?_) rfl (by kernel_rfl) (by kernel_rfl) (by kernel_rfl) (fun _ _ _ h => h) (Or.inl ⟨rfl, ?_⟩) (by assumption) ?_
                  rotate_left
                  · intro wz hSw; (try dsimp only at hSw); go_simp; try with_reducible rfl
                  try simp only [Act.put, List.setIfInBounds_toArray, List.set_cons_zero, List.set_cons_succ]
                  refine wpAnyH_take (i := 13) (oi := ({ dst := some 151, op := Op.move (Operand.tmp 29), type := 25, pos := "law.go:113", after := #[{ on := 12, ground := Ground.guard }], guard := some (12, true) } : Oper)) (v := ?_) rfl (by kernel_rfl) (by kernel_rfl) (by kernel_rfl) (fun _ _ _ h => h) (Or.inl ⟨rfl, ?_⟩) (by assumption) ?_
                  rotate_left
                  · intro wz hSw; (try dsimp only at hSw); go_simp; try with_reducible rfl
                  try simp only [Act.put, List.setIfInBounds_toArray, List.set_cons_zero, List.set_cons_succ]
                  refine wpAnyH_take (i := 14) (oi := ({ dst := some 152, op := Op.move (Operand.tmp 17), type := 25, pos := "law.go:113", after := #[{ on := 12, ground := Ground.guard }], guard := some (12, true) } : Oper)) (v := ?_) rfl (by kernel_rfl) (by kernel_rfl) (by kernel_rfl) (fun _ _ _ h => h) (Or.inl ⟨rfl, ?_⟩) (by assumption) ?_
                  rotate_left
                  · intro wz hSw; (try dsimp only at hSw); go_simp; try with_reducible rfl
                  try simp only [Act.put, List.setIfInBounds_toArray, List.set_cons_zero, List.set_cons_succ]
                  refine wpAnyH_take (i := 15) (oi := ({ dst := some 153, op := Op.binOp BinOp.eql 25 (Operand.tmp 151) (Operand.tmp 152) 25, type := 4, pos := "law.go:113", after := #[{ on := 13, ground := Ground.data }, { on := 14, ground := Ground.data }, { on := 12, ground := Ground.guard }], guard := some (12, true) } : Oper)) (v := ?_) rfl (by kernel_rfl) (by kernel_rfl) (by kernel_rfl) (fun _ _ _ h => h) (Or.inl ⟨rfl, ?_⟩) (by assumption) ?_
                  rotate_left
                  · intro wz hSw; (try dsimp only at hSw); go_simp; try with_reducible rfl
                  try simp only [Act.put, List.setIfInBounds_toArray, List.set_cons_zero, List.set_cons_succ]
                  refine wpAnyH_take (i := 16) (oi := ({ dst := some 154, op := Op.pick (Operand.tmp 150) (Operand.tmp 153) (Operand.const (Value.bool false)), type := 4, pos := "law.go:113", after := #[{ on := 12, ground := Ground.data }, { on := 15, ground := Ground.data }, { on := 1, ground := Ground.guard }], guard := some (1, true) } : Oper)) (v := ?_) rfl (by kernel_rfl) (by kernel_rfl) (by kernel_rfl) (fun _ _ _ h => h) (Or.inl ⟨rfl, ?_⟩) (by assumption) ?_
                  rotate_left
                  · intro wz hSw; (try dsimp only at hSw); go_simp; try with_reducible rfl
                  try simp only [Act.put, List.setIfInBounds_toArray, List.set_cons_zero, List.set_cons_succ]
                  refine wpAnyH_take (i := 17) (oi := ({ dst := some 155, op := Op.binOp BinOp.eql 4 (Operand.tmp 145) (Operand.tmp 154) 4, type := 4, pos := "law.go:113", after := #[{ on := 7, ground := Ground.data }, { on := 16, ground := Ground.data }, { on := 1, ground := Ground.guard }], guard := some (1, true) } : Oper)) (v := ?_) rfl (by kernel_rfl) (by kernel_rfl) (by kernel_rfl) (fun _ _ _ h => h) (Or.inl ⟨rfl, ?_⟩) (by assumption) ?_
                  rotate_left
                  · intro wz hSw; (try dsimp only at hSw); go_simp; try with_reducible rfl
                  try simp only [Act.put, List.setIfInBounds_toArray, List.set_cons_zero, List.set_cons_succ]
                  refine wpAnyH_take (i := 18) (oi := ({ dst := some 156, op := Op.pick (Operand.tmp 139) (Operand.tmp 155) (Operand.const (Value.bool false)), type := 4, pos := "law.go:113", after := #[{ on := 1, ground := Ground.data }, { on := 17, ground := Ground.data }], guard := none } : Oper)) (v := ?_) rfl (by kernel_rfl) (by kernel_rfl) (by kernel_rfl) (fun _ _ _ h => h) (Or.inl ⟨rfl, ?_⟩) (by assumption) ?_
                  rotate_left
                  · intro wz hSw; (try dsimp only at hSw); go_simp; try with_reducible rfl
                  try simp only [Act.put, List.setIfInBounds_toArray, List.set_cons_zero, List.set_cons_succ]
                  refine wpAnyH_take (i := 19) (oi := ({ dst := some 157, op := Op.move (Operand.tmp 156), type := 4, pos := "law.go:113", after := #[{ on := 18, ground := Ground.data }, { on := 12, ground := Ground.chain }], guard := none } : Oper)) (v := ?_) rfl (by kernel_rfl) (by kernel_rfl) (by kernel_rfl) (fun _ _ _ h => h) (Or.inl ⟨rfl, ?_⟩) (by assumption) ?_
                  rotate_left
                  · intro wz hSw; (try dsimp only at hSw); go_simp; try with_reducible rfl
                  try simp only [Act.put, List.setIfInBounds_toArray, List.set_cons_zero, List.set_cons_succ]
                  refine wpAnyH_take (i := 20) (oi := ({ dst := some 158, op := Op.move (Operand.tmp 14), type := 22, pos := "law.go:113", after := #[{ on := 19, ground := Ground.guard }], guard := some (19, true) } : Oper)) (v := ?_) rfl (by kernel_rfl) (by kernel_rfl) (by kernel_rfl) (fun _ _ _ h => h) (Or.inl ⟨rfl, ?_⟩) (by assumption) ?_
                  rotate_left
                  · intro wz hSw; (try dsimp only at hSw); go_simp; try with_reducible rfl
                  try simp only [Act.put, List.setIfInBounds_toArray, List.set_cons_zero, List.set_cons_succ]
                  refine wpAnyH_take (i := 21) (oi := ({ dst := some 159, op := Op.move (Operand.tmp 15), type := 24, pos := "law.go:113", after := #[{ on := 19, ground := Ground.guard }], guard := some (19, true) } : Oper)) (v := ?_) rfl (by kernel_rfl) (by kernel_rfl) (by kernel_rfl) (fun _ _ _ h => h) (Or.inl ⟨rfl, ?_⟩) (by assumption) ?_
                  rotate_left
                  · intro wz hSw; (try dsimp only at hSw); go_simp; try with_reducible rfl
                  try simp only [Act.put, List.setIfInBounds_toArray, List.set_cons_zero, List.set_cons_succ]
                  refine wpAnyH_take (i := 23) (oi := ({ dst := some 161, op := Op.move (Operand.tmp 15), type := 24, pos := "law.go:113", after := #[{ on := 19, ground := Ground.guard }], guard := some (19, true) } : Oper)) (v := ?_) rfl (by kernel_rfl) (by kernel_rfl) (by kernel_rfl) (fun _ _ _ h => h) (Or.inl ⟨rfl, ?_⟩) (by assumption) ?_
                  rotate_left
                  · intro wz hSw; (try dsimp only at hSw); go_simp; try with_reducible rfl
                  try simp only [Act.put, List.setIfInBounds_toArray, List.set_cons_zero, List.set_cons_succ]
                  refine wpAnyH_take (i := 25) (oi := ({ dst := some 163, op := Op.move (Operand.tmp 17), type := 25, pos := "law.go:113", after := #[{ on := 19, ground := Ground.guard }], guard := some (19, true) } : Oper)) (v := ?_) rfl (by kernel_rfl) (by kernel_rfl) (by kernel_rfl) (fun _ _ _ h => h) (Or.inl ⟨rfl, ?_⟩) (by assumption) ?_
                  rotate_left
                  · intro wz hSw; (try dsimp only at hSw); go_simp; try with_reducible rfl
                  try simp only [Act.put, List.setIfInBounds_toArray, List.set_cons_zero, List.set_cons_succ]
                  refine wpAnyH_take (i := 26) (oi := ({ dst := some 164, op := Op.load 40 (Operand.tmp 18), type := 40, pos := "law.go:113", after := #[{ on := 19, ground := Ground.guard }], guard := some (19, true) } : Oper)) (v := ?_) rfl (by kernel_rfl) (by kernel_rfl) (by kernel_rfl) (fun _ _ _ h => h) (Or.inl ⟨rfl, ?_⟩) (by assumption) ?_
                  rotate_left
                  · intro wz hSw; (try dsimp only at hSw); go_simp; try with_reducible rfl
                  try simp only [Act.put, List.setIfInBounds_toArray, List.set_cons_zero, List.set_cons_succ]
                  refine wpAnyH_ready (rs := [22]) (by kernel_rfl) (by simp) ?_
                  refine AllReadyH.cons (o := ({ dst := some 160, op := Op.call { callee := Callee.builtin Builtin.append, args := #[Operand.const (Value.slice none 0 0), Operand.tmp 159], argTypes := #[24, 24] }, type := 24, pos := "law.go:113", after := #[{ on := 21, ground := Ground.data }, { on := 19, ground := Ground.chain }, { on := 19, ground := Ground.guard }], guard := some (19, true) } : Oper)) rfl (fun K9 hK9 => ?_) AllReadyH.nil
                  refine step_append_guarded rfl _ _ 24 rfl _ 25 i0 (.int .u64 0) 1 8 Try.underlying24 hi hy0 hy1 hy2 rfl (by decide) (.slice none 0 0) 0 [] rfl (World.ownsRow_nil _ _ _ _) K ks.length kc (ks.map wv) rfl (by rw [List.length_map, Nat.mul_one]) (hKc.news rfl) (words_one _) (by unfold maxLen; omega) (by omega) (Nat.le_refl _) ?_
                  intro S1 cap1 wA own1 grow1
                  simp only [Nat.zero_add, List.nil_append] at own1 ⊢
                  have hB1 : Below wq.heap.size wq wA := Below.grown bC grow1 bC.size (fun k h => by cases h)
                  have hz2 := (qA.on hB1).two
                  have hKa := HKD.out.on hB1
                  have ob1 : ∀ k, (Value.slice S1 ks.length cap1).ownBlock = some k → wq.heap.size ≤ k := fun k h => Nat.le_trans bC.size (own1.lt k h).1
                  clear hHeld
                  refine hK9.out _ _ hz2 (fun hHeld => ?_)
                  clear hK9 K9
                  try simp only [Act.put, List.setIfInBounds_toArray, List.set_cons_zero, List.set_cons_succ]
                  refine wpAnyH_ready (rs := [24]) (by kernel_rfl) (by simp) ?_
                  refine AllReadyH.cons (o := ({ dst := some 162, op := Op.call { callee := Callee.builtin Builtin.append, args := #[Operand.tmp 160, Operand.tmp 161], argTypes := #[24, 24] }, type := 24, pos := "law.go:113", after := #[{ on := 22, ground := Ground.data }, { on := 23, ground := Ground.data }, { on := 22, ground := Ground.chain }, { on := 19, ground := Ground.guard }], guard := some (19, true) } : Oper)) rfl (fun K9 hK9 => ?_) AllReadyH.nil
                  refine step_append_guarded rfl _ _ 24 rfl _ 25 i0 (.int .u64 0) 1 8 Try.underlying24 hi hy0 hy1 hy2 rfl (by decide) (.slice S1 ks.length cap1) ks.length _ rfl own1 K ks.length kc (ks.map wv) rfl (by rw [List.length_map, Nat.mul_one]) (hKa.news rfl) (words_one _) (by unfold maxLen; omega) (by omega) grow1.size ?_
                  intro S2 cap2 wB own2 grow2
                  have hB2 : Below wq.heap.size wq wB := Below.grown hB1 grow2 hB1.size ob1
                  have hz3 := (qA.on hB2).two
                  have own2' := own2
                  rw [← List.map_append] at own2'
                  have trx := words_own own2' (by rw [List.length_append])
                  have c2 := Check_eq A S2 SA t.length c (ks.length + ks.length) cap2 l.length sa t l (ks ++ ks) r false false HCD.out (by rw [List.length_append]) rfl wB (hT.on hB2) trx (hA.on hB2) hfitD (by omega) (by rw [List.length_append]; omega) (by omega)
                  clear hHeld
                  refine hK9.out _ _ hz3 (fun hHeld => ?_)
                  clear hK9 K9
                  try simp only [Act.put, List.setIfInBounds_toArray, List.set_cons_zero, List.set_cons_succ]
                  refine wpAnyH_take (i := 27) (oi := ({ dst := some 165, op := Op.build 44 #[(0, Operand.tmp 162), (1, Operand.tmp 163), (2, Operand.tmp 164)], type := 44, pos := "law.go:113", after := #[{ on := 24, ground := Ground.data }, { on := 25, ground := Ground.data }, { on := 26, ground := Ground.data }, { on := 19, ground := Ground.guard }], guard := some (19, true) } : Oper)) (v := ?_) rfl (by kernel_rfl) (by kernel_rfl) (by kernel_rfl) (fun _ _ _ h => h) (Or.inl ⟨rfl, ?_⟩) (by assumption) ?_
                  rotate_left
                  · intro wz hSw; (try dsimp only at hSw); go_simp; try with_reducible rfl
                  try simp only [Act.put, List.setIfInBounds_toArray, List.set_cons_zero, List.set_cons_succ]
                  refine wpAnyH_ready (rs := [28]) (by kernel_rfl) (by simp) ?_
                  refine AllReadyH.cons (o := ({ dst := some 166, op := Op.call { callee := Callee.value (Operand.func 21), args := #[Operand.tmp 158, Operand.tmp 165], argTypes := #[22, 44] }, type := 4, pos := "law.go:113", after := #[{ on := 20, ground := Ground.data }, { on := 27, ground := Ground.data }, { on := 24, ground := Ground.chain }, { on := 19, ground := Ground.guard }], guard := some (19, true) } : Oper)) rfl (fun K9 hK9 => ?_) AllReadyH.nil
                  go_simp
                  with_reducible refine c2.mono ?_
                  rintro e wE ⟨rfl, bE'⟩
                  have bE := hB2.trans (bE'.mono hB2.size)
                  have hz4 := (qA.on bE).two
                  go_wp2_with fail
                  clear hHeld
                  refine hK9.out _ _ hz4 (fun hHeld => ?_)
                  clear hK9 K9
                  try simp only [Act.put, List.setIfInBounds_toArray, List.set_cons_zero, List.set_cons_succ]
                  refine wpAnyH_take (i := 29) (oi := ({ dst := some 167, op := Op.unOp UnOp.not 4 (Operand.tmp 166), type := 4, pos := "law.go:113", after := #[{ on := 28, ground := Ground.data }, { on := 19, ground := Ground.guard }], guard := some (19, true) } : Oper)) (v := ?_) rfl (by kernel_rfl) (by kernel_rfl) (by kernel_rfl) (fun _ _ _ h => h) (Or.inl ⟨rfl, ?_⟩) (by assumption) ?_
                  rotate_left
                  · intro wz hSw; (try dsimp only at hSw); go_simp; try with_reducible rfl
                  try simp only [Act.put, List.setIfInBounds_toArray, List.set_cons_zero, List.set_cons_succ]
                  refine wpAnyH_take (i := 30) (oi := ({ dst := some 168, op := Op.pick (Operand.tmp 157) (Operand.tmp 167) (Operand.const (Value.bool false)), type := 4, pos := "law.go:113", after := #[{ on := 19, ground := Ground.data }, { on := 29, ground := Ground.data }], guard := none } : Oper)) (v := ?_) rfl (by kernel_rfl) (by kernel_rfl) (by kernel_rfl) (fun _ _ _ h => h) (Or.inl ⟨rfl, ?_⟩) (by assumption) ?_
                  rotate_left
                  · intro wz hSw; (try dsimp only at hSw); go_simp; try with_reducible rfl
                  try simp only [Act.put, List.setIfInBounds_toArray, List.set_cons_zero, List.set_cons_succ]
                  refine wpAnyH_take (i := 31) (oi := ({ dst := some 12, op := Op.assign (Operand.tmp 168), type := 4, pos := "law.go:113", after := #[{ on := 30, ground := Ground.data }, { on := 28, ground := Ground.chain }, { on := 0, ground := Ground.phase }, { on := 1, ground := Ground.phase }, { on := 2, ground := Ground.phase }, { on := 3, ground := Ground.phase }, { on := 4, ground := Ground.phase }, { on := 5, ground := Ground.phase }, { on := 6, ground := Ground.phase }, { on := 7, ground := Ground.phase }, { on := 8, ground := Ground.phase }, { on := 9, ground := Ground.phase }, { on := 10, ground := Ground.phase }, { on := 11, ground := Ground.phase }, { on := 12, ground := Ground.phase }, { on := 13, ground := Ground.phase }, { on := 14, ground := Ground.phase }, { on := 15, ground := Ground.phase }, { on := 16, ground := Ground.phase }, { on := 17, ground := Ground.phase }, { on := 18, ground := Ground.phase }, { on := 19, ground := Ground.phase }, { on := 20, ground := Ground.phase }, { on := 21, ground := Ground.phase }, { on := 22, ground := Ground.phase }, { on := 23, ground := Ground.phase }, { on := 24, ground := Ground.phase }, { on := 25, ground := Ground.phase }, { on := 26, ground := Ground.phase }, { on := 27, ground := Ground.phase }, { on := 28, ground := Ground.phase }, { on := 29, ground := Ground.phase }, { on := 30, ground := Ground.phase }], guard := none } : Oper)) (v := ?_) rfl (by kernel_rfl) (by kernel_rfl) (by kernel_rfl) (fun _ _ _ h => h) (Or.inl ⟨rfl, ?_⟩) (by assumption) ?_
                  rotate_left
                  · intro wz hSw; (try dsimp only at hSw); go_simp; try with_reducible rfl
                  try simp only [Act.put, List.setIfInBounds_toArray, List.set_cons_zero, List.set_cons_succ]
                  refine wpAnyH_done (by kernel_rfl) ?_ _
                  all_goals
                    go_simp
                    go_wp2_with fail
                    go_ret
                    exact ⟨rfl, BQ.trans (bE.mono BQ.size)⟩
                · have hX' : checkO t os z false l = false := by rw [hX]; simp [hzr]
                  clear hX
                  have hX := hX'
                  have g7 : ((z : Int) = (r : Int)) = False := eq_false (by omega)
                  have g8 : (z = r) = False := eq_false hzr
                  have g9 : ((z : Int) == (r : Int)) = false := by rw [beq_eq_false_iff_ne]; omega
                  go_upto_region 28 with (fail)
                  have hBd : Below wq.heap.size wq wq.drew := (Below.refl _ _).drew
                  have hz0 := qA.two
                  have c1 := Check_eq A O SA t.length c os.length oc l.length sa t l os z false false hX rfl rfl _ (hT.on hBd) (hO.on hBd) (hA.on hBd) hfitO (by omega) (by omega) (by omega)
                  have hfitD : ∀ x ∈ ks ++ ks, x < 18446744073709551616 := fun x hx => by
                    rcases List.mem_append.1 hx with h | h <;> exact hfit x h
                  obtain ⟨y0, y1⟩ := hz0
                  have HKD := Lib.hid hK
                  clear hK
                  refine wp_region_held_drew (S := (fun w' => w'.cell? ⟨gA, 0, none⟩ = some (.bool false) ∧ w'.cell? ⟨gA, 1, none⟩ = some (.slice SA l.length sa))) (by kernel_rfl) (qA.on hBd).two (fun hHeld => ?_)
                  refine wpAnyH_take (i := 0) (oi := ({ dst := some 138, op := Op.move (Operand.tmp 13), type := 4, pos := "law.go:113", after := #[], guard := none } : Oper)) (v := ?_) rfl (by kernel_rfl) (by kernel_rfl) (by kernel_rfl) (fun _ _ _ h => h) (Or.inl ⟨rfl, ?_⟩) (by assumption) ?_
                  rotate_left
                  · intro wz hSw; (try dsimp only at hSw); go_simp; try with_reducible rfl
                  try simp only [Act.put, List.setIfInBounds_toArray, List.set_cons_zero, List.set_cons_succ]
                  refine wpAnyH_take (i := 1) (oi := ({ dst := some 139, op := Op.move (Operand.tmp 138), type := 4, pos := "law.go:113", after := #[{ on := 0, ground := Ground.data }], guard := none } : Oper)) (v := ?_) rfl (by kernel_rfl) (by kernel_rfl) (by kernel_rfl) (fun _ _ _ h => h) (Or.inl ⟨rfl, ?_⟩) (by assumption) ?_
                  rotate_left
                  · intro wz hSw; (try dsimp only at hSw); go_simp; try with_reducible rfl
                  try simp only [Act.put, List.setIfInBounds_toArray, List.set_cons_zero, List.set_cons_succ]
                  refine wpAnyH_take (i := 2) (oi := ({ dst := some 140, op := Op.move (Operand.tmp 14), type := 22, pos := "law.go:113", after := #[{ on := 1, ground := Ground.guard }], guard := some (1, true) } : Oper)) (v := ?_) rfl (by kernel_rfl) (by kernel_rfl) (by kernel_rfl) (fun _ _ _ h => h) (Or.inl ⟨rfl, ?_⟩) (by assumption) ?_
                  rotate_left
                  · intro wz hSw; (try dsimp only at hSw); go_simp; try with_reducible rfl
                  try simp only [Act.put, List.setIfInBounds_toArray, List.set_cons_zero, List.set_cons_succ]
                  refine wpAnyH_take (i := 3) (oi := ({ dst := some 141, op := Op.move (Operand.tmp 16), type := 24, pos := "law.go:113", after := #[{ on := 1, ground := Ground.guard }], guard := some (1, true) } : Oper)) (v := ?_) rfl (by kernel_rfl) (by kernel_rfl) (by kernel_rfl) (fun _ _ _ h => h) (Or.inl ⟨rfl, ?_⟩) (by assumption) ?_
                  rotate_left
                  · intro wz hSw; (try dsimp only at hSw); go_simp; try with_reducible rfl
                  try simp only [Act.put, List.setIfInBounds_toArray, List.set_cons_zero, List.set_cons_succ]
                  refine wpAnyH_take (i := 4) (oi := ({ dst := some 142, op := Op.move (Operand.tmp 29), type := 25, pos := "law.go:113", after := #[{ on := 1, ground := Ground.guard }], guard := some (1, true) } : Oper)) (v := ?_) rfl (by kernel_rfl) (by kernel_rfl) (by kernel_rfl) (fun _ _ _ h => h) (Or.inl ⟨rfl, ?_⟩) (by assumption) ?_
                  rotate_left
                  · intro wz hSw; (try dsimp only at hSw); go_simp; try with_reducible rfl
                  try simp only [Act.put, List.setIfInBounds_toArray, List.set_cons_zero, List.set_cons_succ]
                  refine wpAnyH_take (i := 5) (oi := ({ dst := some 143, op := Op.load 40 (Operand.tmp 18), type := 40, pos := "law.go:113", after := #[{ on := 1, ground := Ground.guard }], guard := some (1, true) } : Oper)) (v := ?_) rfl (by kernel_rfl) (by kernel_rfl) (by kernel_rfl) (fun _ _ _ h => h) (Or.inl ⟨rfl, ?_⟩) (by assumption) ?_
                  rotate_left
                  · intro wz hSw; (try dsimp only at hSw); go_simp; try with_reducible rfl
                  try simp only [Act.put, List.setIfInBounds_toArray, List.set_cons_zero, List.set_cons_succ]
                  refine wpAnyH_take (i := 6) (oi := ({ dst := some 144, op := Op.build 44 #[(0, Operand.tmp 141), (1, Operand.tmp 142), (2, Operand.tmp 143)], type := 44, pos := "law.go:113", after := #[{ on := 3, ground := Ground.data }, { on := 4, ground := Ground.data }, { on := 5, ground := Ground.data }, { on := 1, ground := Ground.guard }], guard := some (1, true) } : Oper)) (v := ?_) rfl (by kernel_rfl) (by kernel_rfl) (by kernel_rfl) (fun _ _ _ h => h) (Or.inl ⟨rfl, ?_⟩) (by assumption) ?_
                  rotate_left
                  · intro wz hSw; (try dsimp only at hSw); go_simp; try with_reducible rfl
                  try simp only [Act.put, List.setIfInBounds_toArray, List.set_cons_zero, List.set_cons_succ]
                  refine wpAnyH_take (i := 8) (oi := ({ dst := some 146, op := Op.move (Operand.tmp 22), type := 4, pos := "law.go:113", after := #[{ on := 1, ground := Ground.guard }], guard := some (1, true) } : Oper)) (v := ?_) rfl (by kernel_rfl) (by kernel_rfl) (by kernel_rfl) (fun _ _ _ h => h) (Or.inl ⟨rfl, ?_⟩) (by assumption) ?_
                  rotate_left
                  · intro wz hSw; (try dsimp only at hSw); go_simp; try with_reducible rfl
                  try simp only [Act.put, List.setIfInBounds_toArray, List.set_cons_zero, List.set_cons_succ]
                  refine wpAnyH_ready (rs := [7]) (by kernel_rfl) (by simp) ?_
                  refine AllReadyH.cons (o := ({ dst := some 145, op := Op.call { callee := Callee.value (Operand.func 21), args := #[Operand.tmp 140, Operand.tmp 144], argTypes := #[22, 44] }, type := 4, pos := "law.go:113", after := #[{ on := 2, ground := Ground.data }, { on := 6, ground := Ground.data }, { on := 1, ground := Ground.chain }, { on := 1, ground := Ground.guard }], guard := some (1, true) } : Oper)) rfl (fun K9 hK9 => ?_) AllReadyH.nil
                  go_simp
                  with_reducible refine c1.mono ?_
                  rintro e wC ⟨rfl, bC'⟩
                  have bC := hBd.trans (bC'.mono hBd.size)
                  have hz1 := (qA.on bC).two
                  have hKc := HKD.out.on bC
                  go_wp2_with fail
                  clear hHeld
                  refine hK9.out _ _ hz1 (fun hHeld => ?_)
                  clear hK9 K9
                  try simp only [Act.put, List.setIfInBounds_toArray, List.set_cons_zero, List.set_cons_succ]
                  refine wpAnyH_take (i := 9) (oi := ({ dst := some 147, op := Op.move (Operand.tmp 146), type := 4, pos := "law.go:113", after := #[{ on := 8, ground := Ground.data }, { on := 7, ground := Ground.chain }, { on := 1, ground := Ground.guard }], guard := some (1, true) } : Oper)) (v := ?_) rfl (by kernel_rfl) (by kernel_rfl) (by kernel_rfl) (fun _ _ _ h => h) (Or.inl ⟨rfl, ?_⟩) (by assumption) ?_
                  rotate_left
                  · intro wz hSw; (try dsimp only at hSw); go_simp; try with_reducible rfl
                  try simp only [Act.put, List.setIfInBounds_toArray, List.set_cons_zero, List.set_cons_succ]
                  refine wpAnyH_take (i := 10) (oi := ({ dst := some 148, op := Op.move (Operand.tmp 25), type := 4, pos := "law.go:113", after := #[{ on := 9, ground := Ground.guard }], guard := some (9, true) } : Oper)) (v := ?_) rfl (by kernel_rfl) (by kernel_rfl) (by kernel_rfl) (fun _ _ _ h => h) (Or.inl ⟨rfl, ?_⟩) (by assumption) ?_
                  rotate_left
                  · intro wz hSw; (try dsimp only at hSw); go_simp; try with_reducible rfl
                  try simp only [Act.put, List.setIfInBounds_toArray, List.set_cons_zero, List.set_cons_succ]
                  refine wpAnyH_take (i := 11) (oi := ({ dst := some 149, op := Op.pick (Operand.tmp 147) (Operand.tmp 148) (Operand.const (Value.bool false)), type := 4, pos := "law.go:113", after := #[{ on := 9, ground := Ground.data }, { on := 10, ground := Ground.data }, { on := 1, ground := Ground.guard }], guard := some (1, true) } : Oper)) (v := ?_) rfl (by kernel_rfl) (by kernel_rfl) (by kernel_rfl) (fun _ _ _ h => h) (Or.inl ⟨rfl, ?_⟩) (by assumption) ?_
                  rotate_left
                  · intro wz hSw; (try dsimp only at hSw); go_simp; try with_reducible rfl
                  try simp only [Act.put, List.setIfInBounds_toArray, List.set_cons_zero, List.set_cons_succ]
                  refine wpAnyH_take (i := 12) (oi := ({ dst := some 150, op := Op.move (Operand.tmp 149), type := 4, pos := "law.go:113", after := #[{ on := 11, ground := Ground.data }, { on := 9, ground := Ground.chain }, { on := 1, ground := Ground.guard }], guard := some (1, true) } : Oper)) (v := ?_) rfl (by kernel_rfl) (by kernel_rfl) (by kernel_rfl) (fun _ _ _ h => h) (Or.inl ⟨rfl, ?_⟩) (by assumption) ?_
                  rotate_left
                  · intro wz hSw; (try dsimp only at hSw); go_simp; try with_reducible rfl
                  try simp only [Act.put, List.setIfInBounds_toArray, List.set_cons_zero, List.set_cons_succ]
                  refine wpAnyH_take (i := 13) (oi := ({ dst := some 151, op := Op.move (Operand.tmp 29), type := 25, pos := "law.go:113", after := #[{ on := 12, ground := Ground.guard }], guard := some (12, true) } : Oper)) (v := ?_) rfl (by kernel_rfl) (by kernel_rfl) (by kernel_rfl) (fun _ _ _ h => h) (Or.inl ⟨rfl, ?_⟩) (by assumption) ?_
                  rotate_left
                  · intro wz hSw; (try dsimp only at hSw); go_simp; try with_reducible rfl
                  try simp only [Act.put, List.setIfInBounds_toArray, List.set_cons_zero, List.set_cons_succ]
                  refine wpAnyH_take (i := 14) (oi := ({ dst := some 152, op := Op.move (Operand.tmp 17), type := 25, pos := "law.go:113", after := #[{ on := 12, ground := Ground.guard }], guard := some (12, true) } : Oper)) (v := ?_) rfl (by kernel_rfl) (by kernel_rfl) (by kernel_rfl) (fun _ _ _ h => h) (Or.inl ⟨rfl, ?_⟩) (by assumption) ?_
                  rotate_left
                  · intro wz hSw; (try dsimp only at hSw); go_simp; try with_reducible rfl
                  try simp only [Act.put, List.setIfInBounds_toArray, List.set_cons_zero, List.set_cons_succ]
                  refine wpAnyH_take (i := 15) (oi := ({ dst := some 153, op := Op.binOp BinOp.eql 25 (Operand.tmp 151) (Operand.tmp 152) 25, type := 4, pos := "law.go:113", after := #[{ on := 13, ground := Ground.data }, { on := 14, ground := Ground.data }, { on := 12, ground := Ground.guard }], guard := some (12, true) } : Oper)) (v := ?_) rfl (by kernel_rfl) (by kernel_rfl) (by kernel_rfl) (fun _ _ _ h => h) (Or.inl ⟨rfl, ?_⟩) (by assumption) ?_
                  rotate_left
                  · intro wz hSw; (try dsimp only at hSw); go_simp; try with_reducible rfl
                  try simp only [Act.put, List.setIfInBounds_toArray, List.set_cons_zero, List.set_cons_succ]
                  refine wpAnyH_take (i := 16) (oi := ({ dst := some 154, op := Op.pick (Operand.tmp 150) (Operand.tmp 153) (Operand.const (Value.bool false)), type := 4, pos := "law.go:113", after := #[{ on := 12, ground := Ground.data }, { on := 15, ground := Ground.data }, { on := 1, ground := Ground.guard }], guard := some (1, true) } : Oper)) (v := ?_) rfl (by kernel_rfl) (by kernel_rfl) (by kernel_rfl) (fun _ _ _ h => h) (Or.inl ⟨rfl, ?_⟩) (by assumption) ?_
                  rotate_left
                  · intro wz hSw; (try dsimp only at hSw); go_simp; try with_reducible rfl
                  try simp only [Act.put, List.setIfInBounds_toArray, List.set_cons_zero, List.set_cons_succ]
                  refine wpAnyH_take (i := 17) (oi := ({ dst := some 155, op := Op.binOp BinOp.eql 4 (Operand.tmp 145) (Operand.tmp 154) 4, type := 4, pos := "law.go:113", after := #[{ on := 7, ground := Ground.data }, { on := 16, ground := Ground.data }, { on := 1, ground := Ground.guard }], guard := some (1, true) } : Oper)) (v := ?_) rfl (by kernel_rfl) (by kernel_rfl) (by kernel_rfl) (fun _ _ _ h => h) (Or.inl ⟨rfl, ?_⟩) (by assumption) ?_
                  rotate_left
                  · intro wz hSw; (try dsimp only at hSw); go_simp; try with_reducible rfl
                  try simp only [Act.put, List.setIfInBounds_toArray, List.set_cons_zero, List.set_cons_succ]
                  refine wpAnyH_take (i := 18) (oi := ({ dst := some 156, op := Op.pick (Operand.tmp 139) (Operand.tmp 155) (Operand.const (Value.bool false)), type := 4, pos := "law.go:113", after := #[{ on := 1, ground := Ground.data }, { on := 17, ground := Ground.data }], guard := none } : Oper)) (v := ?_) rfl (by kernel_rfl) (by kernel_rfl) (by kernel_rfl) (fun _ _ _ h => h) (Or.inl ⟨rfl, ?_⟩) (by assumption) ?_
                  rotate_left
                  · intro wz hSw; (try dsimp only at hSw); go_simp; try with_reducible rfl
                  try simp only [Act.put, List.setIfInBounds_toArray, List.set_cons_zero, List.set_cons_succ]
                  refine wpAnyH_take (i := 19) (oi := ({ dst := some 157, op := Op.move (Operand.tmp 156), type := 4, pos := "law.go:113", after := #[{ on := 18, ground := Ground.data }, { on := 12, ground := Ground.chain }], guard := none } : Oper)) (v := ?_) rfl (by kernel_rfl) (by kernel_rfl) (by kernel_rfl) (fun _ _ _ h => h) (Or.inl ⟨rfl, ?_⟩) (by assumption) ?_
                  rotate_left
                  · intro wz hSw; (try dsimp only at hSw); go_simp; try with_reducible rfl
                  try simp only [Act.put, List.setIfInBounds_toArray, List.set_cons_zero, List.set_cons_succ]
                  refine wpAnyH_take (i := 20) (oi := ({ dst := some 158, op := Op.move (Operand.tmp 14), type := 22, pos := "law.go:113", after := #[{ on := 19, ground := Ground.guard }], guard := some (19, true) } : Oper)) (v := ?_) rfl (by kernel_rfl) (by kernel_rfl) (by kernel_rfl) (fun _ _ _ h => h) (Or.inl ⟨rfl, ?_⟩) (by assumption) ?_
                  rotate_left
                  · intro wz hSw; (try dsimp only at hSw); go_simp; try with_reducible rfl
                  try simp only [Act.put, List.setIfInBounds_toArray, List.set_cons_zero, List.set_cons_succ]
                  refine wpAnyH_take (i := 21) (oi := ({ dst := some 159, op := Op.move (Operand.tmp 15), type := 24, pos := "law.go:113", after := #[{ on := 19, ground := Ground.guard }], guard := some (19, true) } : Oper)) (v := ?_) rfl (by kernel_rfl) (by kernel_rfl) (by kernel_rfl) (fun _ _ _ h => h) (Or.inl ⟨rfl, ?_⟩) (by assumption) ?_
                  rotate_left
                  · intro wz hSw; (try dsimp only at hSw); go_simp; try with_reducible rfl
                  try simp only [Act.put, List.setIfInBounds_toArray, List.set_cons_zero, List.set_cons_succ]
                  refine wpAnyH_take (i := 23) (oi := ({ dst := some 161, op := Op.move (Operand.tmp 15), type := 24, pos := "law.go:113", after := #[{ on := 19, ground := Ground.guard }], guard := some (19, true) } : Oper)) (v := ?_) rfl (by kernel_rfl) (by kernel_rfl) (by kernel_rfl) (fun _ _ _ h => h) (Or.inl ⟨rfl, ?_⟩) (by assumption) ?_
                  rotate_left
                  · intro wz hSw; (try dsimp only at hSw); go_simp; try with_reducible rfl
                  try simp only [Act.put, List.setIfInBounds_toArray, List.set_cons_zero, List.set_cons_succ]
                  refine wpAnyH_take (i := 25) (oi := ({ dst := some 163, op := Op.move (Operand.tmp 17), type := 25, pos := "law.go:113", after := #[{ on := 19, ground := Ground.guard }], guard := some (19, true) } : Oper)) (v := ?_) rfl (by kernel_rfl) (by kernel_rfl) (by kernel_rfl) (fun _ _ _ h => h) (Or.inl ⟨rfl, ?_⟩) (by assumption) ?_
                  rotate_left
                  · intro wz hSw; (try dsimp only at hSw); go_simp; try with_reducible rfl
                  try simp only [Act.put, List.setIfInBounds_toArray, List.set_cons_zero, List.set_cons_succ]
                  refine wpAnyH_take (i := 26) (oi := ({ dst := some 164, op := Op.load 40 (Operand.tmp 18), type := 40, pos := "law.go:113", after := #[{ on := 19, ground := Ground.guard }], guard := some (19, true) } : Oper)) (v := ?_) rfl (by kernel_rfl) (by kernel_rfl) (by kernel_rfl) (fun _ _ _ h => h) (Or.inl ⟨rfl, ?_⟩) (by assumption) ?_
                  rotate_left
                  · intro wz hSw; (try dsimp only at hSw); go_simp; try with_reducible rfl
                  try simp only [Act.put, List.setIfInBounds_toArray, List.set_cons_zero, List.set_cons_succ]
                  refine wpAnyH_ready (rs := [22]) (by kernel_rfl) (by simp) ?_
                  refine AllReadyH.cons (o := ({ dst := some 160, op := Op.call { callee := Callee.builtin Builtin.append, args := #[Operand.const (Value.slice none 0 0), Operand.tmp 159], argTypes := #[24, 24] }, type := 24, pos := "law.go:113", after := #[{ on := 21, ground := Ground.data }, { on := 19, ground := Ground.chain }, { on := 19, ground := Ground.guard }], guard := some (19, true) } : Oper)) rfl (fun K9 hK9 => ?_) AllReadyH.nil
                  refine step_append_guarded rfl _ _ 24 rfl _ 25 i0 (.int .u64 0) 1 8 Try.underlying24 hi hy0 hy1 hy2 rfl (by decide) (.slice none 0 0) 0 [] rfl (World.ownsRow_nil _ _ _ _) K ks.length kc (ks.map wv) rfl (by rw [List.length_map, Nat.mul_one]) (hKc.news rfl) (words_one _) (by unfold maxLen; omega) (by omega) (Nat.le_refl _) ?_
                  intro S1 cap1 wA own1 grow1
                  simp only [Nat.zero_add, List.nil_append] at own1 ⊢
                  have hB1 : Below wq.heap.size wq wA := Below.grown bC grow1 bC.size (fun k h => by cases h)
                  have hz2 := (qA.on hB1).two
                  have hKa := HKD.out.on hB1
                  have ob1 : ∀ k, (Value.slice S1 ks.length cap1).ownBlock = some k → wq.heap.size ≤ k := fun k h => Nat.le_trans bC.size (own1.lt k h).1
                  clear hHeld
                  refine hK9.out _ _ hz2 (fun hHeld => ?_)
                  clear hK9 K9
                  try simp only [Act.put, List.setIfInBounds_toArray, List.set_cons_zero, List.set_cons_succ]
                  refine wpAnyH_ready (rs := [24]) (by kernel_rfl) (by simp) ?_
                  refine AllReadyH.cons (o := ({ dst := some 162, op := Op.call { callee := Callee.builtin Builtin.append, args := #[Operand.tmp 160, Operand.tmp 161], argTypes := #[24, 24] }, type := 24, pos := "law.go:113", after := #[{ on := 22, ground := Ground.data }, { on := 23, ground := Ground.data }, { on := 22, ground := Ground.chain }, { on := 19, ground := Ground.guard }], guard := some (19, true) } : Oper)) rfl (fun K9 hK9 => ?_) AllReadyH.nil
                  refine step_append_guarded rfl _ _ 24 rfl _ 25 i0 (.int .u64 0) 1 8 Try.underlying24 hi hy0 hy1 hy2 rfl (by decide) (.slice S1 ks.length cap1) ks.length _ rfl own1 K ks.length kc (ks.map wv) rfl (by rw [List.length_map, Nat.mul_one]) (hKa.news rfl) (words_one _) (by unfold maxLen; omega) (by omega) grow1.size ?_
                  intro S2 cap2 wB own2 grow2
                  have hB2 : Below wq.heap.size wq wB := Below.grown hB1 grow2 hB1.size ob1
                  have hz3 := (qA.on hB2).two
                  have own2' := own2
                  rw [← List.map_append] at own2'
                  have trx := words_own own2' (by rw [List.length_append])
                  have c2 := Check_eq A S2 SA t.length c (ks.length + ks.length) cap2 l.length sa t l (ks ++ ks) r false false HCD.out (by rw [List.length_append]) rfl wB (hT.on hB2) trx (hA.on hB2) hfitD (by omega) (by rw [List.length_append]; omega) (by omega)
                  clear hHeld
                  refine hK9.out _ _ hz3 (fun hHeld => ?_)
                  clear hK9 K9
                  try simp only [Act.put, List.setIfInBounds_toArray, List.set_cons_zero, List.set_cons_succ]
                  refine wpAnyH_take (i := 27) (oi := ({ dst := some 165, op := Op.build 44 #[(0, Operand.tmp 162), (1, Operand.tmp 163), (2, Operand.tmp 164)], type := 44, pos := "law.go:113", after := #[{ on := 24, ground := Ground.data }, { on := 25, ground := Ground.data }, { on := 26, ground := Ground.data }, { on := 19, ground := Ground.guard }], guard := some (19, true) } : Oper)) (v := ?_) rfl (by kernel_rfl) (by kernel_rfl) (by kernel_rfl) (fun _ _ _ h => h) (Or.inl ⟨rfl, ?_⟩) (by assumption) ?_
                  rotate_left
                  · intro wz hSw; (try dsimp only at hSw); go_simp; try with_reducible rfl
                  try simp only [Act.put, List.setIfInBounds_toArray, List.set_cons_zero, List.set_cons_succ]
                  refine wpAnyH_ready (rs := [28]) (by kernel_rfl) (by simp) ?_
                  refine AllReadyH.cons (o := ({ dst := some 166, op := Op.call { callee := Callee.value (Operand.func 21), args := #[Operand.tmp 158, Operand.tmp 165], argTypes := #[22, 44] }, type := 4, pos := "law.go:113", after := #[{ on := 20, ground := Ground.data }, { on := 27, ground := Ground.data }, { on := 24, ground := Ground.chain }, { on := 19, ground := Ground.guard }], guard := some (19, true) } : Oper)) rfl (fun K9 hK9 => ?_) AllReadyH.nil
                  go_simp
                  with_reducible refine c2.mono ?_
                  rintro e wE ⟨rfl, bE'⟩
                  have bE := hB2.trans (bE'.mono hB2.size)
                  have hz4 := (qA.on bE).two
                  go_wp2_with fail
                  clear hHeld
                  refine hK9.out _ _ hz4 (fun hHeld => ?_)
                  clear hK9 K9
                  try simp only [Act.put, List.setIfInBounds_toArray, List.set_cons_zero, List.set_cons_succ]
                  refine wpAnyH_take (i := 29) (oi := ({ dst := some 167, op := Op.unOp UnOp.not 4 (Operand.tmp 166), type := 4, pos := "law.go:113", after := #[{ on := 28, ground := Ground.data }, { on := 19, ground := Ground.guard }], guard := some (19, true) } : Oper)) (v := ?_) rfl (by kernel_rfl) (by kernel_rfl) (by kernel_rfl) (fun _ _ _ h => h) (Or.inl ⟨rfl, ?_⟩) (by assumption) ?_
                  rotate_left
                  · intro wz hSw; (try dsimp only at hSw); go_simp; try with_reducible rfl
                  try simp only [Act.put, List.setIfInBounds_toArray, List.set_cons_zero, List.set_cons_succ]
                  refine wpAnyH_take (i := 30) (oi := ({ dst := some 168, op := Op.pick (Operand.tmp 157) (Operand.tmp 167) (Operand.const (Value.bool false)), type := 4, pos := "law.go:113", after := #[{ on := 19, ground := Ground.data }, { on := 29, ground := Ground.data }], guard := none } : Oper)) (v := ?_) rfl (by kernel_rfl) (by kernel_rfl) (by kernel_rfl) (fun _ _ _ h => h) (Or.inl ⟨rfl, ?_⟩) (by assumption) ?_
                  rotate_left
                  · intro wz hSw; (try dsimp only at hSw); go_simp; try with_reducible rfl
                  try simp only [Act.put, List.setIfInBounds_toArray, List.set_cons_zero, List.set_cons_succ]
                  refine wpAnyH_take (i := 31) (oi := ({ dst := some 12, op := Op.assign (Operand.tmp 168), type := 4, pos := "law.go:113", after := #[{ on := 30, ground := Ground.data }, { on := 28, ground := Ground.chain }, { on := 0, ground := Ground.phase }, { on := 1, ground := Ground.phase }, { on := 2, ground := Ground.phase }, { on := 3, ground := Ground.phase }, { on := 4, ground := Ground.phase }, { on := 5, ground := Ground.phase }, { on := 6, ground := Ground.phase }, { on := 7, ground := Ground.phase }, { on := 8, ground := Ground.phase }, { on := 9, ground := Ground.phase }, { on := 10, ground := Ground.phase }, { on := 11, ground := Ground.phase }, { on := 12, ground := Ground.phase }, { on := 13, ground := Ground.phase }, { on := 14, ground := Ground.phase }, { on := 15, ground := Ground.phase }, { on := 16, ground := Ground.phase }, { on := 17, ground := Ground.phase }, { on := 18, ground := Ground.phase }, { on := 19, ground := Ground.phase }, { on := 20, ground := Ground.phase }, { on := 21, ground := Ground.phase }, { on := 22, ground := Ground.phase }, { on := 23, ground := Ground.phase }, { on := 24, ground := Ground.phase }, { on := 25, ground := Ground.phase }, { on := 26, ground := Ground.phase }, { on := 27, ground := Ground.phase }, { on := 28, ground := Ground.phase }, { on := 29, ground := Ground.phase }, { on := 30, ground := Ground.phase }], guard := none } : Oper)) (v := ?_) rfl (by kernel_rfl) (by kernel_rfl) (by kernel_rfl) (fun _ _ _ h => h) (Or.inl ⟨rfl, ?_⟩) (by assumption) ?_
                  rotate_left
                  · intro wz hSw; (try dsimp only at hSw); go_simp; try with_reducible rfl
                  try simp only [Act.put, List.setIfInBounds_toArray, List.set_cons_zero, List.set_cons_succ]
                  refine wpAnyH_done (by kernel_rfl) ?_ _
                  all_goals
                    go_simp
                    go_wp2_with fail
                    go_ret
                    exact ⟨rfl, BQ.trans (bE.mono BQ.size)⟩
theorem oone_calls (xs0 : List Int) (v0 : Value) {w : World} (s0 : Ints w w.heap.size v0 xs0) (b0 : ∀ x ∈ xs0, -9223372036854775808 ≤ x ∧ x ≤ 9223372036854775807) (l0 : xs0.length ≤ maxLen) (xs1 : List Int) (v1 : Value) (s1 : Ints w w.heap.size v1 xs1) (b1 : ∀ x ∈ xs1, -9223372036854775808 ≤ x ∧ x ≤ 9223372036854775807) (l1 : xs1.length ≤ maxLen) (a2 : Int) (w2 : (Lit.int .i64 a2).wf = true) (a3 : Int) (w3 : (Lit.int .i64 a3).wf = true) (xs4 : List Int) (v4 : Value) (s4 : Ints w w.heap.size v4 xs4) (b4 : ∀ x ∈ xs4, -9223372036854775808 ≤ x ∧ x ≤ 9223372036854775807) (l4 : xs4.length ≤ maxLen) (a5 : Int) (w5 : (Lit.int .i64 a5).wf = true) :
    Calls Try.prog 4 #[v0, v1, .int .i64 a2, .int .i64 a3, v4, .int .i64 a5] w fun e w' => e = .returned (.bool true) ∧ Below w.heap.size w w' :=
  oone_walk v0 v1 v4 xs0 xs1 xs4 a2 a3 a5 w s0 s1 s4 b0 b1 b4 l0 l1 l4 (bounds_i64 w2) (bounds_i64 w3) (bounds_i64 w5)
end Go.Proofs.Ytjjccoliknngcaa
