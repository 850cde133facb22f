/- Layer 7: Sign and Check with their answers named; small words for its laws.
   Layer 7: plain facts for OracleSign and OracleOne; words of appended slices.
   Layer 7: plain facts for OracleOne; append in a guarded place.
   The walk of OracleTells. -/
import Derived.Test.YtjjccoliknngcaaOrcV
import Derived.OpenShut
import Derived.Deep.CutRange
namespace Go.Proofs.Ytjjccoliknngcaa
open Go.RowKit Go.Lib

/-- Sign of few keys, with the answer named. -/
theorem Sign_eq (r : Nat) (v : Value) (ks : List Nat) (l : List Pr) (hl : signL r ks = l) (w : World) (hv : Wds w w.heap.size v ks) (h9 : ks.length ≤ 2048) :
    Calls Try.prog 25 #[.int .u64 r, v] w fun e w' => ∃ A c, e = .returned (.tuple #[.agg #[.bool false, .slice A l.length c], .int .i64 0]) ∧ Prs w' w'.heap.size (.slice A l.length c) l ∧ Below w.heap.size w w' := by
  have := oSign_any r v ks w hv (by unfold maxLen; omega)
  unfold signO at this
  rw [if_neg (by omega), hl] at this
  exact this
theorem Check_eq (A K P : Option Addr) (n c kn kc pn pc : Nat) (t l : List Pr) (ks : List Nat) (root : Nat) (f b : Bool) (hb : checkO t ks root f l = b) (hn : kn = ks.length) (hp : pn = l.length) (w : World) (hv : Prs w w.heap.size (.slice A n c) t) (hK : Wds w w.heap.size (.slice K kn kc) ks) (hP : Prs w w.heap.size (.slice P pn pc) l)
    (hfit : ∀ x ∈ ks, x < 18446744073709551616) (h9 : t.length ≤ 100000) (h9k : ks.length ≤ 100000) (h9l : l.length ≤ 100000) :
    Calls Try.prog 21 #[.slice A n c, .agg #[.slice K kn kc, .int .u64 root, .bool f, .slice P pn pc]] w fun e w' => e = .returned (.bool b) ∧ Below w.heap.size w w' := by
  subst hn hp hb
  exact oCheck_any (.slice A n c) t K P kc pc ks root f l w hv hK hP hfit h9 h9k h9l

theorem Elems.form' {α : Type} {enc : α → Value} {w : World} {B : Nat} {A : Option Addr} {l c : Nat} {xs : List α} (h : Elems enc w B (.slice A l c) xs) : xs.length ≤ c := by
  obtain ⟨A', c', hv, hc, _⟩ := h
  injection hv with h1 h2 h3
  subst h3
  exact hc
/-- A slice's elements from the n-th on. -/
theorem Elems.past {α : Type} {enc : α → Value} {w : World} {B : Nat} {A : Option Addr} {l c : Nat} {xs : List α} (h : Elems enc w B (.slice A l c) xs) (n : Nat) (hn : n ≤ xs.length) : Elems enc w B (.slice (if c = n then A else A.map (fun x => x.add n)) (xs.length - n) (c - n)) (xs.drop n) := by
  obtain ⟨A', c', hv, hc, ha⟩ := h
  injection hv with h1 h2 h3
  subst h1; subst h3
  refine ⟨_, c - n, by rw [List.length_drop], by rw [List.length_drop]; omega, fun h0 => ?_⟩
  rw [List.length_drop] at h0
  obtain ⟨ad, e, hb, hcell⟩ := ha (by omega)
  subst e
  refine ⟨ad.add n, by rw [if_neg (by omega)]; rfl, by rw [add_block]; exact hb, fun j s hs => ?_⟩
  rw [add_add]
  rw [List.getElem?_drop] at hs
  exact hcell (n + j) s hs

theorem tableO_right {t : List Pr} (h : Rise t) (hl : t.length ≤ 60) : rightO t = true := (rightO_iff _).2 ⟨by omega, h⟩
theorem sign_one (r k : Nat) : signL r [k] = [(k, r)] := by simp [signL, ins, nil_mrg]
theorem check_none (t : List Pr) (r : Nat) (f : Bool) (l : List Pr) : checkO t [] r f l = false := by unfold checkO; simp
theorem merge_ways {x1 x2 x3 : Bool} {n l : Nat} (h1 : x1 = true → x2 = true → x3 = true) (h2 : x3 = true → 0 < n → x1 = true) (h3 : x3 = true → n < l → x2 = true) (zP : n = 0 → x1 = false) (zR : n = l → x2 = false) (hn : n ≤ l) :
    (x3 = false ∧ x1 = false) ∨ (x3 = false ∧ x1 = true ∧ x2 = false) ∨ (x3 = true ∧
      ((((0 : Int) < n) = True ∧ (0 < n) = True ∧ ((n : Int) < l) = True ∧ (n < l) = True ∧ x1 = true ∧ x2 = true) ∨
       (((0 : Int) < n) = True ∧ (0 < n) = True ∧ ((n : Int) < l) = False ∧ (n < l) = False ∧ x1 = true ∧ x2 = false) ∨
       (((0 : Int) < n) = False ∧ (0 < n) = False ∧ ((n : Int) < l) = True ∧ (n < l) = True ∧ x1 = false ∧ x2 = true) ∨
       (((0 : Int) < n) = False ∧ (0 < n) = False ∧ ((n : Int) < l) = False ∧ (n < l) = False ∧ x1 = false ∧ x2 = false))) := by
  cases x3
  · cases x1
    · exact .inl ⟨rfl, rfl⟩
    · cases x2
      · exact .inr (.inl ⟨rfl, rfl, rfl⟩)
      · exact absurd (h1 rfl rfl) (by simp)
  · refine .inr (.inr ⟨rfl, ?_⟩)
    by_cases a : 0 < n <;> by_cases b : n < l
    · exact .inl ⟨eq_true (by omega), eq_true a, eq_true (by omega), eq_true b, h2 rfl a, h3 rfl b⟩
    · exact .inr (.inl ⟨eq_true (by omega), eq_true a, eq_false (by omega), eq_false b, h2 rfl a, zR (by omega)⟩)
    · exact .inr (.inr (.inl ⟨eq_false (by omega), eq_false a, eq_true (by omega), eq_true b, zP (by omega), h3 rfl b⟩))
    · exact .inr (.inr (.inr ⟨eq_false (by omega), eq_false a, eq_false (by omega), eq_false b, zP (by omega), zR (by omega)⟩))
theorem two_toks {w : World} {g : Nat} {t : TypeId} {f h : Bool} {u v : Value} {a b : List Pr} (hr : RowAt w g t [.bool f, u, .bool h, v]) (hu : Prs w w.heap.size u a) (hv : Prs w w.heap.size v b) : TkRow w (.slice (some ⟨g, 0, none⟩) 2 2) [(f, a), (h, b)] :=
  TkRow.of (xs := [(f, u), (h, v)]) hr (.cons ⟨_, rfl, hu⟩ (.cons ⟨_, rfl, hv⟩ (.nil _)))
theorem Tk.of {w : World} {f : Bool} {v : Value} {l : List Pr} (h : Prs w w.heap.size v l) : Tk w (.agg #[.bool f, v]) f l := ⟨_, rfl, h⟩
theorem two_max {f h : Bool} {a b : List Pr} (ha : a.length ≤ maxLen) (hb : b.length ≤ maxLen) : ∀ t ∈ [(f, a), (h, b)], t.2.length ≤ maxLen := by
  intro t ht
  simp at ht
  rcases ht with rfl | rfl
  · exact ha
  · exact hb

end Go.Proofs.Ytjjccoliknngcaa

namespace Go.Proofs.Ytjjccoliknngcaa
open Go.RowKit Go.Lib

/-- A key as a word. -/
abbrev wv (n : Nat) : Value := .int .u64 (n : Int)
theorem words_one (xs : List Nat) : ∀ u ∈ xs.map wv, u.oneCell' = true := by
  intro u hu
  obtain ⟨x, _, rfl⟩ := List.mem_map.1 hu
  rfl
theorem Elems.news {α : Type} {enc : α → Value} {w : World} {B : Nat} {A : Option Addr} {m n c : Nat} {xs : List α} (h : Elems enc w B (.slice A n c) xs) (hm : m = xs.length) : 0 < m → ∃ ad, A = some ad ∧ ∀ j u, (xs.map enc)[j]? = some u → w.cell? (ad.add j) = some u := fun h0 => by
  obtain ⟨A', c', hv, _, ha⟩ := h
  injection hv with h1 h2 h3
  subst h1
  obtain ⟨ad, e, _, hc⟩ := ha (by omega)
  refine ⟨ad, e, fun j u hj => ?_⟩
  rw [List.getElem?_map] at hj
  obtain ⟨x, hx, rfl⟩ := Option.map_eq_some_iff.1 hj
  exact hc j x hx
theorem words_own {w : World} {base : Nat} {e : TypeId} {S : Option Addr} {n c : Nat} {xs : List Nat} (h : w.ownsRow base e 1 (.slice S n c) n (xs.map wv)) (hn : n = xs.length) : Wds w w.heap.size (.slice S n c) xs := by
  subst hn
  exact Elems.own h
theorem Prs.set_box {w : World} {B G : Nat} {t : TypeId} {b : Bool} {X : Option Addr} {n c : Nat} {v : Value} {l : List Pr} (h : Prs w B v l) (r : RowAt w G t [.bool b, .slice X n c]) (b' : Bool) (v' : Value) : Prs ((w.setCell ⟨G, 0, none⟩ (.bool b')).setCell ⟨G, 1, none⟩ v') B v l := by
  have h1 := h.set_no ⟨G, 0, none⟩ (fun m e => by have := r.two.1; rw [this] at e; cases e) (.bool b')
  exact h1.set_no ⟨G, 1, none⟩ (fun m e => by have := (r.set 0 (.bool b')).two.2; rw [this] at e; cases e) v'
/-- What layer 5's Keys tell of a signature: its keys, rising, just if no two are alike. -/
theorem sign_keys (r : Nat) (ks : List Nat) (h : ks.length ≤ 2048) : ∃ L : List Nat, keysT r (signL r ks) = (L, decide ks.Nodup) ∧ (∀ x ∈ L, x ∈ ks) ∧ (∀ i j (_ : i < j) (hj : j < L.length), L[i] < L[j]) ∧ (ks.Nodup → L.length = ks.length) ∧ L.length ≤ ks.length := by
  have hs := signL_srt r ks
  have hp := signL_perm r ks
  have hr := sign_right (r := r) h
  have hl := signL_length r ks
  have hm : ∀ x ∈ (signL r ks).map (·.1), x ∈ ks := fun x hx => by
    obtain ⟨p, hp1, rfl⟩ := List.mem_map.1 hx
    exact (mem_signL.1 hp1).2
  by_cases hn : ks.Nodup
  · refine ⟨(signL r ks).map (·.1), ?_, hm, fun i j hij hj => ?_, fun _ => by rw [List.length_map, hl], by rw [List.length_map, hl]; exact Nat.le_refl _⟩
    · rw [ones_keys hn h hs hp, decide_eq_true hn]
    · have hkt := ones_keys hn h hs hp
      have hkb : keysB r (signL r ks) = true := by
        unfold keysT at hkt
        split at hkt
        · rename_i h1
          rw [Bool.and_eq_true] at h1
          exact h1.2
        · injection hkt with _ h2
          cases h2
      rw [List.length_map] at hj
      rw [List.getElem_map, List.getElem_map]
      exact keysB_rise hs hkb i j hij hj
  · refine ⟨[], ?_, fun x hx => by simp at hx, fun i j _ hj => by simp at hj, fun h => absurd h hn, Nat.zero_le _⟩
    rw [decide_eq_false hn]
    unfold keysT
    cases e : keysB r (signL r ks)
    · rw [Bool.and_false]; rfl
    · exfalso
      have h1 := keysB_nodup hs e
      have h2 := (hp.map (·.1)).nodup_iff.1 h1
      rw [List.map_map] at h2
      have h3 : (List.map ((fun p : Pr => p.1) ∘ fun k => (k, r)) ks) = ks := by simp [Function.comp_def]
      rw [h3] at h2
      exact hn h2
theorem sign_rot (r : Nat) (ks : List Nat) (n : Nat) : signL r (ks.drop n ++ ks.take n) = signL r ks := signL_eq (by
  have := List.perm_append_comm (l₁ := ks.drop n) (l₂ := ks.take n)
  rwa [List.take_append_drop] at this)
/-- Whether the first keys are unlike, one more. -/
theorem nodup_more {ks : List Nat} {i : Nat} (h : i < ks.length) : (decide (ks.take i).Nodup && decide (ks[i] ∉ ks.take i)) = decide (ks.take (i + 1)).Nodup := by
  rw [← Bool.decide_and]
  apply decide_eq_decide.2
  have e := List.take_succ_eq_append_getElem h
  generalize ks[i] = y at *
  generalize ks.take i = l at *
  rw [e, List.nodup_append]
  constructor
  · rintro ⟨h1, h2⟩
    exact ⟨h1, by simp, fun a ha b hb e' => by rw [List.mem_singleton] at hb; exact h2 (by rw [← hb, ← e']; exact ha)⟩
  · rintro ⟨h1, _, h2⟩
    exact ⟨h1, fun ha => h2 _ ha _ (by simp) rfl⟩
theorem unlike_more {ks : List Nat} {j : Nat} (h : j < ks.length) (y : Nat) : (decide (y ∉ ks.take j) && decide (y ≠ ks[j])) = decide (y ∉ ks.take (j + 1)) := by
  rw [← Bool.decide_and]
  apply decide_eq_decide.2
  rw [List.take_succ_eq_append_getElem h, List.mem_append, List.mem_singleton, not_or]
theorem among_more {ks : List Nat} {j : Nat} (h : j < ks.length) (y : Nat) : (decide (y ∈ ks.take j) || decide (ks[j] = y)) = decide (y ∈ ks.take (j + 1)) := by
  rw [← Bool.decide_or]
  apply decide_eq_decide.2
  rw [List.take_succ_eq_append_getElem h, List.mem_append, List.mem_singleton, eq_comm (a := y)]
end Go.Proofs.Ytjjccoliknngcaa

namespace Go.Proofs.Ytjjccoliknngcaa
open Go.RowKit Go.Lib

theorem step_append_guarded {P : Program} {w : World} {ops : Array Oper} {o : Oper} {a : Act} {K : Act → World → Prop} {Q : Exit → Act → World → Prop} {E : Prop} (hw : Region.wanted o (yielded ops a.tmps) = true) (s x : Operand) (t : TypeId)
    (ho : o.op = .call { callee := .builtin .append, args := #[s, x], argTypes := #[t, t] })
    (base : Nat) (e : TypeId) (i : TypeInfo) (z : Value) (size bytes : Nat) (ht : P.underlying t = some (.slice e)) (hi : P.info? e = some i) (hz : i.zero = some z)
    (hsize : i.size = size) (hby : i.bytes = bytes) (hzs : z.cells.size = size) (hsz : 0 < size)
    (v : Value) (n : Nat) (xs : List Value) (hs : a.eval s = v) (hown : w.ownsRow base e size v n xs)
    (X : Option Addr) (m c : Nat) (news : List Value) (hx : a.eval x = .slice X m c) (hl : news.length = m * size) (hnews : 0 < m → ∃ ad, X = some ad ∧ ∀ j u, news[j]? = some u → w.cell? (ad.add j) = some u) (h1 : ∀ u ∈ news, u.oneCell' = true)
    (h63 : n + m ≤ maxLen) (hbytes : (n + m) * bytes ≤ 140737488355328) (hbase : base ≤ w.heap.size)
    (h : ∀ S cap w', w'.ownsRow base e size (.slice S (n + m) cap) (n + m) (xs ++ news) → w.grownBy w' v.ownBlock → K (a.put o.dst (.slice S (n + m) cap)) w') :
    if Region.wanted o (yielded ops a.tmps) = true then Oper.wp P o a w K Q else E := by
  rw [if_pos hw]
  exact wp_append_any s x t ho base e i z size bytes ht hi hz hsize hby hzs hsz v n xs hs hown X m c news hx hl hnews h1 h63 hbytes hbase h
/-- Turned keys check as the keys do. -/
theorem check_turned {t : List Pr} {ks : List Nat} {r n : Nat} : checkO t (ks.drop n ++ ks.take n) r false (signL r ks) = checkO t ks r false (signL r ks) := by
  have hp : (ks.drop n ++ ks.take n).Perm ks := by
    have := List.perm_append_comm (l₁ := ks.drop n) (l₂ := ks.take n)
    rwa [List.take_append_drop] at this
  have e := check_own t (ks.drop n ++ ks.take n) r
  rw [sign_rot] at e
  rw [e, check_own, hp.all_eq, hp.length_eq]
  have e1 : (ks.drop n ++ ks.take n).isEmpty = ks.isEmpty := by
    cases h : ks.isEmpty
    · rw [List.isEmpty_eq_false_iff] at h ⊢
      intro h2
      rw [h2] at hp
      exact h hp.symm.eq_nil
    · rw [List.isEmpty_iff] at h
      subst h; simp
  rw [e1, decide_eq_decide.2 hp.nodup_iff]
theorem check_dup {t : List Pr} {ks : List Nat} {r : Nat} : checkO t (ks ++ ks) r false (signL r ks) = false := by
  match ks with
  | [] => exact check_none t r _ _
  | k :: ks =>
    have : ¬ ((k :: ks) ++ (k :: ks)).Nodup := fun h => by
      rw [List.nodup_append] at h
      exact h.2.2 k (by simp) k (by simp) rfl
    unfold checkO
    rw [decide_eq_false this]
    simp
/-- Whether keys are the same, as the law asks. -/
def sameO (o ks : List Nat) : Bool := decide (o.length = ks.length) && o.all fun x => decide (x ∈ ks)
theorem perm_of_sub : ∀ (o ks : List Nat), o.Nodup → o.length = ks.length → (∀ x ∈ o, x ∈ ks) → o.Perm ks
  | [], ks, _, hl, _ => by rw [List.eq_nil_of_length_eq_zero (hl.symm : ks.length = 0)]
  | a :: o, ks, hn, hl, hs => by
    have ha : a ∈ ks := hs a (by simp)
    rw [List.nodup_cons] at hn
    have hp := List.perm_cons_erase ha
    refine ((perm_of_sub o (ks.erase a) hn.2 ?_ fun x hx => ?_).cons a).trans hp.symm
    · have := hp.length_eq
      simp at this hl
      omega
    · have h1 := hp.mem_iff.1 (hs x (by simp [hx]))
      rw [List.mem_cons] at h1
      rcases h1 with h1 | h1
      · subst h1; exact absurd hx hn.1
      · exact h1
theorem same_perm {o ks : List Nat} (ho : o.Nodup) (hk : ks.Nodup) : sameO o ks = true ↔ o.Perm ks := by
  unfold sameO
  rw [Bool.and_eq_true, decide_eq_true_iff, List.all_eq_true]
  constructor
  · rintro ⟨h1, h2⟩
    have hs : ∀ x ∈ o, x ∈ ks := fun x hx => of_decide_eq_true (h2 x hx)
    exact perm_of_sub o ks ho h1 hs
  · intro h
    exact ⟨h.length_eq, fun x hx => decide_eq_true (h.mem_iff.1 hx)⟩
theorem sign_inj {r z : Nat} {ks o : List Nat} (h : signL r ks = signL z o) (h0 : 0 < o.length) : z = r ∧ o.Perm ks := by
  have hp := ((signL_perm r ks).symm.trans (h ▸ signL_perm z o))
  have h1 : (o.map fun k => (k, z)).Perm (ks.map fun k => (k, r)) := hp.symm
  constructor
  · have hm : (o[0], z) ∈ o.map fun k => (k, z) := List.mem_map.2 ⟨_, List.getElem_mem h0, rfl⟩
    have := h1.mem_iff.1 hm
    simp at this
    obtain ⟨_, _, _, e⟩ := this
    exact e.symm
  · have h2 := h1.map (·.1)
    simpa [Function.comp_def] using h2
theorem check_other {t : List Pr} {ks o : List Nat} {r z : Nat} (ho : o.Nodup) (hk : ks.Nodup) (h9 : o.length ≤ 2048) : checkO t o z false (signL r ks) = (checkO t ks r false (signL r ks) && sameO o ks && decide (z = r)) := by
  by_cases h : z = r ∧ o.Perm ks
  · obtain ⟨rfl, hp⟩ := h
    rw [(same_perm ho hk).2 hp, decide_eq_true rfl, ← signL_eq hp, check_own]
    have e := check_own t ks z
    rw [← signL_eq hp] at e
    rw [e, hp.all_eq, hp.length_eq, show decide o.Nodup = decide ks.Nodup from decide_eq_decide.2 hp.nodup_iff]
    have e1 : o.isEmpty = ks.isEmpty := by
      rw [Bool.eq_iff_iff, List.isEmpty_iff, List.isEmpty_iff]
      exact ⟨fun h => by subst h; exact hp.symm.eq_nil, fun h => by subst h; exact hp.eq_nil⟩
    rw [e1]
    simp
  · have hr : (sameO o ks && decide (z = r)) = false := by
      cases e : (sameO o ks && decide (z = r))
      · rfl
      · rw [Bool.and_eq_true, decide_eq_true_iff] at e
        exact absurd ⟨e.2, (same_perm ho hk).1 e.1⟩ h
    rw [Bool.and_assoc, hr, Bool.and_false]
    cases e : checkO t o z false (signL r ks)
    · rfl
    · exfalso
      unfold checkO at e
      simp only [Bool.and_eq_true, decide_eq_true_eq, Bool.not_eq_true', List.isEmpty_eq_false_iff] at e
      have h0 : 0 < o.length := List.length_pos_iff.2 e.1.1.1.1.1.2
      exact h (sign_inj e.1.2 h0)
theorem check_keys {t : List Pr} {ks : List Nat} {r : Nat} (ht : rightO t = true) (hn : ks.Nodup) (h9 : ks.length ≤ 2048) : checkO t ks r false (signL r ks) = (decide (0 < ks.length) && ks.all fun k => decide ((k, r) ∈ t)) := by
  rw [check_own, ht, decide_eq_true hn, decide_eq_true h9]
  have : (!ks.isEmpty) = decide (0 < ks.length) := by cases ks <;> simp
  rw [this]
  simp
theorem all_more {α : Type} {f : α → Bool} {l : List α} {i : Nat} (h : i < l.length) : ((l.take i).all f && f l[i]) = (l.take (i + 1)).all f := by
  rw [List.take_succ_eq_append_getElem h, List.all_append]
  simp
theorem all_take_no {α : Type} {f : α → Bool} {l : List α} (i : Nat) (h : (l.take i).all f = false) : l.all f = false := by
  rw [List.all_eq_false] at h ⊢
  obtain ⟨x, hx, hf⟩ := h
  exact ⟨x, List.mem_of_mem_take hx, hf⟩
end Go.Proofs.Ytjjccoliknngcaa

namespace Go.Proofs.Ytjjccoliknngcaa
open Go.RowKit Go.Lib

theorem RowAt.later7 {w : World} {g : Nat} {t : TypeId} {l : List Value} (h : RowAt w g t l) (i : Nat) (v : Value) (hv : l[i]? = some v) : ∀ p : Later w, p.W.cell? ⟨g, i, none⟩ = some v := fun p => by
  rw [(h.on p.h).cell]; exact hv
theorem ItRow.first {w : World} {A : Option Addr} {n c : Nat} {is : List Itm} (h : ItRow w (.slice A n c) is) (m : Nat) (hm : m ≤ is.length) : ItRow w (.slice A m c) (is.take m) := by
  obtain ⟨A', c', hv, hc, ha⟩ := h
  injection hv with h1 h2 h3
  subst h1; subst h3
  have hl : (is.take m).length = m := by rw [List.length_take]; omega
  refine ⟨A, c, by rw [hl], by omega, fun h0 => ?_⟩
  obtain ⟨ad, e, hb, hcell⟩ := ha (by omega)
  exact ⟨ad, e, hb, fun j i hj => hcell j i (by
    have hj2 : j < m := by
      rcases Nat.lt_or_ge j (is.take m).length with k | k
      · omega
      · rw [List.getElem?_eq_none k] at hj; cases hj
    rwa [List.getElem?_take_of_lt hj2] at hj)⟩
theorem five_items {w : World} {g : Nat} {t : TypeId} {K1 P1 K2 P2 K3 P3 K4 P4 K5 P5 : Option Addr} {k1 p1 k2 p2 k3 p3 k4 p4 k5 p5 : Nat} {i1 i2 i3 i4 i5 : Itm}
    (h : RowAt w g t [.slice K1 i1.ks.length k1, .int .u64 (i1.root : Int), .bool i1.f, .slice P1 i1.l.length p1, .slice K2 i2.ks.length k2, .int .u64 (i2.root : Int), .bool i2.f, .slice P2 i2.l.length p2, .slice K3 i3.ks.length k3, .int .u64 (i3.root : Int), .bool i3.f, .slice P3 i3.l.length p3, .slice K4 i4.ks.length k4, .int .u64 (i4.root : Int), .bool i4.f, .slice P4 i4.l.length p4, .slice K5 i5.ks.length k5, .int .u64 (i5.root : Int), .bool i5.f, .slice P5 i5.l.length p5])
    (a1 : Wds w w.heap.size (.slice K1 i1.ks.length k1) i1.ks) (b1 : Prs w w.heap.size (.slice P1 i1.l.length p1) i1.l) (a2 : Wds w w.heap.size (.slice K2 i2.ks.length k2) i2.ks) (b2 : Prs w w.heap.size (.slice P2 i2.l.length p2) i2.l) (a3 : Wds w w.heap.size (.slice K3 i3.ks.length k3) i3.ks) (b3 : Prs w w.heap.size (.slice P3 i3.l.length p3) i3.l) (a4 : Wds w w.heap.size (.slice K4 i4.ks.length k4) i4.ks) (b4 : Prs w w.heap.size (.slice P4 i4.l.length p4) i4.l) (a5 : Wds w w.heap.size (.slice K5 i5.ks.length k5) i5.ks) (b5 : Prs w w.heap.size (.slice P5 i5.l.length p5) i5.l) :
    ItRow w (.slice (some ⟨g, 0, none⟩) 5 5) [i1, i2, i3, i4, i5] := by
  refine ⟨some ⟨g, 0, none⟩, 5, rfl, Nat.le_refl _, fun _ => ⟨⟨g, 0, none⟩, rfl, h.lt, fun j i hj => ?_⟩⟩
  have hc := h.cell
  match j, hj with
  | 0, hj => simp at hj; subst hj; exact ⟨K1, P1, k1, p1, hc 0, hc 1, hc 2, hc 3, a1, b1⟩
  | 1, hj => simp at hj; subst hj; exact ⟨K2, P2, k2, p2, hc 4, hc 5, hc 6, hc 7, a2, b2⟩
  | 2, hj => simp at hj; subst hj; exact ⟨K3, P3, k3, p3, hc 8, hc 9, hc 10, hc 11, a3, b3⟩
  | 3, hj => simp at hj; subst hj; exact ⟨K4, P4, k4, p4, hc 12, hc 13, hc 14, hc 15, a4, b4⟩
  | 4, hj => simp at hj; subst hj; exact ⟨K5, P5, k5, p5, hc 16, hc 17, hc 18, hc 19, a5, b5⟩
/-- Sign's answer by the document, for few keys. -/
theorem rSign_eq (r : Nat) (v : Value) (ks : List Nat) (l : List Pr) (hl : signL r ks = l) (w : World) (hv : Wds w w.heap.size v ks) (h9 : ks.length ≤ 2048) :
    Calls Try.prog 19 #[.int .u64 r, v] w fun e w' => ∃ A c, e = .returned (.tuple #[.agg #[.bool false, .slice A l.length c], .int .i64 0]) ∧ Prs w' w'.heap.size (.slice A l.length c) l ∧ Below w.heap.size w w' := by
  have := orSign_any r v ks w hv (by omega)
  unfold signO at this
  rw [if_neg (by omega), hl] at this
  exact this.mono fun e w' ⟨A, c, he, hP, _, hb⟩ => ⟨A, c, he, hP, hb⟩

set_option maxHeartbeats 4000000 in
set_option maxRecDepth 100000 in
theorem otells_walk (v u y k q z : Value) (wild : List Pr) (raw : List Int) (more : List Pr) (keys : List Nat) (few : List Int) (root : Nat) (tok : List Int) (forged : Bool) (pa pb : Nat) (w : World)
    (hv : Prs w w.heap.size v wild) (hu : Ints w w.heap.size u raw) (hy : Prs w w.heap.size y more) (hk : Wds w w.heap.size k keys) (hq : Ints w w.heap.size q few) (hz : Ints w w.heap.size z tok)
    (hI : ∀ r ∈ raw, I64 r) (hJ : ∀ r ∈ few, I64 r) (hH : ∀ r ∈ tok, I64 r) (hf : ∀ x ∈ keys, x < 18446744073709551616) (hroot : root < 18446744073709551616) (l9v : wild.length ≤ maxLen) (l9u : raw.length ≤ maxLen) (l9y : more.length ≤ maxLen) (l9k : keys.length ≤ maxLen) (l9q : few.length ≤ maxLen) (l9z : tok.length ≤ maxLen) :
    Calls Try.prog 3 #[v, u, y, k, q, .int .u64 root, z, .bool forged, .agg #[.int .u64 pa, .int .u64 pb]] w fun e w' => e = .returned (.bool true) ∧ Below w.heap.size w w' := by
  obtain ⟨Av, cv, rfl, hcv⟩ := hv.form
  obtain ⟨Au, cu, rfl, hcu⟩ := hu.form
  obtain ⟨Ay, cy, rfl, hcy⟩ := hy.form
  obtain ⟨K, kc, rfl, hkc⟩ := hk.form
  obtain ⟨Aq, cq, rfl, hcq⟩ := hq.form
  obtain ⟨Az, cz, rfl, hcz⟩ := hz.form
  have l9v' : wild.length ≤ 9223372036854775807 := l9v
  have l9y' : more.length ≤ 9223372036854775807 := l9y
  have l9k' : keys.length ≤ 9223372036854775807 := l9k
  obtain ⟨small, hsm⟩ : ∃ small, small = root % 3 := ⟨_, rfl⟩
  have hsm3 : small < 3 := by omega
  have hr3a : (root : Int) % 3 = (small : Int) := by omega
  have hr3b : (root : Int).tmod 3 = (small : Int) := by rw [Int.tmod_eq_emod_of_nonneg (by omega)]; exact hr3a
  have hr3d : root % 3 = small := hsm.symm
  clear hsm
  have hr3c : IntKind.u64.wrap (small : Int) = (small : Int) := IntWalk.u64_in _ (by omega)
  go_enter Try.func3, Try.ntmps3
  have q0 := RowAt.new w 27 #[.int .u64 pa, .int .u64 pb]
  have b0 := (Below.refl w.heap.size w).alloc (Nat.le_refl _) (.cells #[.int .u64 pa, .int .u64 pb] 27)
  replace hv := hv.on b0
  replace hu := hu.on b0
  replace hy := hy.on b0
  replace hk := hk.on b0
  replace hq := hq.on b0
  replace hz := hz.on b0
  go_wp2_with fail
  with_reducible refine (awake7_any _).mono ?_
  rintro e w1 ⟨rfl, b1⟩
  replace hv := hv.on b1
  replace hu := hu.on b1
  replace hy := hy.on b1
  replace hk := hk.on b1
  replace hq := hq.on b1
  replace hz := hz.on b1
  replace q0 := q0.on b1
  have B1 := b0.trans (b1.mono b0.size)
  clear b1 b0
  generalize w.heap.size = g0 at q0
  have cT := fun W h => Table7_any (.slice Au raw.length cu) raw W h hI l9u
  obtain ⟨htb, htl⟩ := tableL_facts raw
  generalize tableL raw = tb at *
  go_wp2_with fail
  with_reducible refine (cT _ hu).mono ?_
  rintro e w2 ⟨T, tc, rfl, hT, b2⟩
  clear hu cT
  replace hv := hv.on b2
  replace hy := hy.on b2
  replace hk := hk.on b2
  replace hq := hq.on b2
  replace hz := hz.on b2
  replace q0 := q0.on b2
  have B2 := B1.trans (b2.mono B1.size)
  clear b2 B1
  go_upto_region 3 with (fail)
  go_cut [21] from 45 to 49 (fun kv wx => ∃ xs : List Pr, kv = .slice Ay xs.length cy ∧ wx = w2 ∧ xs.length ≤ 20 ∧ xs = more.take xs.length)
  case first =>
    by_cases h20 : 20 < more.length
    · have f1 : ((more.length : Int) ≤ 20) = False := eq_false (by omega)
      have f2 : (more.length ≤ 20) = False := eq_false (by omega)
      have f3 : ((20 : Int) < (more.length : Int)) = True := eq_true (by omega)
      have f4 : (20 < more.length) = True := eq_true h20
      have f5 : ((20 : Int) ≤ (cy : Int)) = True := eq_true (by omega)
      have f6 : (20 ≤ cy) = True := eq_true (by omega)
      go_wp2_with fail
      go_meet
      exact ⟨more.take 20, by rw [List.length_take, Nat.min_eq_left (by omega)]; congr 1; omega, rfl, by rw [List.length_take]; omega, by rw [List.length_take, Nat.min_eq_left (by omega)]⟩
    · have f1 : ((more.length : Int) ≤ 20) = True := eq_true (by omega)
      have f2 : (more.length ≤ 20) = True := eq_true (by omega)
      have f3 : ((20 : Int) < (more.length : Int)) = False := eq_false (by omega)
      have f4 : (20 < more.length) = False := eq_false h20
      have f5 : ((more.length : Int) ≤ (cy : Int)) = True := eq_true (by omega)
      have f6 : (more.length ≤ cy) = True := eq_true (by omega)
      go_wp2_with fail
      go_meet
      exact ⟨more, by congr 1; omega, rfl, by omega, by rw [List.take_length]⟩
  case rest =>
    obtain ⟨ms, rfl, hwc, hm20, hke⟩ := hcut
    obtain rfl : wc = w2 := hwc
    have hM : Prs wc wc.heap.size (.slice Ay ms.length cy) ms := by
      have h1 : ms.length ≤ more.length := by
        have := congrArg List.length hke
        rw [List.length_take] at this
        omega
      have := hy.first ms.length h1
      rwa [← hke] at this
    clear hke hy hcy l9y l9y'
    obtain ⟨w3, hw3⟩ : ∃ w3, w3 = wc := ⟨_, rfl⟩
    subst hw3
    go_upto_region 4 with (fail)
    go_cut [22] from 50 to 54 (fun kv wx => ∃ xs : List Nat, kv = .slice K xs.length kc ∧ wx = w3 ∧ xs.length ≤ 20 ∧ xs = keys.take xs.length)
    case first =>
      by_cases h20 : 20 < keys.length
      · have f1 : ((keys.length : Int) ≤ 20) = False := eq_false (by omega)
        have f2 : (keys.length ≤ 20) = False := eq_false (by omega)
        have f3 : ((20 : Int) < (keys.length : Int)) = True := eq_true (by omega)
        have f4 : (20 < keys.length) = True := eq_true h20
        have f5 : ((20 : Int) ≤ (kc : Int)) = True := eq_true (by omega)
        have f6 : (20 ≤ kc) = True := eq_true (by omega)
        go_wp2_with fail
        go_meet
        exact ⟨keys.take 20, by rw [List.length_take, Nat.min_eq_left (by omega)]; congr 1; omega, rfl, by rw [List.length_take]; omega, by rw [List.length_take, Nat.min_eq_left (by omega)]⟩
      · have f1 : ((keys.length : Int) ≤ 20) = True := eq_true (by omega)
        have f2 : (keys.length ≤ 20) = True := eq_true (by omega)
        have f3 : ((20 : Int) < (keys.length : Int)) = False := eq_false (by omega)
        have f4 : (20 < keys.length) = False := eq_false h20
        have f5 : ((keys.length : Int) ≤ (kc : Int)) = True := eq_true (by omega)
        have f6 : (keys.length ≤ kc) = True := eq_true (by omega)
        go_wp2_with fail
        go_meet
        exact ⟨keys, by congr 1; omega, rfl, by omega, by rw [List.take_length]⟩
    case rest =>
      obtain ⟨ks, rfl, hwc, hk20, hke⟩ := hcut
      obtain rfl : wc = w3 := hwc
      have hK : Wds wc wc.heap.size (.slice K ks.length kc) ks := by
        have h1 : ks.length ≤ keys.length := by
          have := congrArg List.length hke
          rw [List.length_take] at this
          omega
        have := hk.first ks.length h1
        rwa [← hke] at this
      have hfit : ∀ x ∈ ks, x < 18446744073709551616 := fun x hx => hf x (by rw [hke] at hx; exact List.mem_of_mem_take hx)
      clear hke hk hkc l9k l9k' hf
      obtain ⟨w4, hw4⟩ : ∃ w4, w4 = wc := ⟨_, rfl⟩
      subst hw4
      have cQ := fun W h => Keys7_any (.slice Aq few.length cq) few W h hJ l9q
      obtain ⟨hnq, hq12, hlq⟩ := keysL_facts few
      generalize keysL few = qs at *
      have hfitQ : ∀ x ∈ qs, x < 18446744073709551616 := fun x hx => by have := hq12 x hx; omega
      clear hq12 hnq
      go_wp2_with fail
      with_reducible refine (cQ _ hq).mono ?_
      rintro e w5 ⟨Q, qc, rfl, hQ, b5⟩
      clear hq cQ
      replace hv := hv.on b5
      replace hM := hM.on b5
      replace hK := hK.on b5
      replace hT := hT.on b5
      replace hz := hz.on b5
      replace q0 := q0.on b5
      have B5 := B2.trans (b5.mono B2.size)
      clear b5 B2
      go_upto_region 7 with (fail)
      go_cut [65, 66, 67] from 59 to 67 (fun rv nv iv wx => ∃ (g : Nat) (wl : List Pr) (nw : Nat), rv = .slice (some ⟨g, 0, none⟩) 2 2 ∧ nv = .int .i64 2 ∧ iv = .int .i64 0 ∧ nw = wl.length ∧ wl.length ≤ 40 ∧ RowAt wx g 22 [.slice Av nw cv, .slice T tb.length tc] ∧ Prs wx wx.heap.size (.slice Av nw cv) wl ∧ Prs wx wx.heap.size (.slice T tb.length tc) tb ∧ Below w5.heap.size w5 wx)
      case first =>
        by_cases h40 : 40 < wild.length
        · have f1 : ((wild.length : Int) ≤ 40) = False := eq_false (by omega)
          have f2 : (wild.length ≤ 40) = False := eq_false (by omega)
          have f3 : ((40 : Int) < (wild.length : Int)) = True := eq_true (by omega)
          have f4 : (40 < wild.length) = True := eq_true h40
          have f5 : ((40 : Int) ≤ (cv : Int)) = True := eq_true (by omega)
          have f6 : (40 ≤ cv) = True := eq_true (by omega)
          have hmin : min (wild.length : Int) 40 = 40 := by omega
          go_wp2_with fail
          go_meet
          exact ⟨_, wild.take 40, 40, rfl, rfl, rfl, by rw [List.length_take]; omega, by rw [List.length_take]; omega, RowAt.new w5 22 #[.slice Av 40 cv, .slice T tb.length tc], (hv.first 40 (by omega)).alloc _, hT.alloc _, (Below.refl _ _).alloc (Nat.le_refl _) _⟩
        · have f1 : ((wild.length : Int) ≤ 40) = True := eq_true (by omega)
          have f2 : (wild.length ≤ 40) = True := eq_true (by omega)
          have f3 : ((40 : Int) < (wild.length : Int)) = False := eq_false (by omega)
          have f4 : (40 < wild.length) = False := eq_false h40
          have f5 : ((wild.length : Int) ≤ (cv : Int)) = True := eq_true (by omega)
          have f6 : (wild.length ≤ cv) = True := eq_true (by omega)
          have hmin : min (wild.length : Int) 40 = (wild.length : Int) := by omega
          go_wp2_with fail
          go_meet
          exact ⟨_, wild, wild.length, rfl, rfl, rfl, rfl, by omega, RowAt.new w5 22 #[.slice Av wild.length cv, .slice T tb.length tc], hv.alloc _, hT.alloc _, (Below.refl _ _).alloc (Nat.le_refl _) _⟩
      case rest =>
        obtain ⟨w6, hw6⟩ : ∃ w6, w6 = wc := ⟨_, rfl⟩
        subst hw6
        obtain ⟨gR, wl, nw, rfl, rfl, rfl, hwn, hw40, qR, hW, hTb, b6⟩ := hcut
        replace hM := hM.on b6
        replace hK := hK.on b6
        replace hz := hz.on b6
        replace q0 := q0.on b6
        replace hQ := hQ.on b6
        have B6 := B5.trans (b6.mono B5.size)
        clear b6 B5
        clear hv hcv l9v l9v' hT
        have hall : ∀ i, i < 2 → ∃ (A : Option Addr) (n c : Nat) (t : List Pr), ([.slice Av nw cv, .slice T tb.length tc] : List Value)[i]? = some (.slice A n c) ∧ n = t.length ∧ Prs w6 w6.heap.size (.slice A n c) t ∧ t.length ≤ 60 := fun i h => by
          match i, h with
          | 0, _ => exact ⟨_, _, _, wl, rfl, hwn, hW, by omega⟩
          | 1, _ => exact ⟨_, _, _, tb, rfl, rfl, hTb, htl⟩
        have HA := Lib.hid hall
        clear hall hW hTb
        obtain ⟨lt, hlt⟩ : ∃ lt, tokL tok = lt := ⟨_, rfl⟩
        have hlt9 : lt.length ≤ 30 := by rw [← hlt]; exact tokL_length tok
        have cTok := Lib.hid (fun W h => Token_eq (.slice Az tok.length cz) tok forged lt W hlt h hH l9z)
        have HSq := Lib.hid (fun W h => rSign_eq small (.slice Q qs.length qc) qs _ rfl W h (by omega))
        have HSk := Lib.hid (fun W h => rSign_eq root (.slice K ks.length kc) ks _ rfl W h (by omega))
        have HSo := Lib.hid (fun W h => Sign_eq root (.slice K ks.length kc) ks _ rfl W h (by omega))
        have lsq : (signL small qs).length ≤ 12 := by rw [signL_length]; omega
        have lsk : (signL root ks).length ≤ 20 := by rw [signL_length]; omega
        generalize signL small qs = ls at *
        generalize signL root ks = lw at *
        clear hlt htb
        go_wp2_with fail
        go_loopw [67] (fun iv wr => ∃ i : Nat, i ≤ 2 ∧ iv = .int .i64 (i : Int) ∧ Below w6.heap.size w6 wr) (fun iv _ => 2 - (intOf iv).toNat)
        case atStart => exact ⟨0, by omega, rfl, Below.refl _ _⟩
        case round =>
          obtain ⟨i, hi2, rfl, hb⟩ := hrel
          obtain ⟨wo, hwo⟩ : ∃ wo, wo = wr := ⟨_, rfl⟩
          subst hwo
          replace hM := hM.on hb
          replace hK := hK.on hb
          replace hz := hz.on hb
          replace q0 := q0.on hb
          replace hQ := hQ.on hb
          have Bo := B6.trans (hb.mono B6.size)
          by_cases hi : i < 2
          · obtain ⟨A, n, c, t, hci, rfl, hPt, ht9⟩ := HA.out i hi
            have g1 : ((i : Int) < 2) = True := eq_true (by omega)
            have g2 : (i < 2) = True := eq_true hi
            have hcell := (qR.on hb).cell i
            rw [hci] at hcell
            replace hPt := hPt.on hb
            have hBo := hb
            clear hci HA qR
            obtain ⟨RE, hRE⟩ : ∃ RE, addO t ms = RE := ⟨_, rfl⟩
            obtain ⟨R, E⟩ := RE
            have hRl : R.length ≤ 1000 := by
              unfold addO at hRE
              have := (addL_length t ms).2
              split at hRE
              · split at hRE
                · cases hRE; simp
                · cases hRE; omega
              · cases hRE; simp
            have a1 := oAdd_any (.slice A t.length c) (.slice Ay ms.length cy) t ms wo hPt hM (by omega) (by omega)
            rw [hRE] at a1
            go_wp2_with fail
            with_reducible refine a1.mono ?_
            rintro e v1 ⟨C, cc, rfl, hC, b1⟩
            clear a1 hcell
            replace hM := hM.on b1
            replace hK := hK.on b1
            replace hz := hz.on b1
            replace q0 := q0.on b1
            replace hQ := hQ.on b1
            replace hPt := hPt.on b1
            have hB1 := hBo.trans (b1.mono hBo.size)
            clear b1 hBo
            have a2 := orAdd_any (.slice A t.length c) (.slice Ay ms.length cy) t ms v1 hPt hM (by omega) (by omega)
            rw [hRE] at a2
            go_wp2_with fail
            with_reducible refine a2.mono ?_
            rintro e v2 ⟨D, dc, rfl, hD, _, b2⟩
            clear a2 hRE
            replace hM := hM.on b2
            replace hK := hK.on b2
            replace hz := hz.on b2
            replace q0 := q0.on b2
            replace hQ := hQ.on b2
            replace hPt := hPt.on b2
            replace hC := hC.on b2
            have hB2 := hB1.trans (b2.mono hB1.size)
            clear b2 hB1
            obtain ⟨xr, hxr⟩ : ∃ xr, rightO t = xr := ⟨_, rfl⟩
            obtain ⟨xv, hxv⟩ : ∃ xv, (rightO t && decide ((pa, pb) ∈ t)) = xv := ⟨_, rfl⟩
            have HR1 : ∀ p : Later v2, Calls Try.prog 14 #[.slice A t.length c] p.W fun e w_ => e = .returned (.bool xr) ∧ ∃ p : Later v2, w_ = p.W := fun p => later_of (by rw [← hxr]; exact oRight_any _ t _ (hPt.on p.h) (by omega))
            have HR2 : ∀ p : Later v2, Calls Try.prog 15 #[.slice A t.length c] p.W fun e w_ => e = .returned (.bool xr) ∧ ∃ p : Later v2, w_ = p.W := fun p => later_of (by rw [← hxr]; exact orRight_any _ t _ (hPt.on p.h) (by omega))
            have HV1 : ∀ p : Later v2, Calls Try.prog 16 #[.slice A t.length c, .agg #[.int .u64 pa, .int .u64 pb]] p.W fun e w_ => e = .returned (.bool xv) ∧ ∃ p : Later v2, w_ = p.W := fun p => later_of (by rw [← hxv]; exact oValid_any _ t (pa, pb) _ (hPt.on p.h) (by omega))
            have HV2 : ∀ p : Later v2, Calls Try.prog 17 #[.slice A t.length c, .agg #[.int .u64 pa, .int .u64 pb]] p.W fun e w_ => e = .returned (.bool xv) ∧ ∃ p : Later v2, w_ = p.W := fun p => later_of (by rw [← hxv]; exact orValid_any _ t (pa, pb) _ (hPt.on p.h) (by omega))
            have HP : ∀ p : Later v2, Calls Try.prog 18 #[.slice C R.length cc, .slice D R.length dc] p.W fun e w_ => e = .returned (.bool true) ∧ ∃ p : Later v2, w_ = p.W := fun p => later_of (by have := orPairs_any (.slice C R.length cc) (.slice D R.length dc) R R p.W (hC.on p.h) (hD.on p.h) (by omega) (by omega); rw [decide_eq_true rfl] at this; exact this)
            have y0 := q0.later7 0 _ rfl
            have y1 := q0.later7 1 _ rfl
            have gx : (xr != xr) = false := by cases xr <;> rfl
            have gy : (xv != xv) = false := by cases xv <;> rfl
            clear hxr hxv
            go_wp2_with fail
            refine wp_region_later (by kernel_rfl) (by kernel_rfl) ?_
            repeat (go_big_quiet_step (first | (go_at_call 14; exact HR1 _) | (go_at_call 15; exact HR2 _) | (go_at_call 16; exact HV1 _) | (go_at_call 17; exact HV2 _) | (go_at_call 18; exact HP _)))
            refine wpQuiet_nil ?_
            intro _ hw'
            obtain ⟨pq, rfl⟩ := hw'
            have b3 := pq.h
            generalize pq.W = v3 at b3 ⊢
            clear pq HR1 HR2 HV1 HV2 HP y0 y1 gx gy hC hD
            replace hM := hM.on b3
            replace hK := hK.on b3
            replace hz := hz.on b3
            replace q0 := q0.on b3
            replace hQ := hQ.on b3
            replace hPt := hPt.on b3
            have hB3 := hB2.trans (b3.mono hB2.size)
            clear b3 hB2
            go_wp2_with fail
            with_reducible refine (HSq.out _ hQ).mono ?_
            rintro e v4 ⟨S1, s1, rfl, hS, b4⟩
            replace hM := hM.on b4
            replace hK := hK.on b4
            replace hz := hz.on b4
            replace q0 := q0.on b4
            replace hQ := hQ.on b4
            replace hPt := hPt.on b4
            have hB4 := hB3.trans (b4.mono hB3.size)
            clear b4 hB3
            go_upto_region 15 with (fail)
            have qS := RowAt.new v4 40 #[.bool false, .slice S1 ls.length s1]
            have bx := (Below.refl v4.heap.size v4).alloc (Nat.le_refl _) (.cells #[.bool false, .slice S1 ls.length s1] 40)
            replace hM := hM.on bx
            replace hK := hK.on bx
            replace hz := hz.on bx
            replace q0 := q0.on bx
            replace hQ := hQ.on bx
            replace hPt := hPt.on bx
            replace hS := hS.on bx
            have hB5 := hB4.trans (bx.mono hB4.size)
            clear bx hB4
            generalize v4.alloc (.cells #[.bool false, .slice S1 ls.length s1] 40) = v5 at *
            generalize v4.heap.size = gS at *
            go_wp2_with fail
            with_reducible refine (HSk.out _ hK).mono ?_
            rintro e v6 ⟨W1, ww, rfl, hW, b6⟩
            replace hM := hM.on b6
            replace hK := hK.on b6
            replace hz := hz.on b6
            replace q0 := q0.on b6
            replace hQ := hQ.on b6
            replace hPt := hPt.on b6
            replace hS := hS.on b6
            replace qS := qS.on b6
            have hB6 := hB5.trans (b6.mono hB5.size)
            clear b6 hB5
            go_upto_region 16 with (fail)
            have qW := RowAt.new v6 40 #[.bool false, .slice W1 lw.length ww]
            have bx := (Below.refl v6.heap.size v6).alloc (Nat.le_refl _) (.cells #[.bool false, .slice W1 lw.length ww] 40)
            replace hM := hM.on bx
            replace hK := hK.on bx
            replace hz := hz.on bx
            replace q0 := q0.on bx
            replace hQ := hQ.on bx
            replace hPt := hPt.on bx
            replace hS := hS.on bx
            replace qS := qS.on bx
            replace hW := hW.on bx
            have hB7 := hB6.trans (bx.mono hB6.size)
            clear bx hB6
            generalize v6.alloc (.cells #[.bool false, .slice W1 lw.length ww] 40) = v7 at *
            generalize v6.heap.size = gW at *
            obtain ⟨s0, s1'⟩ := qS.two
            go_upto_region 17 with (fail)
            clear s0 s1'
            have qF := RowAt.new v7 40 #[.bool false, .slice S1 ls.length s1]
            have bx := (Below.refl v7.heap.size v7).alloc (Nat.le_refl _) (.cells #[.bool false, .slice S1 ls.length s1] 40)
            generalize hg8 : v7.alloc (.cells #[.bool false, .slice S1 ls.length s1] 40) = v8 at *
            have c0 := qF.two.1
            have f0 := qF.frozen 0
            go_upto_region 18 with (fail)
            have b9 := bx.setCell (p := ⟨v7.heap.size, 0, none⟩) (Nat.le_refl _) (.bool forged)
            replace qF := qF.set 0 (.bool forged)
            simp only [List.set_cons_zero] at qF
            replace hM := hM.on b9
            replace hK := hK.on b9
            replace hz := hz.on b9
            replace q0 := q0.on b9
            replace hQ := hQ.on b9
            replace hPt := hPt.on b9
            replace hS := hS.on b9
            replace qS := qS.on b9
            replace hW := hW.on b9
            replace qW := qW.on b9
            have hB9 := hB7.trans (b9.mono hB7.size)
            clear b9 hB7
            clear c0 f0 bx hg8
            generalize v8.setCell ⟨v7.heap.size, 0, none⟩ (.bool forged) = v9 at *
            generalize v7.heap.size = gF at *
            go_cut [36] from 123 to 145 (fun iv wx => ∃ g : Nat, iv = .slice (some ⟨g, 0, none⟩) 5 5 ∧ ItRow wx (.slice (some ⟨g, 0, none⟩) 5 5) [⟨qs, small, false, ls⟩, ⟨qs, small, forged, ls⟩, ⟨ks, root, false, lw⟩, ⟨qs, small, forged, lt⟩, ⟨ks, small, false, ls⟩] ∧ Below v9.heap.size v9 wx)
            case first =>
              have cT1 := cTok.out _ (show Ints v9.drew v9.drew.heap.size _ _ from hz)
              have hst : ∀ W, Below v9.heap.size v9 W → (W.cell? ⟨gS, 0, none⟩ = some (.bool false) ∧ W.cell? ⟨gS, 1, none⟩ = some (.slice S1 ls.length s1) ∧ W.cell? ⟨gW, 0, none⟩ = some (.bool false) ∧ W.cell? ⟨gW, 1, none⟩ = some (.slice W1 lw.length ww) ∧ W.cell? ⟨gF, 0, none⟩ = some (.bool forged) ∧ W.cell? ⟨gF, 1, none⟩ = some (.slice S1 ls.length s1)) := fun W b => ⟨(qS.on b).two.1, (qS.on b).two.2, (qW.on b).two.1, (qW.on b).two.2, (qF.on b).two.1, (qF.on b).two.2⟩
              have HST := Lib.hid hst
              clear hst
              obtain ⟨y0, y1, y2, y3, y4, y5⟩ := HST.out v9 (Below.refl _ _)
              go_region_held3 (fun W => W.cell? ⟨gS, 0, none⟩ = some (.bool false) ∧ W.cell? ⟨gS, 1, none⟩ = some (.slice S1 ls.length s1) ∧ W.cell? ⟨gW, 0, none⟩ = some (.bool false) ∧ W.cell? ⟨gW, 1, none⟩ = some (.slice W1 lw.length ww) ∧ W.cell? ⟨gF, 0, none⟩ = some (.bool forged) ∧ W.cell? ⟨gF, 1, none⟩ = some (.slice S1 ls.length s1)) (first | exact HST.out _ ((Below.refl v9.heap.size v9).drew) | exact HST.out _ bT | exact HST.out _ (bT.alloc bT.size _) | go_keep)
                (first | ((with_reducible refine cT1.mono ?_); rintro e wT ⟨At, ct, rfl, tT, bT'⟩; have bT := ((Below.refl v9.heap.size v9).drew).trans bT'))
              all_goals
                go_simp
                go_wp2_with fail
                go_meet
                have ba := (Below.refl wT.heap.size wT).alloc (Nat.le_refl _) (.cells #[.slice Q qs.length qc, .int .u64 small, .bool false, .slice S1 ls.length s1, .slice Q qs.length qc, .int .u64 small, .bool forged, .slice S1 ls.length s1, .slice K ks.length kc, .int .u64 root, .bool false, .slice W1 lw.length ww, .slice Q qs.length qc, .int .u64 small, .bool forged, .slice At lt.length ct, .slice K ks.length kc, .int .u64 small, .bool false, .slice S1 ls.length s1] 44)
                have bb := bT.trans (ba.mono bT.size)
                exact ⟨_, rfl, five_items (i1 := ⟨qs, small, false, ls⟩) (i2 := ⟨qs, small, forged, ls⟩) (i3 := ⟨ks, root, false, lw⟩) (i4 := ⟨qs, small, forged, lt⟩) (i5 := ⟨ks, small, false, ls⟩) (RowAt.new wT 44 #[.slice Q qs.length qc, .int .u64 small, .bool false, .slice S1 ls.length s1, .slice Q qs.length qc, .int .u64 small, .bool forged, .slice S1 ls.length s1, .slice K ks.length kc, .int .u64 root, .bool false, .slice W1 lw.length ww, .slice Q qs.length qc, .int .u64 small, .bool forged, .slice At lt.length ct, .slice K ks.length kc, .int .u64 small, .bool false, .slice S1 ls.length s1]) (hQ.on bb) (hS.on bb) (hQ.on bb) (hS.on bb) (hK.on bb) (hW.on bb) (hQ.on bb) (tT.prs.on ba) (hK.on bb) (hS.on bb), bb⟩
            case rest =>
              obtain ⟨v10, hv10⟩ : ∃ v10, v10 = wc := ⟨_, rfl⟩
              subst hv10
              obtain ⟨gI, rfl, hIR, b10⟩ := hcut
              replace hPt := hPt.on b10
              have hB10 := hB9.trans (b10.mono hB9.size)
              clear b10 hB9 qS qW qF hS hW cTok HSq HSk HSo hM hK hz hQ
              have his : ∀ i ∈ ([⟨qs, small, false, ls⟩, ⟨qs, small, forged, ls⟩, ⟨ks, root, false, lw⟩, ⟨qs, small, forged, lt⟩, ⟨ks, small, false, ls⟩] : List Itm), i.ks.length ≤ 100 ∧ i.l.length ≤ 100 ∧ ∀ x ∈ i.ks, x < 18446744073709551616 := fun i hi => by
                simp at hi
                rcases hi with rfl | rfl | rfl | rfl | rfl
                · exact ⟨by show qs.length ≤ _; omega, by show ls.length ≤ _; omega, hfitQ⟩
                · exact ⟨by show qs.length ≤ _; omega, by show ls.length ≤ _; omega, hfitQ⟩
                · exact ⟨by show ks.length ≤ _; omega, by show lw.length ≤ _; omega, hfit⟩
                · exact ⟨by show qs.length ≤ _; omega, by show lt.length ≤ _; omega, hfitQ⟩
                · exact ⟨by show ks.length ≤ _; omega, by show ls.length ≤ _; omega, hfit⟩
              have hil : ([⟨qs, small, false, ls⟩, ⟨qs, small, forged, ls⟩, ⟨ks, root, false, lw⟩, ⟨qs, small, forged, lt⟩, ⟨ks, small, false, ls⟩] : List Itm).length = 5 := rfl
              generalize ([⟨qs, small, false, ls⟩, ⟨qs, small, forged, ls⟩, ⟨ks, root, false, lw⟩, ⟨qs, small, forged, lt⟩, ⟨ks, small, false, ls⟩] : List Itm) = is at *
              go_wp2_with fail
              go_loopw [37] (fun jv wr => ∃ j : Nat, j ≤ 5 ∧ jv = .int .i64 (j : Int) ∧ Below v10.heap.size v10 wr) (fun jv _ => 5 - (intOf jv).toNat)
              case atStart => exact ⟨0, by omega, rfl, Below.refl _ _⟩
              case round =>
                obtain ⟨j, hj5, rfl, hb⟩ := hrel
                by_cases hj : j < 5
                · have g3 : ((j : Int) < 5) = True := eq_true (by omega)
                  have g4 : (j < 5) = True := eq_true hj
                  have g5 : ((j : Int) ≤ 5) = True := eq_true (by omega)
                  have g6 : (j ≤ 5) = True := eq_true (by omega)
                  have hlj : j < is.length := by omega
                  have hI2 := hIR.on hb
                  replace hPt := hPt.on hb
                  obtain ⟨_, e0, K', P', kc', pc', c0, c1, c2, c3, qk, qp⟩ := hI2.read hlj
                  injection e0 with e0
                  subst e0
                  have ea : (⟨gI, 0, none⟩ : Addr).add (j * 4) = ⟨gI, j * 4, none⟩ := by unfold Addr.add; split <;> simp_all
                  rw [ea] at c0 c1 c2 c3
                  have hgI : gI < wr.heap.size := by
                    have hh := hI2
                    obtain ⟨A0, cx, hv0, _, hh⟩ := hh
                    injection hv0 with e1 _ _
                    obtain ⟨ad, e2, hbk, _⟩ := hh (by omega)
                    rw [← e1] at e2
                    injection e2 with e2
                    subst e2
                    exact hbk
                  obtain ⟨h9k, h9l, hft⟩ := his _ (List.getElem_mem hlj)
                  have hI3 : ItRow wr (.slice (some ⟨gI, 0, none⟩) j 5) (is.take j) := hI2.first j (by omega)
                  have hSh : Short (is.take j) := ⟨by rw [List.length_take]; omega, fun i hi => by have := his i (List.mem_of_mem_take hi); exact ⟨by omega, by omega⟩⟩
                  have hFa : ∀ i ∈ is.take j, ∀ x ∈ i.ks, x < 18446744073709551616 := fun i hi => (his i (List.mem_of_mem_take hi)).2.2
                  obtain ⟨x, hx⟩ : ∃ x, checkO t is[j].ks is[j].root is[j].f is[j].l = x := ⟨_, rfl⟩
                  obtain ⟨xa, hxa⟩ : ∃ xa, (is.take j).all (Itm.ok t) = xa := ⟨_, rfl⟩
                  have HC1 : ∀ p : Later wr, Calls Try.prog 21 #[.slice A t.length c, .agg #[.slice K' is[j].ks.length kc', .int .u64 (is[j].root : Int), .bool is[j].f, .slice P' is[j].l.length pc']] p.W fun e w_ => e = .returned (.bool x) ∧ ∃ p : Later wr, w_ = p.W := fun p => later_of (by rw [← hx]; exact oCheck_any _ t K' P' kc' pc' _ _ _ _ _ (hPt.on p.h) (qk.on p.h) (qp.on p.h) hft (by omega) (by omega) (by omega))
                  have HC2 : ∀ p : Later wr, Calls Try.prog 22 #[.slice A t.length c, .agg #[.slice K' is[j].ks.length kc', .int .u64 (is[j].root : Int), .bool is[j].f, .slice P' is[j].l.length pc']] p.W fun e w_ => e = .returned (.bool x) ∧ ∃ p : Later wr, w_ = p.W := fun p => later_of (by rw [← hx]; exact orCheck_any _ t K' P' kc' pc' _ _ _ _ _ (hPt.on p.h) (qk.on p.h) (qp.on p.h) (by omega) (by omega) (by omega))
                  have HA1 : ∀ p : Later wr, Calls Try.prog 23 #[.slice A t.length c, .slice (some ⟨gI, 0, none⟩) j 5] p.W fun e w_ => e = .returned (.bool xa) ∧ ∃ p : Later wr, w_ = p.W := fun p => later_of (by rw [← hxa]; exact oAll_any _ _ t _ _ (hPt.on p.h) (hI3.on p.h) (by omega) hSh hFa)
                  have HA2 : ∀ p : Later wr, Calls Try.prog 24 #[.slice A t.length c, .slice (some ⟨gI, 0, none⟩) j 5] p.W fun e w_ => e = .returned (.bool xa) ∧ ∃ p : Later wr, w_ = p.W := fun p => later_of (by rw [← hxa]; exact orAll_any _ _ t _ _ (hPt.on p.h) (hI3.on p.h) (by omega) hSh)
                  have y0 : ∀ p : Later wr, p.W.cell? ⟨gI, j * 4, none⟩ = _ := fun p => (p.h.cell (p := ⟨gI, j * 4, none⟩) hgI).trans c0
                  have y1 : ∀ p : Later wr, p.W.cell? ⟨gI, j * 4 + 1, none⟩ = _ := fun p => (p.h.cell (p := ⟨gI, j * 4 + 1, none⟩) hgI).trans c1
                  have y2 : ∀ p : Later wr, p.W.cell? ⟨gI, j * 4 + 2, none⟩ = _ := fun p => (p.h.cell (p := ⟨gI, j * 4 + 2, none⟩) hgI).trans c2
                  have y3 : ∀ p : Later wr, p.W.cell? ⟨gI, j * 4 + 3, none⟩ = _ := fun p => (p.h.cell (p := ⟨gI, j * 4 + 3, none⟩) hgI).trans c3
                  have gx : (x != x) = false := by cases x <;> rfl
                  have gy : (xa != xa) = false := by cases xa <;> rfl
                  clear hx hxa hSh hFa hI3 hI2 qk qp h9k h9l hft c0 c1 c2 c3 ea
                  generalize is[j].ks.length = m1 at *
                  generalize is[j].l.length = m2 at *
                  generalize is[j].root = m3 at *
                  generalize is[j].f = m4 at *
                  go_wp2_with fail
                  refine wp_region_later (by kernel_rfl) (by kernel_rfl) ?_
                  repeat (go_big_quiet_step (first | (go_at_call 21; exact HC1 _) | (go_at_call 22; exact HC2 _) | (go_at_call 23; exact HA1 _) | (go_at_call 24; exact HA2 _)))
                  refine wpQuiet_nil ?_
                  intro _ hw'
                  obtain ⟨pq, rfl⟩ := hw'
                  have b11 := pq.h
                  generalize pq.W = v11 at b11 ⊢
                  clear pq HC1 HC2 HA1 HA2 y0 y1 y2 y3 gx gy
                  have hb11 := hb.trans (b11.mono hb.size)
                  go_wp2_with fail
                  go_roundw
                  case rel => exact ⟨j + 1, by omega, by go_num, hb11⟩
                  case measure => simp [intOf]; omega
                · obtain rfl : j = 5 := by omega
                  have hb12 := hB10.trans (hb.mono hB10.size)
                  clear hPt hIR his hil hb hB10
                  go_wp2_with fail
                  go_roundw
                  case rel => exact ⟨i + 1, by omega, by go_num, hb12⟩
                  case measure => simp [intOf]; omega

          · obtain rfl : i = 2 := by omega
            clear HA qR hz hM q0 hQ cTok HSq
            go_wp2_with fail
            with_reducible refine (HSo.out _ hK).mono ?_
            rintro e v4 ⟨S1, s1, rfl, hS, b4⟩
            replace hK := hK.on b4
            have B14 := Bo.trans (b4.mono Bo.size)
            clear b4 Bo
            go_upto_region 26 with (fail)
            have qS := RowAt.new v4 40 #[.bool false, .slice S1 lw.length s1]
            have bx := (Below.refl v4.heap.size v4).alloc (Nat.le_refl _) (.cells #[.bool false, .slice S1 lw.length s1] 40)
            replace hK := hK.on bx
            replace hS := hS.on bx
            have B15 := B14.trans (bx.mono B14.size)
            clear bx B14
            generalize v4.alloc (.cells #[.bool false, .slice S1 lw.length s1] 40) = v5 at *
            generalize v4.heap.size = gS at *
            go_wp2_with fail
            with_reducible refine (HSk.out _ hK).mono ?_
            rintro e v6 ⟨W1, ww, rfl, hW, b6⟩
            replace hS := hS.on b6
            replace qS := qS.on b6
            have B16 := B15.trans (b6.mono B15.size)
            clear b6 B15
            go_upto_region 27 with (fail)
            have qW := RowAt.new v6 40 #[.bool false, .slice W1 lw.length ww]
            have bx := (Below.refl v6.heap.size v6).alloc (Nat.le_refl _) (.cells #[.bool false, .slice W1 lw.length ww] 40)
            replace hS := hS.on bx
            replace qS := qS.on bx
            replace hW := hW.on bx
            have B17 := B16.trans (bx.mono B16.size)
            clear bx B16
            generalize v6.alloc (.cells #[.bool false, .slice W1 lw.length ww] 40) = v7 at *
            generalize v6.heap.size = gW at *
            obtain ⟨s0, s1'⟩ := qS.two
            obtain ⟨s2, s3⟩ := qW.two
            go_wp2_with fail
            with_reducible refine (Same_eq _ _ false false lw lw _ true (sameT_refl _ _) (Tk.of hS) (Tk.of hW) (by omega) (by omega)).mono ?_
            rintro e v8 ⟨rfl, b8⟩
            go_wp2_with fail
            go_ret
            exact ⟨rfl, B17.trans (b8.mono B17.size)⟩
theorem otells_calls (xs0 : List Pr) (v0 : Value) {w : World} (s0 : Prs w w.heap.size v0 xs0) (l0 : xs0.length ≤ maxLen) (xs1 : List Int) (v1 : Value) (s1 : Ints w w.heap.size v1 xs1) (b1 : ∀ x ∈ xs1, -9223372036854775808 ≤ x ∧ x ≤ 9223372036854775807) (l1 : xs1.length ≤ maxLen) (xs2 : List Pr) (v2 : Value) (s2 : Prs w w.heap.size v2 xs2) (l2 : xs2.length ≤ maxLen) (xs3 : List Nat) (v3 : Value) (s3 : Wds w w.heap.size v3 xs3) (b3 : ∀ x ∈ xs3, x < 18446744073709551616) (l3 : xs3.length ≤ maxLen) (xs4 : List Int) (v4 : Value) (s4 : Ints w w.heap.size v4 xs4) (b4 : ∀ x ∈ xs4, -9223372036854775808 ≤ x ∧ x ≤ 9223372036854775807) (l4 : xs4.length ≤ maxLen) (a5 : Int) (w5 : (Lit.int .u64 a5).wf = true) (xs6 : List Int) (v6 : Value) (s6 : Ints w w.heap.size v6 xs6) (b6 : ∀ x ∈ xs6, -9223372036854775808 ≤ x ∧ x ≤ 9223372036854775807) (l6 : xs6.length ≤ maxLen) (a7 : Bool) (ra8 rb8 : Nat) (_ : ra8 < 18446744073709551616) (_ : rb8 < 18446744073709551616) :
    Calls Try.prog 3 #[v0, v1, v2, v3, v4, .int .u64 a5, v6, .bool a7, .agg #[.int .u64 ra8, .int .u64 rb8]] w fun e w' => e = .returned (.bool true) ∧ Below w.heap.size w w' := by
  have h1 := bounds_u64 w5
  obtain ⟨k, rfl⟩ := Int.eq_ofNat_of_zero_le h1.1
  exact otells_walk v0 v1 v2 v3 v4 v6 xs0 xs1 xs2 xs3 xs4 k xs6 a7 ra8 rb8 w s0 s1 s2 s3 s4 s6 b1 b4 b6 b3 (by omega) l0 l1 l2 l3 l4 l6
end Go.Proofs.Ytjjccoliknngcaa
