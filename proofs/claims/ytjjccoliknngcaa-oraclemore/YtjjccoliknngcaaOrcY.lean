/- Layer 7: plain facts for OracleSign and OracleOne; words of appended slices. -/
import Derived.Test.YtjjccoliknngcaaOrcX
import Derived.Deep.CutRange
namespace Go.Proofs.Ytjjccoliknngcaa
open Go.RowKit Go.Lib

/-- A key as a word. -/
abbrev wv (n : Nat) : Value := .int .u64 (n : Int)
theorem words_one (xs : List Nat) : ∀ u ∈ xs.map wv, u.oneCell' = true := by
  intro u hu
  obtain ⟨x, _, rfl⟩ := List.mem_map.1 hu
  rfl
theorem Elems.news {α : Type} {enc : α → Value} {w : World} {B : Nat} {A : Option Addr} {m n c : Nat} {xs : List α} (h : Elems enc w B (.slice A n c) xs) (hm : m = xs.length) : 0 < m → ∃ ad, A = some ad ∧ ∀ j u, (xs.map enc)[j]? = some u → w.cell? (ad.add j) = some u := fun h0 => by
  obtain ⟨A', c', hv, _, ha⟩ := h
  injection hv with h1 h2 h3
  subst h1
  obtain ⟨ad, e, _, hc⟩ := ha (by omega)
  refine ⟨ad, e, fun j u hj => ?_⟩
  rw [List.getElem?_map] at hj
  obtain ⟨x, hx, rfl⟩ := Option.map_eq_some_iff.1 hj
  exact hc j x hx
theorem words_own {w : World} {base : Nat} {e : TypeId} {S : Option Addr} {n c : Nat} {xs : List Nat} (h : w.ownsRow base e 1 (.slice S n c) n (xs.map wv)) (hn : n = xs.length) : Wds w w.heap.size (.slice S n c) xs := by
  subst hn
  exact Elems.own h
theorem Prs.set_box {w : World} {B G : Nat} {t : TypeId} {b : Bool} {X : Option Addr} {n c : Nat} {v : Value} {l : List Pr} (h : Prs w B v l) (r : RowAt w G t [.bool b, .slice X n c]) (b' : Bool) (v' : Value) : Prs ((w.setCell ⟨G, 0, none⟩ (.bool b')).setCell ⟨G, 1, none⟩ v') B v l := by
  have h1 := h.set_no ⟨G, 0, none⟩ (fun m e => by have := r.two.1; rw [this] at e; cases e) (.bool b')
  exact h1.set_no ⟨G, 1, none⟩ (fun m e => by have := (r.set 0 (.bool b')).two.2; rw [this] at e; cases e) v'
/-- What layer 5's Keys tell of a signature: its keys, rising, just if no two are alike. -/
theorem sign_keys (r : Nat) (ks : List Nat) (h : ks.length ≤ 2048) : ∃ L : List Nat, keysT r (signL r ks) = (L, decide ks.Nodup) ∧ (∀ x ∈ L, x ∈ ks) ∧ (∀ i j (_ : i < j) (hj : j < L.length), L[i] < L[j]) ∧ (ks.Nodup → L.length = ks.length) ∧ L.length ≤ ks.length := by
  have hs := signL_srt r ks
  have hp := signL_perm r ks
  have hr := sign_right (r := r) h
  have hl := signL_length r ks
  have hm : ∀ x ∈ (signL r ks).map (·.1), x ∈ ks := fun x hx => by
    obtain ⟨p, hp1, rfl⟩ := List.mem_map.1 hx
    exact (mem_signL.1 hp1).2
  by_cases hn : ks.Nodup
  · refine ⟨(signL r ks).map (·.1), ?_, hm, fun i j hij hj => ?_, fun _ => by rw [List.length_map, hl], by rw [List.length_map, hl]; exact Nat.le_refl _⟩
    · rw [ones_keys hn h hs hp, decide_eq_true hn]
    · have hkt := ones_keys hn h hs hp
      have hkb : keysB r (signL r ks) = true := by
        unfold keysT at hkt
        split at hkt
        · rename_i h1
          rw [Bool.and_eq_true] at h1
          exact h1.2
        · injection hkt with _ h2
          cases h2
      rw [List.length_map] at hj
      rw [List.getElem_map, List.getElem_map]
      exact keysB_rise hs hkb i j hij hj
  · refine ⟨[], ?_, fun x hx => by simp at hx, fun i j _ hj => by simp at hj, fun h => absurd h hn, Nat.zero_le _⟩
    rw [decide_eq_false hn]
    unfold keysT
    cases e : keysB r (signL r ks)
    · rw [Bool.and_false]; rfl
    · exfalso
      have h1 := keysB_nodup hs e
      have h2 := (hp.map (·.1)).nodup_iff.1 h1
      rw [List.map_map] at h2
      have h3 : (List.map ((fun p : Pr => p.1) ∘ fun k => (k, r)) ks) = ks := by simp [Function.comp_def]
      rw [h3] at h2
      exact hn h2
theorem sign_rot (r : Nat) (ks : List Nat) (n : Nat) : signL r (ks.drop n ++ ks.take n) = signL r ks := signL_eq (by
  have := List.perm_append_comm (l₁ := ks.drop n) (l₂ := ks.take n)
  rwa [List.take_append_drop] at this)
/-- Whether the first keys are unlike, one more. -/
theorem nodup_more {ks : List Nat} {i : Nat} (h : i < ks.length) : (decide (ks.take i).Nodup && decide (ks[i] ∉ ks.take i)) = decide (ks.take (i + 1)).Nodup := by
  rw [← Bool.decide_and]
  apply decide_eq_decide.2
  have e := List.take_succ_eq_append_getElem h
  generalize ks[i] = y at *
  generalize ks.take i = l at *
  rw [e, List.nodup_append]
  constructor
  · rintro ⟨h1, h2⟩
    exact ⟨h1, by simp, fun a ha b hb e' => by rw [List.mem_singleton] at hb; exact h2 (by rw [← hb, ← e']; exact ha)⟩
  · rintro ⟨h1, _, h2⟩
    exact ⟨h1, fun ha => h2 _ ha _ (by simp) rfl⟩
theorem unlike_more {ks : List Nat} {j : Nat} (h : j < ks.length) (y : Nat) : (decide (y ∉ ks.take j) && decide (y ≠ ks[j])) = decide (y ∉ ks.take (j + 1)) := by
  rw [← Bool.decide_and]
  apply decide_eq_decide.2
  rw [List.take_succ_eq_append_getElem h, List.mem_append, List.mem_singleton, not_or]
theorem among_more {ks : List Nat} {j : Nat} (h : j < ks.length) (y : Nat) : (decide (y ∈ ks.take j) || decide (ks[j] = y)) = decide (y ∈ ks.take (j + 1)) := by
  rw [← Bool.decide_or]
  apply decide_eq_decide.2
  rw [List.take_succ_eq_append_getElem h, List.mem_append, List.mem_singleton, eq_comm (a := y)]
end Go.Proofs.Ytjjccoliknngcaa
