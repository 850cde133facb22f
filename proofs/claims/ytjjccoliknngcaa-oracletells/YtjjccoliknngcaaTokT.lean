/- Plain facts for TokenKeys; rows of tokens that are one's own. -/
import Derived.Test.YtjjccoliknngcaaTokO
namespace Go.Proofs.Ytjjccoliknngcaa
open Go.RowKit

/-- The tokens of keys, all of one root. -/
def onesOf (root : Nat) (ks : List Nat) : List Tok := ks.map fun k => (false, [(k, root)])
theorem onesOf_length (root : Nat) (ks : List Nat) : (onesOf root ks).length = ks.length := by simp [onesOf]
theorem onesOf_flat (root : Nat) (ks : List Nat) : ((onesOf root ks).map (·.2)).flatten = ks.map fun k => (k, root) := by
  induction ks with
  | nil => rfl
  | cons k ks ih => simp only [onesOf, List.map_cons, List.flatten_cons] at *; rw [ih]; rfl
theorem onesOf_sum (root : Nat) (ks : List Nat) : tSumLen (onesOf root ks) = ks.length := by
  induction ks with
  | nil => rfl
  | cons k ks ih => simp [onesOf, tSumLen] at *; omega
theorem onesOf_right (root : Nat) (ks : List Nat) : ∀ t ∈ onesOf root ks, rightT t.2 = true := fun t ht => by
  simp [onesOf] at ht
  obtain ⟨k, _, rfl⟩ := ht
  rfl
theorem onesOf_any (root : Nat) (ks : List Nat) : (onesOf root ks).any (·.1) = false := by simp [onesOf]
theorem onesOf_nine (root : Nat) (ks : List Nat) : ∀ t ∈ onesOf root ks, t.2.length ≤ maxLen := fun t ht => by
  simp [onesOf] at ht
  obtain ⟨k, _, rfl⟩ := ht
  show 1 ≤ maxLen
  unfold maxLen; omega
/-- What the merging of all tells. -/
theorem ones_merge (root : Nat) (ks : List Nat) (h : ks.length ≤ 2048) : ∃ m : List Pr, mergeT (onesOf root ks) = (0, false, m) ∧ srt m = true ∧ m.Perm (ks.map fun k => (k, root)) := by
  refine ⟨mrgAll ((onesOf root ks).map (·.2)), ?_, ?_, ?_⟩
  · unfold mergeT
    rw [if_neg (by rw [show allRight (onesOf root ks) = true from List.all_eq_true.2 (onesOf_right root ks)]; simp), onesOf_sum, if_neg (by omega), onesOf_any]
  · refine mrgAll_srt _ fun l hl => ?_
    obtain ⟨t, ht, rfl⟩ := List.mem_map.1 hl
    have := onesOf_right root ks t ht
    unfold rightT at this
    simp at this
    exact this.1
  · rw [← onesOf_flat]; exact mrgAll_perm _
/-- Keys that are told rise, one above the other. -/
theorem keysB_rise {root : Nat} {l : List Pr} (hs : srt l = true) (hk : keysB root l = true) : ∀ i j (_ : i < j) (hj : j < l.length), (l[i]).1 < (l[j]).1 := by
  intro i j hij hj
  have hp := List.pairwise_iff_getElem.1 ((srt_iff l).1 hs)
  have h1 := ((keysB_iff root l).1 hk (i + 1) (by omega)).2 (by omega)
  have h2 : Le l[i] l[i + 1] := hp i (i + 1) (by omega) (by omega) (by omega)
  rw [le_iff] at h2
  have e : (l[i + 1 - 1]'(by omega)).1 = (l[i]).1 := by congr 2
  rw [e] at h1
  rcases Nat.lt_or_ge (i + 1) j with h | h
  · have h3 : Le l[i + 1] l[j] := hp (i + 1) j (by omega) hj h
    rw [le_iff] at h3
    omega
  · have e2 : i + 1 = j := by omega
    subst e2
    omega
theorem keysB_nodup {root : Nat} {l : List Pr} (hs : srt l = true) (hk : keysB root l = true) : (l.map (·.1)).Nodup := by
  rw [List.nodup_iff_pairwise_ne, List.pairwise_map, List.pairwise_iff_getElem]
  intro i j hi hj hij
  have := keysB_rise hs hk i j hij hj
  omega
theorem keysB_of {root : Nat} {l : List Pr} (hr : ∀ p ∈ l, p.2 = root) (hn : (l.map (·.1)).Nodup) : keysB root l = true := (keysB_iff root l).2 fun i hi => by
  refine ⟨hr _ (List.getElem_mem hi), fun h0 e => ?_⟩
  rw [List.nodup_iff_pairwise_ne, List.pairwise_map, List.pairwise_iff_getElem] at hn
  exact hn (i - 1) i (by omega) hi (by omega) e.symm
theorem ones_keys {root : Nat} {ks : List Nat} {m : List Pr} (hn : ks.Nodup) (hl : ks.length ≤ 2048) (hs : srt m = true) (hp : m.Perm (ks.map fun k => (k, root))) : keysT root m = (m.map (·.1), true) := by
  have hlen : m.length = ks.length := by rw [hp.length_eq, List.length_map]
  have h1 : rightT m = true := by unfold rightT; rw [hs, decide_eq_true (by omega)]; rfl
  have h2 : keysB root m = true := keysB_of (fun p h => by
    have := hp.mem_iff.1 h
    simp at this
    obtain ⟨k, _, rfl⟩ := this
    rfl) (by
    have := hp.map (·.1)
    rw [List.map_map] at this
    have e : ((fun k : Nat => (k, root)) : Nat → Pr) = fun k => (k, root) := rfl
    have h3 : (List.map ((fun p : Pr => p.1) ∘ fun k => (k, root)) ks) = ks := by simp [Function.comp_def]
    rw [h3] at this
    exact this.nodup_iff.2 hn)
  unfold keysT
  rw [h1, h2]; rfl
theorem ones_other {root other : Nat} {ks : List Nat} {m : List Pr} (h0 : 0 < ks.length) (ho : root ≠ other) (hp : m.Perm (ks.map fun k => (k, root))) : keysT other m = ([], false) := by
  have hlen : m.length = ks.length := by rw [hp.length_eq, List.length_map]
  have h2 : keysB other m = false := keysB_not (i := 0) fun h => by
    have h1 := (h (by omega)).1
    have := hp.mem_iff.1 (List.getElem_mem (l := m) (n := 0) (by omega))
    simp at this
    obtain ⟨k, _, e⟩ := this
    rw [← e] at h1
    exact ho h1
  unfold keysT
  rw [h2, Bool.and_false]; rfl
theorem ones_twice {root k0 : Nat} {ks : List Nat} {m : List Pr} (hk : k0 ∈ ks) (hl : ks.length < 2048) (hs : srt m = true) (hp : m.Perm (ks.map fun k => (k, root))) :
    ∃ m2 : List Pr, mergeT [(false, m), (false, [(k0, root)])] = (0, false, m2) ∧ keysT root m2 = ([], false) ∧ m2.length ≤ 2048 := by
  have hlen : m.length = ks.length := by rw [hp.length_eq, List.length_map]
  have h1 : rightT m = true := by unfold rightT; rw [hs, decide_eq_true (by omega)]; rfl
  have hperm := mrgAll_perm [m, [(k0, root)]]
  have hl2 : (mrgAll [m, [(k0, root)]]).length = ks.length + 1 := by rw [mrgAll_length]; simp; omega
  refine ⟨mrgAll [m, [(k0, root)]], ?_, ?_, by omega⟩
  · unfold mergeT
    rw [if_neg (by simp [allRight, h1]; rfl), if_neg (by simp [tSumLen]; omega)]
    rfl
  · have hs2 : srt (mrgAll [m, [(k0, root)]]) = true := mrgAll_srt _ (by intro l hl; simp at hl; rcases hl with rfl | rfl; exact hs; rfl)
    have h2 : keysB root (mrgAll [m, [(k0, root)]]) = false := by
      cases e : keysB root (mrgAll [m, [(k0, root)]])
      · rfl
      · exfalso
        have hn := keysB_nodup hs2 e
        have hq := (hperm.map (·.1)).nodup_iff.1 hn
        simp at hq
        have hm : (k0, root) ∈ m := hp.mem_iff.2 (by simp; exact hk)
        rw [List.nodup_append] at hq
        exact hq.2.2 k0 (List.mem_map.2 ⟨_, hm, rfl⟩) k0 (by simp) rfl
    unfold keysT
    rw [h2, Bool.and_false]; rfl

/- rows of tokens -/
theorem Reads.on {w w' : World} {xs : List (Bool × Value)} {ts : List Tok} (h : Reads w xs ts) (hb : Below w.heap.size w w') : Reads w' xs ts :=
  ⟨h.1, fun j x t hx ht => ⟨(h.2 j x t hx ht).1, (h.2 j x t hx ht).2.on hb⟩⟩
theorem Reads.append {w : World} {xs ys : List (Bool × Value)} {ts us : List Tok} (h : Reads w xs ts) (k : Reads w ys us) : Reads w (xs ++ ys) (ts ++ us) := by
  refine ⟨by rw [List.length_append, List.length_append, h.1, k.1], fun j x t hx ht => ?_⟩
  rcases Nat.lt_or_ge j xs.length with hj | hj
  · rw [List.getElem?_append_left hj] at hx
    rw [List.getElem?_append_left (by rw [← h.1]; exact hj)] at ht
    exact h.2 j x t hx ht
  · rw [List.getElem?_append_right hj] at hx
    rw [List.getElem?_append_right (by rw [← h.1]; exact hj), ← h.1] at ht
    exact k.2 _ x t hx ht
theorem Reads.take {w : World} {xs : List (Bool × Value)} {ts : List Tok} (h : Reads w xs ts) (n : Nat) : Reads w (xs.take n) (ts.take n) := by
  refine ⟨by rw [List.length_take, List.length_take, h.1], fun j x t hx ht => ?_⟩
  rw [List.getElem?_take] at hx ht
  split at hx
  · rename_i hj
    rw [if_pos hj] at ht
    exact h.2 j x t hx ht
  · cases hx
theorem Reads.drop {w : World} {xs : List (Bool × Value)} {ts : List Tok} (h : Reads w xs ts) (n : Nat) : Reads w (xs.drop n) (ts.drop n) := by
  refine ⟨by rw [List.length_drop, List.length_drop, h.1], fun j x t hx ht => ?_⟩
  rw [List.getElem?_drop] at hx ht
  exact h.2 _ x t hx ht
theorem tokCells_length : ∀ xs : List (Bool × Value), (xs.flatMap tokCells).length = xs.length * 2
  | [] => rfl
  | x :: xs => by rw [List.flatMap_cons, List.length_append, tokCells_length xs, List.length_cons]; simp [tokCells]; omega
theorem TkRow.own {w : World} {base : Nat} {e : TypeId} {v : Value} {xs : List (Bool × Value)} {ts : List Tok} (h : w.ownsRow base e 2 v ts.length (xs.flatMap tokCells)) (hr : Reads w xs ts) : TkRow w v ts := by
  obtain ⟨_, h⟩ := h
  rcases h with ⟨rfl, h0⟩ | ⟨g, cap, cur, rfl, _, hh, hnc, _, hcs, ht⟩
  · rw [List.eq_nil_of_length_eq_zero h0]; exact TkRow.nil w
  · refine ⟨_, cap, rfl, hnc, fun _ => ⟨⟨g, 0, none⟩, rfl, ?_, fun j b hj => ?_⟩⟩
    · rcases Nat.lt_or_ge g w.heap.size with k | k
      · exact k
      · rw [Array.getElem?_eq_none k] at hh; cases hh
    · have hjl : j < ts.length := by
        rcases Nat.lt_or_ge j ts.length with k | k
        · exact k
        · rw [List.getElem?_eq_none k] at hj; cases hj
      obtain ⟨c1, c2⟩ := tokCells_get xs j _ (List.getElem?_eq_getElem (by rw [hr.1]; exact hjl))
      obtain ⟨e1, e2⟩ := hr.2 j _ b (List.getElem?_eq_getElem (by rw [hr.1]; exact hjl)) hj
      rw [← ht, List.getElem?_take_of_lt (by omega)] at c1 c2
      rw [addr0, addr0, cell_of_row w g _ cur e (0, 0) hh, cell_of_row w g _ cur e (0, 0) hh]
      exact ⟨_, by rw [← e1]; simpa using c1, by simpa using c2, e2⟩
theorem One_new (k r : Nat) (w : World) :
    Calls Try.prog 42 #[.int .u64 k, .int .u64 r] w fun e w' => e = .returned (.agg #[.bool false, .slice (some ⟨w.heap.size + 1, 0, none⟩) 1 1]) ∧ Tk w' (.agg #[.bool false, .slice (some ⟨w.heap.size + 1, 0, none⟩) 1 1]) false [(k, r)] ∧ Below w.heap.size w w' := by
  go_enter Try.func42, Try.ntmps42
  go_wp2_with fail
  refine bodyPost_ret (v := .agg #[.bool false, .slice (some ⟨w.heap.size + 1, 0, none⟩) 1 1]) (by simp [results, Try.results42, go_sem]) rfl ?_
  refine ⟨rfl, ⟨_, rfl, ?_⟩, ((Below.refl _ w).alloc (Nat.le_refl _) _).alloc (by simp) _⟩
  have := RowAt.new (w.alloc (.cells #[.bool false, .slice (some ⟨w.heap.size + 1, 0, none⟩) 1 1] 40)) 27 #[.int .u64 k, .int .u64 r]
  rw [World.size_alloc] at this
  exact Prs.row (l := [(k, r)]) this
end Go.Proofs.Ytjjccoliknngcaa
