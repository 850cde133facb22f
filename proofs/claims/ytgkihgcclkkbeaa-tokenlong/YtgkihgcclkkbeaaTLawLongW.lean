/- The walk of TokenLong. -/
import Derived.Test.YtgkihgcclkkbeaaTokR
import Derived.OpenShut
namespace Go.Proofs.Ytgkihgcclkkbeaa
open Go.RowKit Go.Shelf

/-- So many pairs of one key, two of each root. -/
def longL (key k : Nat) : List Pr := (List.range k).map fun i => (key, i / 2)
theorem longL_length (key k : Nat) : (longL key k).length = k := by simp [longL]
theorem longL_get (key k i : Nat) (h : i < (longL key k).length) : (longL key k)[i] = (key, i / 2) := by simp [longL]
theorem longL_srt (key k : Nat) : srt (longL key k) = true := (srt_at _).2 fun i h => by
  rw [longL_get, longL_get]
  have := ahead_iff (key, (i + 1) / 2) (key, i / 2)
  cases e : aheadB (key, (i + 1) / 2) (key, i / 2)
  · rfl
  · rw [e] at this
    have := this.1 rfl
    omega
theorem leNum_zeros : ∀ n, leNum (List.replicate n 0) = 0
  | 0 => rfl
  | n + 1 => by rw [List.replicate_succ]; simp [leNum, leNum_zeros n]
theorem readP_zeros : ∀ n, readP n (List.replicate (16 * n) 0) = List.replicate n (0, 0)
  | 0 => rfl
  | n + 1 => by
    rw [readP, List.drop_replicate, List.drop_replicate, List.take_replicate, List.take_replicate, leNum_zeros, leNum_zeros, show 16 * (n + 1) - 16 = 16 * n by omega, readP_zeros n, List.replicate_succ]
theorem srt_same : ∀ (n : Nat) (p : Pr), srt (List.replicate n p) = true := fun n p => (srt_at _).2 fun i h => by
  simp only [List.getElem_replicate]
  have := ahead_iff p p
  cases e : aheadB p p
  · rfl
  · rw [e] at this
    have := this.1 rfl
    omega
theorem dec_zeros (k : Nat) : decB (0 :: List.replicate (16 * k) 0) = if 2048 < k then (4, false, []) else (0, false, List.replicate k (0, 0)) := by
  simp only [decB, List.length_replicate]
  rw [if_neg (by simp), Nat.mul_div_right _ (by decide), readP_zeros, if_neg (by rw [srt_same]; simp)]
  rfl
theorem Prs.rest {w : World} {B : Nat} {ad : Addr} {m c : Nat} {l : List Pr} (h : Prs w B (.slice (some ad) m c) l) (n : Nat) (hn : n ≤ l.length) : Prs w B (.slice (some (ad.add (n * 2))) (l.length - n) (c - n)) (l.drop n) := by
  obtain ⟨A', c', hv, hc, ha⟩ := h
  injection hv with h1 h2 h3
  subst h3
  have hl : (l.drop n).length = l.length - n := List.length_drop
  refine ⟨_, c - n, by rw [hl], ⟨by omega, fun h => by cases h⟩, fun h0 => ?_⟩
  obtain ⟨ad', e, hb, hcell⟩ := ha (by omega)
  rw [e] at h1
  injection h1 with h1
  subst h1
  refine ⟨_, rfl, by rw [add_block]; exact hb, fun j p hj => ?_⟩
  rw [List.getElem?_drop] at hj
  obtain ⟨c1, c2⟩ := hcell (n + j) p hj
  rw [add_add, add_add, show n * 2 + j * 2 = (n + j) * 2 by omega, show n * 2 + (j * 2 + 1) = (n + j) * 2 + 1 by omega]
  exact ⟨c1, c2⟩
theorem Prs.setBox {w : World} {B G : Nat} {t : TypeId} {b : Bool} {X : Option Addr} {n c : Nat} {v : Value} {l : List Pr} (h : Prs w B v l) (r : RowAt w G t [.bool b, .slice X n c]) (i : Nat) (u : Value) : Prs (w.setCell ⟨G, i, none⟩ u) B v l := by
  have hne : ∀ (q : Addr) (m : Int), w.cell? q = some (.int .u64 m) → (⟨G, i, none⟩ : Addr) ≠ q := fun q m hq e => by
    rw [← e, r.cell] at hq
    match i, hq with
    | 0, hq => simp at hq
    | 1, hq => simp at hq
    | _ + 2, hq => simp at hq
  obtain ⟨A, c', hv, hc, ha⟩ := h
  refine ⟨A, c', hv, hc, fun h0 => ?_⟩
  obtain ⟨ad, e, hb, hcell⟩ := ha h0
  refine ⟨ad, e, hb, fun j s hs => ?_⟩
  obtain ⟨c1, c2⟩ := hcell j s hs
  rw [World.cell?_setCell_other _ _ _ _ (hne _ _ c1), World.cell?_setCell_other _ _ _ _ (hne _ _ c2)]
  exact ⟨c1, c2⟩
theorem Tk.setBox {w : World} {G : Nat} {t : TypeId} {b : Bool} {X : Option Addr} {n c : Nat} {x : Value} {f : Bool} {l : List Pr} (h : Tk w x f l) (r : RowAt w G t [.bool b, .slice X n c]) (b' : Bool) (v' : Value) : Tk ((w.setCell ⟨G, 0, none⟩ (.bool b')).setCell ⟨G, 1, none⟩ v') x f l := by
  obtain ⟨v, hx, hv⟩ := h
  have h1 := hv.setBox r 0 (.bool b')
  have h2 := h1.setBox (r.set 0 (.bool b')) 1 v'
  exact ⟨v, hx, by simpa [World.setCell] using h2⟩
theorem pick5_16 (c : Int) (w : World) (hc : I64 c) : Calls Try.prog 21 #[.int .i64 c, .int .i64 16] w fun e w' => e = .returned (.int .i64 (pickN c 16 : Int)) ∧ w = w' := pick5_any c 16 w hc (by decide) (by decide)
theorem zeros_size (n : Nat) : (⟨(List.replicate n (0 : UInt8)).toArray⟩ : ByteArray).size = n := by simp [ByteArray.size]
theorem zero_cat (n : Nat) : (⟨#[0]⟩ : ByteArray) ++ ⟨(List.replicate n (0 : UInt8)).toArray⟩ = ⟨(0 :: List.replicate n 0).toArray⟩ := by
  apply ByteArray.ext
  simp

set_option maxHeartbeats 8000000 in
set_option maxRecDepth 100000 in
theorem tlong_y (n : Int) (key : Nat) (w : World) (hn : I64 n) (hkey : key < 18446744073709551616) (hk : 2040 + pickN n 16 ≤ 2048) :
    Calls Try.prog 7 #[.int .i64 n, .int .u64 (key : Int)] w fun e w' => e = .returned (.bool true) ∧ Below w.heap.size w w' := by
  obtain ⟨i0, hi, hz0, hz1, hz2⟩ := info_parts info_pair
  obtain ⟨K, hK⟩ : ∃ K, K = 2040 + pickN n 16 := ⟨_, rfl⟩
  have hpl := pickN_lt n 16 (by decide)
  have pP := fun W => pick5_16 n W hn
  rw [← hK] at hk
  have hadd : (2040 : Int) + (pickN n 16 : Int) = (K : Int) := by rw [hK]; omega
  have hK1 : K ≤ 2056 := by omega
  have hK2 : 2040 ≤ K := by omega
  generalize pickN n 16 = P at *
  clear hK
  obtain ⟨H, hH⟩ : ∃ H, H = K / 2 := ⟨_, rfl⟩
  have HH := Lib.hid (show (K : Int) / 2 = (H : Int) by rw [hH]; omega)
  have hHK : H < K := by omega
  have hH0 : 0 < H := by omega
  have hL := longL_length key K
  have hLs := longL_srt key K
  have hLg := longL_get key K
  generalize longL key K = L at *
  obtain ⟨M, hM⟩ : ∃ M, M = madeCells (Value.agg #[.int .u64 0, .int .u64 0]).cells (K * i0.size) := ⟨_, rfl⟩
  have hMs : M.toList = List.replicate (K * 2) (.int .u64 0) := by rw [hM, hz1]; exact made_pairs _
  have hmk : ∀ W : World, (Instr.makeSlice 22 (.int .i64 (K : Int)) (.int .i64 (K : Int))).run Try.prog W = .ok (.slice (some ⟨W.heap.size, 0, none⟩) K K) (W.alloc (.cells M 50)) := fun W => by
    have hr := run_make (P := Try.prog) W 22 50 i0 (.agg #[.int .u64 0, .int .u64 0]) Try.underlying22 hi hz0 .i64 .i64 (K : Int) (K : Int) (by omega) (by omega) (by rw [hz2]; omega) (by omega)
    rw [hM]
    simpa using hr
  clear hM hi hz0 hz1 hz2
  have HMS := Lib.hid hMs
  have HL0 := Lib.hid (show pairRow L 0 = List.replicate (K * 2) (.int .u64 0) by rw [pairRow_zero, hL])
  have HL := Lib.hid hL
  have HLG := Lib.hid hLg
  have lL : L.length ≤ 1000000 := by omega
  obtain ⟨N, hN⟩ : ∃ N : List Pr, N = [] := ⟨_, rfl⟩
  have st := srt_take H hLs
  have sd := srt_drop H hLs
  have hsl : sumLen [(false, L.take H), (false, L.drop H)] = K := by simp [sumLen]; omega
  have hrt : rightT (L.take H) = true := by unfold rightT; rw [st, decide_eq_true (by rw [List.length_take]; omega)]; rfl
  have hrd : rightT (L.drop H) = true := by unfold rightT; rw [sd, decide_eq_true (by rw [List.length_drop]; omega)]; rfl
  have har : allRight [(false, L.take H), (false, L.drop H)] = true := by simp [allRight, hrt, hrd]
  have nine2 : ∀ t ∈ [(false, L.take H), (false, L.drop H)], t.2.length ≤ maxLen := fun t ht => by
    simp at ht
    rcases ht with rfl | rfl
    · exact small (by show (L.take H).length ≤ _; rw [List.length_take]; omega)
    · exact small (by show (L.drop H).length ≤ _; rw [List.length_drop]; omega)
  have HM := Lib.hid (show mergeT [(false, L.take H), (false, L.drop H)] = (0, false, L) by
    unfold mergeT
    rw [har, if_neg (by simp), hsl, if_neg (by omega)]
    have : mrgAll [L.take H, L.drop H] = L := mrgAll_eq (by intro l hl; simp at hl; rcases hl with rfl | rfl <;> assumption) hLs (by simp)
    simp [this])
  obtain ⟨S, hS⟩ : ∃ S : ByteArray, S = ⟨(encB false L).toArray⟩ := ⟨_, rfl⟩
  have hrL : rightT L = true := by unfold rightT; rw [hLs, decide_eq_true (by omega)]; rfl
  have HE := Lib.hid (show encT false L = (S.data.toList, 0) by unfold encT; rw [hrL, if_pos rfl, hS])
  have HSS := Lib.hid (show ∀ Q : Nat, Q = 16 * K → ((S.size : Int) == 1 + (Q : Int)) = true from fun Q hq => by rw [← list_len, hS, hq]; simp [encB_length]; omega)
  have HRL := Lib.hid hrL
  have HSL := Lib.hid (sameT_refl false L)
  obtain ⟨Q, hQ⟩ : ∃ Q, Q = 16 * K := ⟨_, rfl⟩
  have HSS2 := Lib.hid (HSS.out Q hQ)
  have HQ := Lib.hid (show 16 * (K : Int) = (Q : Int) by rw [hQ]; omega)
  obtain ⟨Z, hZ⟩ : ∃ Z : ByteArray, Z = ⟨(0 :: List.replicate Q 0).toArray⟩ := ⟨_, rfl⟩
  obtain ⟨Zs, hZs⟩ : ∃ Zs : ByteArray, (⟨(List.replicate Q (0 : UInt8)).toArray⟩ : ByteArray) = Zs := ⟨_, rfl⟩
  have HZs := Lib.hid hZs
  have HZ := Lib.hid (show (⟨#[0]⟩ : ByteArray) ++ Zs = Z by rw [hZ, ← hZs]; exact zero_cat Q)
  have lZ : Z.size ≤ 1000000 := by rw [hZ]; simp [ByteArray.size]; omega
  have hQ9 : Q ≤ 40000 := by omega
  have hsz : Zs.size = Q := by rw [← hZs]; exact zeros_size Q
  obtain ⟨i8, hi8, hy0, hy1, hy2⟩ := info_parts info_byte
  obtain ⟨M8, hM8⟩ : ∃ M, M = madeCells (Value.int .u8 0).cells (Q * i8.size) := ⟨_, rfl⟩
  have HM8 := Lib.hid (show M8.toList = List.replicate Q (.int .u8 0) by rw [hM8, hy1, Nat.mul_one]; exact toList_madeCells_one _ _)
  have hmk8 : ∀ W : World, (Instr.makeSlice 43 (.int .i64 (Q : Int)) (.int .i64 (Q : Int))).run Try.prog W = .ok (.slice (some ⟨W.heap.size, 0, none⟩) Q Q) (W.alloc (.cells M8 5)) := fun W => by
    have hr := run_make (P := Try.prog) W 43 5 i8 (.int .u8 0) Try.underlying43 hi8 hy0 .i64 .i64 (Q : Int) (Q : Int) (by omega) (by omega) (by rw [hy2]; omega) (by omega)
    rw [hM8]
    simpa using hr
  obtain ⟨U, hU⟩ : ∃ U : List Pr, U = List.replicate K (0, 0) := ⟨_, rfl⟩
  have HD := Lib.hid (show decB Z.data.toList = (0, false, U) by rw [hZ, hQ, hU]; have := dec_zeros K; rw [if_neg (by omega)] at this; exact this)
  have HUK := Lib.hid (show ((U.length : Int) == (K : Int)) = true by rw [hU]; simp)
  clear hU
  clear hM8 hi8 hy0 hy1 hy2 hZ hQ hN hZs
  have HB0 := Lib.hid (fun (w1 : World) => ((Below.refl w1.heap.size w1).alloc (Nat.le_refl _) (.cells M 50)).alloc (by simp) (.cells #[.bool false, .slice (some ⟨w1.heap.size, 0, none⟩) K K] 24))
  clear hMs hL hLg hLs st sd hsl hrt hrd har hS hrL hH
  go_enter Try.func7, Try.ntmps7
  go_wp2_with fail
  with_reducible refine (awake_any _).mono ?_
  rintro e w1 ⟨rfl, hB1⟩
  have hw2 : Below w.heap.size w (w1) := hB1
  clear hB1
  have hb1w := hw2
  go_wp2_with fail
  with_reducible refine (pP _).mono ?_
  rintro e w_ ⟨rfl, rfl⟩
  have gm_ := RowAt.new w1 50 M
  rw [HMS.out, ← HL0.out] at gm_
  have hA3 : Below (w1).heap.size (w1) (w1.alloc (.cells M 50)) := (Below.refl _ _).alloc (Nat.le_refl _) _
  have hw4 : Below w.heap.size w (w1.alloc (.cells M 50)) := hw2.trans (hA3.mono hw2.size)
  clear hw2
  clear hA3
  have gm : RowAt (w1.alloc (.cells M 50)) (w1.heap.size) 50 (pairRow L 0) := gm_
  clear gm_
  have hA5 : Below (w1.alloc (.cells M 50)).heap.size (w1.alloc (.cells M 50)) ((w1.alloc (.cells M 50)).alloc (.cells #[.bool false, .slice (some ⟨w1.heap.size, 0, none⟩) K K] 24)) := (Below.refl _ _).alloc (Nat.le_refl _) _
  have rb_ := RowAt.new (w1.alloc (.cells M 50)) 24 #[.bool false, .slice (some ⟨w1.heap.size, 0, none⟩) K K]
  replace gm := gm.on hA5
  have hw6 : Below w.heap.size w ((w1.alloc (.cells M 50)).alloc (.cells #[.bool false, .slice (some ⟨w1.heap.size, 0, none⟩) K K] 24)) := hw4.trans (hA5.mono hw4.size)
  clear hw4
  clear hA5
  simp only [World.size_alloc] at rb_
  have rb : RowAt ((w1.alloc (.cells M 50)).alloc (.cells #[.bool false, .slice (some ⟨w1.heap.size, 0, none⟩) K K] 24)) (w1.heap.size + 1) 24 [.bool false, .slice (some ⟨w1.heap.size, 0, none⟩) K K] := rb_
  clear rb_
  obtain ⟨crb0_1, crb1_1⟩ := rb.two
  go_wp2_with fail
  clear crb0_1 crb1_1
  generalize hw2 : (w1.alloc (.cells M 50)).alloc (.cells #[.bool false, .slice (some ⟨w1.heap.size, 0, none⟩) K K] 24) = w2 at *
  have HW2 := Lib.hid hw2
  clear hw2
  have h12 : w1.heap.size + 1 < w2.heap.size := rb.lt
  go_loopw [8] (fun iv wr => ∃ i : Nat, i ≤ K ∧ iv = .int .i64 (i : Int) ∧ RowAt wr w1.heap.size 50 (pairRow L i) ∧ RowAt wr (w1.heap.size + 1) 24 [.bool false, .slice (some ⟨w1.heap.size, 0, none⟩) K K] ∧ Below w1.heap.size w1 wr) (fun iv _ => K - (intOf iv).toNat)
  case atStart => exact ⟨0, Nat.zero_le _, rfl, gm, rb, (by rw [← HW2.out]; exact HB0.out w1)⟩
  case round =>
    obtain ⟨i, hi, rfl, q, rq, hb⟩ := hrel
    clear gm rb
    obtain ⟨x0, x1⟩ := rq.two
    have hbw := bstep hb1w hb hb1w.size
    by_cases hlt : i < K
    · have hli : i < L.length := by have := HL.out; omega
      obtain ⟨kc1, kc2⟩ := pairRow_cell L i hli
      have hks := pairRow_set L i hli
      rw [HLG.out i hli] at hks
      have HKS := Lib.hid hks
      have c0 : wr.cell? ⟨w1.heap.size, i * 2, none⟩ = some (.int .u64 0) := by rw [q.cell]; exact kc1
      have c1 : wr.cell? ⟨w1.heap.size, i * 2 + 1, none⟩ = some (.int .u64 0) := by rw [q.cell]; exact kc2
      have f0 := q.frozen (i * 2)
      have f1 := q.frozen (i * 2 + 1)
      obtain ⟨j, hj⟩ : ∃ j, j = i / 2 := ⟨_, rfl⟩
      rw [← hj] at HKS
      have hd : IntKind.i64.wrap ((i : Int).tdiv 2) = (j : Int) := by rw [Int.tdiv_eq_ediv_of_nonneg (by omega), hj]; rw [IntWalk.i64_in _ (by omega)]; omega
      have hd2 : IntKind.u64.wrap (j : Int) = (j : Int) := IntWalk.u64_in _ (by omega)
      have hd3 : (i : Int) / 2 = (j : Int) := by omega
      have hlt1 : (i < K) = True := eq_true hlt
      have q2 := (q.set (i * 2) (.int .u64 (key : Int))).set (i * 2 + 1) (.int .u64 (j : Int))
      have rq2 := (rq.far (p := ⟨w1.heap.size, i * 2, none⟩) (by show w1.heap.size + 1 ≠ w1.heap.size; omega) (.int .u64 (key : Int))).far (p := ⟨w1.heap.size, i * 2 + 1, none⟩) (by show w1.heap.size + 1 ≠ w1.heap.size; omega) (.int .u64 (j : Int))
      have hb2 := (hb.setCell (p := ⟨w1.heap.size, i * 2, none⟩) (Nat.le_refl _) (.int .u64 (key : Int))).setCell (p := ⟨w1.heap.size, i * 2 + 1, none⟩) (Nat.le_refl _) (.int .u64 (j : Int))
      clear kc1 kc2 hks q rq hb hj
      go_wp2_with fail
      go_roundw
      case rel => exact ⟨i + 1, by omega, by go_num, by rw [← HKS.out]; exact q2, rq2, hb2⟩
      case measure => simp [intOf]; omega
    · obtain rfl : K = i := by omega
      have hlt1 : (K < K) = False := eq_false (by omega)
      have hLK := HL.out
      rw [show pairRow L K = L.flatMap pairCells by rw [← hLK]; exact pairRow_all L] at q
      have hP := Prs.row q
      rw [hLK] at hP
      have tL : Tk wr (.agg #[.bool false, .slice (some ⟨w1.heap.size, 0, none⟩) K K]) false L := ⟨_, rfl, hP⟩
      have hgK : w1.heap.size < wr.heap.size := q.lt
      clear hLK hlt hi q hP hb
      go_wp2_with fail
      with_reducible refine (Encode_eq _ false L _ S 0 HE.out tL lL).mono ?_
      rintro e w4 ⟨rfl, hB51⟩
      clear x0 x1
      replace tL := tL.on hB51
      replace rq := rq.on hB51
      have hw52 : Below w.heap.size w (w4) := hbw.trans (hB51.mono hbw.size)
      clear hbw
      clear hB51
      obtain ⟨crq0_51, crq1_51⟩ := rq.two
      go_upto_region 9 with (fail)
      go_cut [11, 12] from 42 to 57 (fun pv ev wx => ∃ (G : Nat) (Am : Option Addr) (cm : Nat), pv = .pointer (some ⟨G, 0, none⟩) ∧ ev = .int .i64 0 ∧ RowAt wx G 24 [.bool false, .slice Am L.length cm] ∧ Tk wx (.agg #[.bool false, .slice Am L.length cm]) false L ∧ Below w4.heap.size w4 wx)
      case first =>
        have hlow : Prs w4 w4.heap.size (.slice (some ⟨w1.heap.size, 0, none⟩) H K) (L.take H) := tL.prs.first H (by have := HL.out; omega)
        have hhigh : Prs w4 w4.heap.size (.slice (some ⟨w1.heap.size, H * 2, none⟩) (K - H) (K - H)) (L.drop H) := by
          have := tL.prs.rest H (by have := HL.out; omega)
          rw [HL.out, addr0] at this
          exact this
        have HTR := Lib.hid (show ∀ (W : World) (g : Nat), Below w4.heap.size w4 W → RowAt W g 24 [.bool false, .slice (some ⟨w1.heap.size, 0, none⟩) H K, .bool false, .slice (some ⟨w1.heap.size, H * 2, none⟩) (K - H) (K - H)] → TkRow W (.slice (some ⟨g, 0, none⟩) 2 2) [(false, L.take H), (false, L.drop H)] from fun W g hb hr => TkRow.of (xs := [(false, .slice (some ⟨w1.heap.size, 0, none⟩) H K), (false, .slice (some ⟨w1.heap.size, H * 2, none⟩) (K - H) (K - H))]) hr (.cons ⟨_, rfl, hlow.on hb⟩ (.cons ⟨_, rfl, hhigh.on hb⟩ (.nil _))))
        have rowA := RowAt.new (w4.alloc (.cells #[.bool false, .slice none 0 0] 24)) 24 #[.bool false, .slice (some ⟨w1.heap.size, 0, none⟩) H K, .bool false, .slice (some ⟨w1.heap.size, H * 2, none⟩) (K - H) (K - H)]
        rw [World.size_alloc] at rowA
        have rowB := (RowAt.new w4 24 #[.bool false, .slice (some ⟨w1.heap.size, 0, none⟩) H K, .bool false, .slice (some ⟨w1.heap.size, H * 2, none⟩) (K - H) (K - H)]).alloc (.cells #[.bool false, .slice none 0 0] 24)
        have rowC := RowAt.new w4 24 #[.bool false, .slice (some ⟨w1.heap.size, 0, none⟩) H K, .bool false, .slice (some ⟨w1.heap.size, H * 2, none⟩) (K - H) (K - H)]
        have boxA := (RowAt.new w4 24 #[.bool false, .slice none 0 0]).alloc (.cells #[.bool false, .slice (some ⟨w1.heap.size, 0, none⟩) H K, .bool false, .slice (some ⟨w1.heap.size, H * 2, none⟩) (K - H) (K - H)] 24)
        have boxB := RowAt.new (w4.alloc (.cells #[.bool false, .slice (some ⟨w1.heap.size, 0, none⟩) H K, .bool false, .slice (some ⟨w1.heap.size, H * 2, none⟩) (K - H) (K - H)] 24)) 24 #[.bool false, .slice none 0 0]
        rw [World.size_alloc] at boxB
        have hn1 : (H : Int) ≤ (K : Int) := by omega
        have hn2 : (0 : Int) ≤ (H : Int) := by omega
        have hn3 : (K = H) = False := eq_false (by omega)
        have hn4 : (K - H = 0) = False := eq_false (by omega)
        have hn5 : (H ≤ K) = True := eq_true (by omega)
        have hn7 : ((H : Int) < 0) = False := eq_false (by omega)
        have hn8 : ((K : Int) < (H : Int)) = False := eq_false (by omega)
        have hn9 : (K < H) = False := eq_false (by omega)
        have hH := HH.out
        have hwh : IntKind.i64.wrap (H : Int) = (H : Int) := IntWalk.i64_in _ (by omega)
        have hwk : IntKind.i64.wrap ((K : Int).tdiv 2) = (H : Int) := by rw [Int.tdiv_eq_ediv_of_nonneg (by omega), hH]; exact IntWalk.i64_in _ (by omega)
        have hqlt : w1.heap.size + 1 < w4.heap.size := rq.lt
        have trA : TkRow (((w4.alloc (.cells #[.bool false, .slice none 0 0] 24)).alloc (.cells #[.bool false, .slice (some ⟨w1.heap.size, 0, none⟩) H K, .bool false, .slice (some ⟨w1.heap.size, H * 2, none⟩) (K - H) (K - H)] 24)).drew) (.slice (some ⟨w4.heap.size + 1, 0, none⟩) 2 2) [(false, L.take H), (false, L.drop H)] := HTR.out _ _ ((((Below.refl _ w4).alloc (Nat.le_refl _) _).alloc (by simp) _).drew) rowA
        have trB : TkRow (((w4.alloc (.cells #[.bool false, .slice (some ⟨w1.heap.size, 0, none⟩) H K, .bool false, .slice (some ⟨w1.heap.size, H * 2, none⟩) (K - H) (K - H)] 24)).alloc (.cells #[.bool false, .slice none 0 0] 24)).drew) (.slice (some ⟨w4.heap.size, 0, none⟩) 2 2) [(false, L.take H), (false, L.drop H)] := HTR.out _ _ ((((Below.refl _ w4).alloc (Nat.le_refl _) _).alloc (by simp) _).drew) rowB
        have trC : TkRow ((w4.alloc (.cells #[.bool false, .slice (some ⟨w1.heap.size, 0, none⟩) H K, .bool false, .slice (some ⟨w1.heap.size, H * 2, none⟩) (K - H) (K - H)] 24)).drew) (.slice (some ⟨w4.heap.size, 0, none⟩) 2 2) [(false, L.take H), (false, L.drop H)] := HTR.out _ _ (((Below.refl _ w4).alloc (Nat.le_refl _) _).drew) rowC
        have boxAd : RowAt (((w4.alloc (.cells #[.bool false, .slice none 0 0] 24)).alloc (.cells #[.bool false, .slice (some ⟨w1.heap.size, 0, none⟩) H K, .bool false, .slice (some ⟨w1.heap.size, H * 2, none⟩) (K - H) (K - H)] 24)).drew) w4.heap.size 24 [.bool false, .slice none 0 0] := boxA
        have boxBd : RowAt (((w4.alloc (.cells #[.bool false, .slice (some ⟨w1.heap.size, 0, none⟩) H K, .bool false, .slice (some ⟨w1.heap.size, H * 2, none⟩) (K - H) (K - H)] 24)).alloc (.cells #[.bool false, .slice none 0 0] 24)).drew) (w4.heap.size + 1) 24 [.bool false, .slice none 0 0] := boxB
        have mA := Merge_eq _ [(false, L.take H), (false, L.drop H)] _ 0 false L HM.out trA (by simp) nine2
        have mB := Merge_eq _ [(false, L.take H), (false, L.drop H)] _ 0 false L HM.out trB (by simp) nine2
        have mC := Merge_eq _ [(false, L.take H), (false, L.drop H)] _ 0 false L HM.out trC (by simp) nine2
        go_region_held3 (fun w' => w'.cell? ⟨w1.heap.size + 1, 1, none⟩ = some (.slice (some ⟨w1.heap.size, 0, none⟩) K K))
          (first | go_keep | exact (rq.on hb5).two.2 | exact cellA (rq.on hb5).two.2 _ | exact (((rq.on hb5).far (p := ⟨w4.heap.size, 0, none⟩) (by show w1.heap.size + 1 ≠ w4.heap.size; omega) _).far (p := ⟨w4.heap.size, 1, none⟩) (by show w1.heap.size + 1 ≠ w4.heap.size; omega) _).two.2 | exact (((rq.on hb5).far (p := ⟨w4.heap.size + 1, 0, none⟩) (by show w1.heap.size + 1 ≠ w4.heap.size + 1; omega) _).far (p := ⟨w4.heap.size + 1, 1, none⟩) (by show w1.heap.size + 1 ≠ w4.heap.size + 1; omega) _).two.2)
          (first
            | ((with_reducible refine mA.mono ?_); rintro e w5 ⟨Am, cm, rfl, tm, hb5'⟩; have hb5 : Below w4.heap.size w4 w5 := Below.trans ((((Below.refl _ w4).alloc (Nat.le_refl _) _).alloc (by simp) _).drew) (hb5'.mono (by show w4.heap.size ≤ ((w4.alloc _).alloc _).heap.size; simp <;> omega)); have bx : RowAt w5 w4.heap.size 24 [.bool false, .slice none 0 0] := RowAt.on boxAd hb5'; obtain ⟨z0, z1⟩ := bx.two; have zf0 := bx.frozen 0; have zf1 := bx.frozen 1)
            | ((with_reducible refine mB.mono ?_); rintro e w5 ⟨Am, cm, rfl, tm, hb5'⟩; have hb5 : Below w4.heap.size w4 w5 := Below.trans ((((Below.refl _ w4).alloc (Nat.le_refl _) _).alloc (by simp) _).drew) (hb5'.mono (by show w4.heap.size ≤ ((w4.alloc _).alloc _).heap.size; simp <;> omega)); have bx : RowAt w5 (w4.heap.size + 1) 24 [.bool false, .slice none 0 0] := RowAt.on boxBd hb5'; obtain ⟨z0, z1⟩ := bx.two; have zf0 := bx.frozen 0; have zf1 := bx.frozen 1)
            | ((with_reducible refine mC.mono ?_); rintro e w5 ⟨Am, cm, rfl, tm, hb5'⟩; have hb5 : Below w4.heap.size w4 w5 := Below.trans (((Below.refl _ w4).alloc (Nat.le_refl _) _).drew) (hb5'.mono (by show w4.heap.size ≤ (w4.alloc _).heap.size; simp <;> omega))))
        · go_simp
          go_wp2_with fail
          go_meet
          exact ⟨_, Am, cm, rfl, rfl, RowAt.new w5 24 #[.bool false, .slice Am L.length cm], tm.alloc _, hb5.alloc hb5.size _⟩
        all_goals
          go_simp
          go_wp2_with fail
          go_meet
          exact ⟨_, Am, cm, rfl, rfl, (bx.set 0 (.bool false)).set 1 (.slice Am L.length cm), tm.setBox bx false _, (hb5.setCell (p := ⟨_, 0, none⟩) (by first | exact Nat.le_refl _ | exact Nat.le_succ _) _).setCell (p := ⟨_, 1, none⟩) (by first | exact Nat.le_refl _ | exact Nat.le_succ _) _⟩
      case rest =>
        obtain ⟨w6, hw6⟩ : ∃ w6, w6 = wc := ⟨_, rfl⟩
        subst hw6
        obtain ⟨G, Am, cm, rfl, rfl, rm, tm, hb6⟩ := hcut
        replace tL := tL.on hb6
        replace rq := rq.on hb6
        have hw6 : Below w.heap.size w w6 := bstep hw52 hb6 hw52.size
        clear crq0_51 crq1_51
        obtain ⟨crq0_81, crq1_81⟩ := rq.two
        obtain ⟨crm0_82, crm1_82⟩ := rm.two
        have hcv0 := RowAt.new w6 5 M8
        have hcv := run_convert_bytes_back (P := Try.prog) (w6.alloc (.cells M8 5)) 43 9 5 ⟨w6.heap.size, 0, none⟩ Q (List.replicate Q 0) Try.underlying43 Try.underlying5 Try.underlying9 (fun j hj => by rw [addr0, hcv0.cell, HM8.out]; simp at hj; simp [hj])
        rw [List.length_replicate, HZs.out] at hcv
        clear hcv0
        have hQ := HQ.out
        have hZ := HZ.out
        have hA81 : Below (w6).heap.size (w6) (w6.alloc (.cells M8 5)) := (Below.refl _ _).alloc (Nat.le_refl _) _
        replace tL := tL.on hA81
        replace tm := tm.on hA81
        replace rq := rq.on hA81
        replace rm := rm.on hA81
        have hw82 : Below w.heap.size w (w6.alloc (.cells M8 5)) := hw6.trans (hA81.mono hw6.size)
        clear hw6
        clear hA81
        obtain ⟨crq0_83, crq1_83⟩ := rq.two
        obtain ⟨crm0_84, crm1_84⟩ := rm.two
        go_wp2_with fail
        with_reducible refine (Decode_eq Z _ 0 false U HD.out lZ).mono ?_
        rintro e w7 ⟨Au, cu, rfl, tu, hB83⟩
        clear crq0_81 crq1_81 crm0_82 crm1_82 crq0_83 crq1_83 crm0_84 crm1_84
        replace tL := tL.on hB83
        replace tm := tm.on hB83
        replace rq := rq.on hB83
        replace rm := rm.on hB83
        have hw84 : Below w.heap.size w (w7) := hw82.trans (hB83.mono hw82.size)
        clear hw82
        clear hB83
        obtain ⟨crq0_85, crq1_85⟩ := rq.two
        obtain ⟨crm0_86, crm1_86⟩ := rm.two
        clear hcv
        have hA85 : Below (w7).heap.size (w7) (w7.alloc (.cells #[.bool false, .slice Au U.length cu] 24)) := (Below.refl _ _).alloc (Nat.le_refl _) _
        have ru_ := RowAt.new (w7) 24 #[.bool false, .slice Au U.length cu]
        replace tL := tL.on hA85
        replace tm := tm.on hA85
        replace rq := rq.on hA85
        replace rm := rm.on hA85
        have hw86 : Below w.heap.size w (w7.alloc (.cells #[.bool false, .slice Au U.length cu] 24)) := hw84.trans (hA85.mono hw84.size)
        clear hw84
        clear hA85
        obtain ⟨crq0_87, crq1_87⟩ := rq.two
        obtain ⟨crm0_88, crm1_88⟩ := rm.two
        have ru : RowAt (w7.alloc (.cells #[.bool false, .slice Au U.length cu] 24)) (w7.heap.size) 24 [.bool false, .slice Au U.length cu] := ru_
        clear ru_
        obtain ⟨cru0_89, cru1_89⟩ := ru.two
        have hk1 : ((K : Int) ≤ 2048) = True := eq_true (by omega)
        have hk2 : (K ≤ 2048) = True := eq_true (by omega)
        go_wp2_with fail
        with_reducible refine (Right_eq _ false L _ true HRL.out tL lL).mono ?_
        rintro e w8 ⟨rfl, hB87⟩
        clear crq0_85 crq1_85 crm0_86 crm1_86 crq0_87 crq1_87 crm0_88 crm1_88 cru0_89 cru1_89
        replace tL := tL.on hB87
        replace tm := tm.on hB87
        replace rq := rq.on hB87
        replace rm := rm.on hB87
        replace ru := ru.on hB87
        have hw88 : Below w.heap.size w (w8) := hw86.trans (hB87.mono hw86.size)
        clear hw86
        clear hB87
        obtain ⟨crq0_90, crq1_90⟩ := rq.two
        obtain ⟨crm0_91, crm1_91⟩ := rm.two
        obtain ⟨cru0_92, cru1_92⟩ := ru.two
        have hss := HSS2.out
        go_wp2_with fail
        with_reducible refine (Same_eq _ _ false false L L _ true HSL.out tm tL lL lL).mono ?_
        rintro e w9 ⟨rfl, hB89⟩
        clear crq0_90 crq1_90 crm0_91 crm1_91 cru0_92 cru1_92
        replace tL := tL.on hB89
        replace tm := tm.on hB89
        replace rq := rq.on hB89
        replace rm := rm.on hB89
        replace ru := ru.on hB89
        have hw90 : Below w.heap.size w (w9) := hw88.trans (hB89.mono hw88.size)
        clear hw88
        clear hB89
        obtain ⟨crq0_93, crq1_93⟩ := rq.two
        obtain ⟨crm0_94, crm1_94⟩ := rm.two
        obtain ⟨cru0_95, cru1_95⟩ := ru.two
        have huk := HUK.out
        go_wp2_with fail
        go_ret
        exact ⟨rfl, hw90⟩

set_option maxHeartbeats 8000000 in
set_option maxRecDepth 100000 in
theorem tlong_n (n : Int) (key : Nat) (w : World) (hn : I64 n) (hkey : key < 18446744073709551616) (hk : ¬ 2040 + pickN n 16 ≤ 2048) :
    Calls Try.prog 7 #[.int .i64 n, .int .u64 (key : Int)] w fun e w' => e = .returned (.bool true) ∧ Below w.heap.size w w' := by
  obtain ⟨i0, hi, hz0, hz1, hz2⟩ := info_parts info_pair
  obtain ⟨K, hK⟩ : ∃ K, K = 2040 + pickN n 16 := ⟨_, rfl⟩
  have hpl := pickN_lt n 16 (by decide)
  have pP := fun W => pick5_16 n W hn
  rw [← hK] at hk
  have hadd : (2040 : Int) + (pickN n 16 : Int) = (K : Int) := by rw [hK]; omega
  have hK1 : K ≤ 2056 := by omega
  have hK2 : 2040 ≤ K := by omega
  generalize pickN n 16 = P at *
  clear hK
  obtain ⟨H, hH⟩ : ∃ H, H = K / 2 := ⟨_, rfl⟩
  have HH := Lib.hid (show (K : Int) / 2 = (H : Int) by rw [hH]; omega)
  have hHK : H < K := by omega
  have hH0 : 0 < H := by omega
  have hL := longL_length key K
  have hLs := longL_srt key K
  have hLg := longL_get key K
  generalize longL key K = L at *
  obtain ⟨M, hM⟩ : ∃ M, M = madeCells (Value.agg #[.int .u64 0, .int .u64 0]).cells (K * i0.size) := ⟨_, rfl⟩
  have hMs : M.toList = List.replicate (K * 2) (.int .u64 0) := by rw [hM, hz1]; exact made_pairs _
  have hmk : ∀ W : World, (Instr.makeSlice 22 (.int .i64 (K : Int)) (.int .i64 (K : Int))).run Try.prog W = .ok (.slice (some ⟨W.heap.size, 0, none⟩) K K) (W.alloc (.cells M 50)) := fun W => by
    have hr := run_make (P := Try.prog) W 22 50 i0 (.agg #[.int .u64 0, .int .u64 0]) Try.underlying22 hi hz0 .i64 .i64 (K : Int) (K : Int) (by omega) (by omega) (by rw [hz2]; omega) (by omega)
    rw [hM]
    simpa using hr
  clear hM hi hz0 hz1 hz2
  have HMS := Lib.hid hMs
  have HL0 := Lib.hid (show pairRow L 0 = List.replicate (K * 2) (.int .u64 0) by rw [pairRow_zero, hL])
  have HL := Lib.hid hL
  have HLG := Lib.hid hLg
  have lL : L.length ≤ 1000000 := by omega
  obtain ⟨N, hN⟩ : ∃ N : List Pr, N = [] := ⟨_, rfl⟩
  have st := srt_take H hLs
  have sd := srt_drop H hLs
  have hsl : sumLen [(false, L.take H), (false, L.drop H)] = K := by simp [sumLen]; omega
  have hrt : rightT (L.take H) = true := by unfold rightT; rw [st, decide_eq_true (by rw [List.length_take]; omega)]; rfl
  have hrd : rightT (L.drop H) = true := by unfold rightT; rw [sd, decide_eq_true (by rw [List.length_drop]; omega)]; rfl
  have har : allRight [(false, L.take H), (false, L.drop H)] = true := by simp [allRight, hrt, hrd]
  have nine2 : ∀ t ∈ [(false, L.take H), (false, L.drop H)], t.2.length ≤ maxLen := fun t ht => by
    simp at ht
    rcases ht with rfl | rfl
    · exact small (by show (L.take H).length ≤ _; rw [List.length_take]; omega)
    · exact small (by show (L.drop H).length ≤ _; rw [List.length_drop]; omega)
  have HM := Lib.hid (show mergeT [(false, L.take H), (false, L.drop H)] = (4, false, N) by
    unfold mergeT
    rw [har, if_neg (by simp), hsl, if_pos (by omega), hN])
  have hS : True := trivial
  have hrL : rightT L = false := by unfold rightT; rw [hLs, decide_eq_false (by omega)]; rfl
  have HE := Lib.hid (show encT false L = ((⟨#[]⟩ : ByteArray).data.toList, 1) by unfold encT; rw [hrL]; rfl)
  have HRL := Lib.hid hrL
  have HSL := Lib.hid (sameT_refl false L)
  obtain ⟨Q, hQ⟩ : ∃ Q, Q = 16 * K := ⟨_, rfl⟩
  have HQ := Lib.hid (show 16 * (K : Int) = (Q : Int) by rw [hQ]; omega)
  obtain ⟨Z, hZ⟩ : ∃ Z : ByteArray, Z = ⟨(0 :: List.replicate Q 0).toArray⟩ := ⟨_, rfl⟩
  obtain ⟨Zs, hZs⟩ : ∃ Zs : ByteArray, (⟨(List.replicate Q (0 : UInt8)).toArray⟩ : ByteArray) = Zs := ⟨_, rfl⟩
  have HZs := Lib.hid hZs
  have HZ := Lib.hid (show (⟨#[0]⟩ : ByteArray) ++ Zs = Z by rw [hZ, ← hZs]; exact zero_cat Q)
  have lZ : Z.size ≤ 1000000 := by rw [hZ]; simp [ByteArray.size]; omega
  have hQ9 : Q ≤ 40000 := by omega
  have hsz : Zs.size = Q := by rw [← hZs]; exact zeros_size Q
  obtain ⟨i8, hi8, hy0, hy1, hy2⟩ := info_parts info_byte
  obtain ⟨M8, hM8⟩ : ∃ M, M = madeCells (Value.int .u8 0).cells (Q * i8.size) := ⟨_, rfl⟩
  have HM8 := Lib.hid (show M8.toList = List.replicate Q (.int .u8 0) by rw [hM8, hy1, Nat.mul_one]; exact toList_madeCells_one _ _)
  have hmk8 : ∀ W : World, (Instr.makeSlice 43 (.int .i64 (Q : Int)) (.int .i64 (Q : Int))).run Try.prog W = .ok (.slice (some ⟨W.heap.size, 0, none⟩) Q Q) (W.alloc (.cells M8 5)) := fun W => by
    have hr := run_make (P := Try.prog) W 43 5 i8 (.int .u8 0) Try.underlying43 hi8 hy0 .i64 .i64 (Q : Int) (Q : Int) (by omega) (by omega) (by rw [hy2]; omega) (by omega)
    rw [hM8]
    simpa using hr
  have HD := Lib.hid (show decB Z.data.toList = (4, false, N) by rw [hZ, hQ, hN]; have := dec_zeros K; rw [if_pos (by omega)] at this; exact this)
  have HN0 := Lib.hid (show ((N.length : Int) == 0) = true by rw [hN]; rfl)
  clear hM8 hi8 hy0 hy1 hy2 hZ hQ hN hZs
  have HB0 := Lib.hid (fun (w1 : World) => ((Below.refl w1.heap.size w1).alloc (Nat.le_refl _) (.cells M 50)).alloc (by simp) (.cells #[.bool false, .slice (some ⟨w1.heap.size, 0, none⟩) K K] 24))
  clear hMs hL hLg hLs st sd hsl hrt hrd har hS hrL hH
  go_enter Try.func7, Try.ntmps7
  go_wp2_with fail
  with_reducible refine (awake_any _).mono ?_
  rintro e w1 ⟨rfl, hB1⟩
  have hw2 : Below w.heap.size w (w1) := hB1
  clear hB1
  have hb1w := hw2
  go_wp2_with fail
  with_reducible refine (pP _).mono ?_
  rintro e w_ ⟨rfl, rfl⟩
  have gm_ := RowAt.new w1 50 M
  rw [HMS.out, ← HL0.out] at gm_
  have hA3 : Below (w1).heap.size (w1) (w1.alloc (.cells M 50)) := (Below.refl _ _).alloc (Nat.le_refl _) _
  have hw4 : Below w.heap.size w (w1.alloc (.cells M 50)) := hw2.trans (hA3.mono hw2.size)
  clear hw2
  clear hA3
  have gm : RowAt (w1.alloc (.cells M 50)) (w1.heap.size) 50 (pairRow L 0) := gm_
  clear gm_
  have hA5 : Below (w1.alloc (.cells M 50)).heap.size (w1.alloc (.cells M 50)) ((w1.alloc (.cells M 50)).alloc (.cells #[.bool false, .slice (some ⟨w1.heap.size, 0, none⟩) K K] 24)) := (Below.refl _ _).alloc (Nat.le_refl _) _
  have rb_ := RowAt.new (w1.alloc (.cells M 50)) 24 #[.bool false, .slice (some ⟨w1.heap.size, 0, none⟩) K K]
  replace gm := gm.on hA5
  have hw6 : Below w.heap.size w ((w1.alloc (.cells M 50)).alloc (.cells #[.bool false, .slice (some ⟨w1.heap.size, 0, none⟩) K K] 24)) := hw4.trans (hA5.mono hw4.size)
  clear hw4
  clear hA5
  simp only [World.size_alloc] at rb_
  have rb : RowAt ((w1.alloc (.cells M 50)).alloc (.cells #[.bool false, .slice (some ⟨w1.heap.size, 0, none⟩) K K] 24)) (w1.heap.size + 1) 24 [.bool false, .slice (some ⟨w1.heap.size, 0, none⟩) K K] := rb_
  clear rb_
  obtain ⟨crb0_1, crb1_1⟩ := rb.two
  go_wp2_with fail
  clear crb0_1 crb1_1
  generalize hw2 : (w1.alloc (.cells M 50)).alloc (.cells #[.bool false, .slice (some ⟨w1.heap.size, 0, none⟩) K K] 24) = w2 at *
  have HW2 := Lib.hid hw2
  clear hw2
  have h12 : w1.heap.size + 1 < w2.heap.size := rb.lt
  go_loopw [8] (fun iv wr => ∃ i : Nat, i ≤ K ∧ iv = .int .i64 (i : Int) ∧ RowAt wr w1.heap.size 50 (pairRow L i) ∧ RowAt wr (w1.heap.size + 1) 24 [.bool false, .slice (some ⟨w1.heap.size, 0, none⟩) K K] ∧ Below w1.heap.size w1 wr) (fun iv _ => K - (intOf iv).toNat)
  case atStart => exact ⟨0, Nat.zero_le _, rfl, gm, rb, (by rw [← HW2.out]; exact HB0.out w1)⟩
  case round =>
    obtain ⟨i, hi, rfl, q, rq, hb⟩ := hrel
    clear gm rb
    obtain ⟨x0, x1⟩ := rq.two
    have hbw := bstep hb1w hb hb1w.size
    by_cases hlt : i < K
    · have hli : i < L.length := by have := HL.out; omega
      obtain ⟨kc1, kc2⟩ := pairRow_cell L i hli
      have hks := pairRow_set L i hli
      rw [HLG.out i hli] at hks
      have HKS := Lib.hid hks
      have c0 : wr.cell? ⟨w1.heap.size, i * 2, none⟩ = some (.int .u64 0) := by rw [q.cell]; exact kc1
      have c1 : wr.cell? ⟨w1.heap.size, i * 2 + 1, none⟩ = some (.int .u64 0) := by rw [q.cell]; exact kc2
      have f0 := q.frozen (i * 2)
      have f1 := q.frozen (i * 2 + 1)
      obtain ⟨j, hj⟩ : ∃ j, j = i / 2 := ⟨_, rfl⟩
      rw [← hj] at HKS
      have hd : IntKind.i64.wrap ((i : Int).tdiv 2) = (j : Int) := by rw [Int.tdiv_eq_ediv_of_nonneg (by omega), hj]; rw [IntWalk.i64_in _ (by omega)]; omega
      have hd2 : IntKind.u64.wrap (j : Int) = (j : Int) := IntWalk.u64_in _ (by omega)
      have hd3 : (i : Int) / 2 = (j : Int) := by omega
      have hlt1 : (i < K) = True := eq_true hlt
      have q2 := (q.set (i * 2) (.int .u64 (key : Int))).set (i * 2 + 1) (.int .u64 (j : Int))
      have rq2 := (rq.far (p := ⟨w1.heap.size, i * 2, none⟩) (by show w1.heap.size + 1 ≠ w1.heap.size; omega) (.int .u64 (key : Int))).far (p := ⟨w1.heap.size, i * 2 + 1, none⟩) (by show w1.heap.size + 1 ≠ w1.heap.size; omega) (.int .u64 (j : Int))
      have hb2 := (hb.setCell (p := ⟨w1.heap.size, i * 2, none⟩) (Nat.le_refl _) (.int .u64 (key : Int))).setCell (p := ⟨w1.heap.size, i * 2 + 1, none⟩) (Nat.le_refl _) (.int .u64 (j : Int))
      clear kc1 kc2 hks q rq hb hj
      go_wp2_with fail
      go_roundw
      case rel => exact ⟨i + 1, by omega, by go_num, by rw [← HKS.out]; exact q2, rq2, hb2⟩
      case measure => simp [intOf]; omega
    · obtain rfl : K = i := by omega
      have hlt1 : (K < K) = False := eq_false (by omega)
      have hLK := HL.out
      rw [show pairRow L K = L.flatMap pairCells by rw [← hLK]; exact pairRow_all L] at q
      have hP := Prs.row q
      rw [hLK] at hP
      have tL : Tk wr (.agg #[.bool false, .slice (some ⟨w1.heap.size, 0, none⟩) K K]) false L := ⟨_, rfl, hP⟩
      have hgK : w1.heap.size < wr.heap.size := q.lt
      clear hLK hlt hi q hP hb
      go_wp2_with fail
      with_reducible refine (Encode_eq _ false L _ ⟨#[]⟩ 1 HE.out tL lL).mono ?_
      rintro e w4 ⟨rfl, hB51⟩
      clear x0 x1
      replace tL := tL.on hB51
      replace rq := rq.on hB51
      have hw52 : Below w.heap.size w (w4) := hbw.trans (hB51.mono hbw.size)
      clear hbw
      clear hB51
      obtain ⟨crq0_51, crq1_51⟩ := rq.two
      go_upto_region 9 with (fail)
      go_cut [11, 12] from 42 to 57 (fun pv ev wx => ∃ (G : Nat) (Am : Option Addr) (cm : Nat), pv = .pointer (some ⟨G, 0, none⟩) ∧ ev = .int .i64 4 ∧ RowAt wx G 24 [.bool false, .slice Am N.length cm] ∧ Tk wx (.agg #[.bool false, .slice Am N.length cm]) false N ∧ Below w4.heap.size w4 wx)
      case first =>
        have hlow : Prs w4 w4.heap.size (.slice (some ⟨w1.heap.size, 0, none⟩) H K) (L.take H) := tL.prs.first H (by have := HL.out; omega)
        have hhigh : Prs w4 w4.heap.size (.slice (some ⟨w1.heap.size, H * 2, none⟩) (K - H) (K - H)) (L.drop H) := by
          have := tL.prs.rest H (by have := HL.out; omega)
          rw [HL.out, addr0] at this
          exact this
        have HTR := Lib.hid (show ∀ (W : World) (g : Nat), Below w4.heap.size w4 W → RowAt W g 24 [.bool false, .slice (some ⟨w1.heap.size, 0, none⟩) H K, .bool false, .slice (some ⟨w1.heap.size, H * 2, none⟩) (K - H) (K - H)] → TkRow W (.slice (some ⟨g, 0, none⟩) 2 2) [(false, L.take H), (false, L.drop H)] from fun W g hb hr => TkRow.of (xs := [(false, .slice (some ⟨w1.heap.size, 0, none⟩) H K), (false, .slice (some ⟨w1.heap.size, H * 2, none⟩) (K - H) (K - H))]) hr (.cons ⟨_, rfl, hlow.on hb⟩ (.cons ⟨_, rfl, hhigh.on hb⟩ (.nil _))))
        have rowA := RowAt.new (w4.alloc (.cells #[.bool false, .slice none 0 0] 24)) 24 #[.bool false, .slice (some ⟨w1.heap.size, 0, none⟩) H K, .bool false, .slice (some ⟨w1.heap.size, H * 2, none⟩) (K - H) (K - H)]
        rw [World.size_alloc] at rowA
        have rowB := (RowAt.new w4 24 #[.bool false, .slice (some ⟨w1.heap.size, 0, none⟩) H K, .bool false, .slice (some ⟨w1.heap.size, H * 2, none⟩) (K - H) (K - H)]).alloc (.cells #[.bool false, .slice none 0 0] 24)
        have rowC := RowAt.new w4 24 #[.bool false, .slice (some ⟨w1.heap.size, 0, none⟩) H K, .bool false, .slice (some ⟨w1.heap.size, H * 2, none⟩) (K - H) (K - H)]
        have boxA := (RowAt.new w4 24 #[.bool false, .slice none 0 0]).alloc (.cells #[.bool false, .slice (some ⟨w1.heap.size, 0, none⟩) H K, .bool false, .slice (some ⟨w1.heap.size, H * 2, none⟩) (K - H) (K - H)] 24)
        have boxB := RowAt.new (w4.alloc (.cells #[.bool false, .slice (some ⟨w1.heap.size, 0, none⟩) H K, .bool false, .slice (some ⟨w1.heap.size, H * 2, none⟩) (K - H) (K - H)] 24)) 24 #[.bool false, .slice none 0 0]
        rw [World.size_alloc] at boxB
        have hn1 : (H : Int) ≤ (K : Int) := by omega
        have hn2 : (0 : Int) ≤ (H : Int) := by omega
        have hn3 : (K = H) = False := eq_false (by omega)
        have hn4 : (K - H = 0) = False := eq_false (by omega)
        have hn5 : (H ≤ K) = True := eq_true (by omega)
        have hn7 : ((H : Int) < 0) = False := eq_false (by omega)
        have hn8 : ((K : Int) < (H : Int)) = False := eq_false (by omega)
        have hn9 : (K < H) = False := eq_false (by omega)
        have hH := HH.out
        have hwh : IntKind.i64.wrap (H : Int) = (H : Int) := IntWalk.i64_in _ (by omega)
        have hwk : IntKind.i64.wrap ((K : Int).tdiv 2) = (H : Int) := by rw [Int.tdiv_eq_ediv_of_nonneg (by omega), hH]; exact IntWalk.i64_in _ (by omega)
        have hqlt : w1.heap.size + 1 < w4.heap.size := rq.lt
        have trA : TkRow (((w4.alloc (.cells #[.bool false, .slice none 0 0] 24)).alloc (.cells #[.bool false, .slice (some ⟨w1.heap.size, 0, none⟩) H K, .bool false, .slice (some ⟨w1.heap.size, H * 2, none⟩) (K - H) (K - H)] 24)).drew) (.slice (some ⟨w4.heap.size + 1, 0, none⟩) 2 2) [(false, L.take H), (false, L.drop H)] := HTR.out _ _ ((((Below.refl _ w4).alloc (Nat.le_refl _) _).alloc (by simp) _).drew) rowA
        have trB : TkRow (((w4.alloc (.cells #[.bool false, .slice (some ⟨w1.heap.size, 0, none⟩) H K, .bool false, .slice (some ⟨w1.heap.size, H * 2, none⟩) (K - H) (K - H)] 24)).alloc (.cells #[.bool false, .slice none 0 0] 24)).drew) (.slice (some ⟨w4.heap.size, 0, none⟩) 2 2) [(false, L.take H), (false, L.drop H)] := HTR.out _ _ ((((Below.refl _ w4).alloc (Nat.le_refl _) _).alloc (by simp) _).drew) rowB
        have trC : TkRow ((w4.alloc (.cells #[.bool false, .slice (some ⟨w1.heap.size, 0, none⟩) H K, .bool false, .slice (some ⟨w1.heap.size, H * 2, none⟩) (K - H) (K - H)] 24)).drew) (.slice (some ⟨w4.heap.size, 0, none⟩) 2 2) [(false, L.take H), (false, L.drop H)] := HTR.out _ _ (((Below.refl _ w4).alloc (Nat.le_refl _) _).drew) rowC
        have boxAd : RowAt (((w4.alloc (.cells #[.bool false, .slice none 0 0] 24)).alloc (.cells #[.bool false, .slice (some ⟨w1.heap.size, 0, none⟩) H K, .bool false, .slice (some ⟨w1.heap.size, H * 2, none⟩) (K - H) (K - H)] 24)).drew) w4.heap.size 24 [.bool false, .slice none 0 0] := boxA
        have boxBd : RowAt (((w4.alloc (.cells #[.bool false, .slice (some ⟨w1.heap.size, 0, none⟩) H K, .bool false, .slice (some ⟨w1.heap.size, H * 2, none⟩) (K - H) (K - H)] 24)).alloc (.cells #[.bool false, .slice none 0 0] 24)).drew) (w4.heap.size + 1) 24 [.bool false, .slice none 0 0] := boxB
        have mA := Merge_eq _ [(false, L.take H), (false, L.drop H)] _ 4 false N HM.out trA (by simp) nine2
        have mB := Merge_eq _ [(false, L.take H), (false, L.drop H)] _ 4 false N HM.out trB (by simp) nine2
        have mC := Merge_eq _ [(false, L.take H), (false, L.drop H)] _ 4 false N HM.out trC (by simp) nine2
        go_region_held3 (fun w' => w'.cell? ⟨w1.heap.size + 1, 1, none⟩ = some (.slice (some ⟨w1.heap.size, 0, none⟩) K K))
          (first | go_keep | exact (rq.on hb5).two.2 | exact cellA (rq.on hb5).two.2 _ | exact (((rq.on hb5).far (p := ⟨w4.heap.size, 0, none⟩) (by show w1.heap.size + 1 ≠ w4.heap.size; omega) _).far (p := ⟨w4.heap.size, 1, none⟩) (by show w1.heap.size + 1 ≠ w4.heap.size; omega) _).two.2 | exact (((rq.on hb5).far (p := ⟨w4.heap.size + 1, 0, none⟩) (by show w1.heap.size + 1 ≠ w4.heap.size + 1; omega) _).far (p := ⟨w4.heap.size + 1, 1, none⟩) (by show w1.heap.size + 1 ≠ w4.heap.size + 1; omega) _).two.2)
          (first
            | ((with_reducible refine mA.mono ?_); rintro e w5 ⟨Am, cm, rfl, tm, hb5'⟩; have hb5 : Below w4.heap.size w4 w5 := Below.trans ((((Below.refl _ w4).alloc (Nat.le_refl _) _).alloc (by simp) _).drew) (hb5'.mono (by show w4.heap.size ≤ ((w4.alloc _).alloc _).heap.size; simp <;> omega)); have bx : RowAt w5 w4.heap.size 24 [.bool false, .slice none 0 0] := RowAt.on boxAd hb5'; obtain ⟨z0, z1⟩ := bx.two; have zf0 := bx.frozen 0; have zf1 := bx.frozen 1)
            | ((with_reducible refine mB.mono ?_); rintro e w5 ⟨Am, cm, rfl, tm, hb5'⟩; have hb5 : Below w4.heap.size w4 w5 := Below.trans ((((Below.refl _ w4).alloc (Nat.le_refl _) _).alloc (by simp) _).drew) (hb5'.mono (by show w4.heap.size ≤ ((w4.alloc _).alloc _).heap.size; simp <;> omega)); have bx : RowAt w5 (w4.heap.size + 1) 24 [.bool false, .slice none 0 0] := RowAt.on boxBd hb5'; obtain ⟨z0, z1⟩ := bx.two; have zf0 := bx.frozen 0; have zf1 := bx.frozen 1)
            | ((with_reducible refine mC.mono ?_); rintro e w5 ⟨Am, cm, rfl, tm, hb5'⟩; have hb5 : Below w4.heap.size w4 w5 := Below.trans (((Below.refl _ w4).alloc (Nat.le_refl _) _).drew) (hb5'.mono (by show w4.heap.size ≤ (w4.alloc _).heap.size; simp <;> omega))))
        · go_simp
          go_wp2_with fail
          go_meet
          exact ⟨_, Am, cm, rfl, rfl, RowAt.new w5 24 #[.bool false, .slice Am N.length cm], tm.alloc _, hb5.alloc hb5.size _⟩
        all_goals
          go_simp
          go_wp2_with fail
          go_meet
          exact ⟨_, Am, cm, rfl, rfl, (bx.set 0 (.bool false)).set 1 (.slice Am N.length cm), tm.setBox bx false _, (hb5.setCell (p := ⟨_, 0, none⟩) (by first | exact Nat.le_refl _ | exact Nat.le_succ _) _).setCell (p := ⟨_, 1, none⟩) (by first | exact Nat.le_refl _ | exact Nat.le_succ _) _⟩
      case rest =>
        obtain ⟨w6, hw6⟩ : ∃ w6, w6 = wc := ⟨_, rfl⟩
        subst hw6
        obtain ⟨G, Am, cm, rfl, rfl, rm, tm, hb6⟩ := hcut
        replace tL := tL.on hb6
        replace rq := rq.on hb6
        have hw6 : Below w.heap.size w w6 := bstep hw52 hb6 hw52.size
        clear crq0_51 crq1_51
        obtain ⟨crq0_81, crq1_81⟩ := rq.two
        obtain ⟨crm0_82, crm1_82⟩ := rm.two
        have hcv0 := RowAt.new w6 5 M8
        have hcv := run_convert_bytes_back (P := Try.prog) (w6.alloc (.cells M8 5)) 43 9 5 ⟨w6.heap.size, 0, none⟩ Q (List.replicate Q 0) Try.underlying43 Try.underlying5 Try.underlying9 (fun j hj => by rw [addr0, hcv0.cell, HM8.out]; simp at hj; simp [hj])
        rw [List.length_replicate, HZs.out] at hcv
        clear hcv0
        have hQ := HQ.out
        have hZ := HZ.out
        have hA81 : Below (w6).heap.size (w6) (w6.alloc (.cells M8 5)) := (Below.refl _ _).alloc (Nat.le_refl _) _
        replace tL := tL.on hA81
        replace tm := tm.on hA81
        replace rq := rq.on hA81
        replace rm := rm.on hA81
        have hw82 : Below w.heap.size w (w6.alloc (.cells M8 5)) := hw6.trans (hA81.mono hw6.size)
        clear hw6
        clear hA81
        obtain ⟨crq0_83, crq1_83⟩ := rq.two
        obtain ⟨crm0_84, crm1_84⟩ := rm.two
        go_wp2_with fail
        with_reducible refine (Decode_eq Z _ 4 false N HD.out lZ).mono ?_
        rintro e w7 ⟨Au, cu, rfl, tu, hB83⟩
        clear crq0_81 crq1_81 crm0_82 crm1_82 crq0_83 crq1_83 crm0_84 crm1_84
        replace tL := tL.on hB83
        replace tm := tm.on hB83
        replace rq := rq.on hB83
        replace rm := rm.on hB83
        have hw84 : Below w.heap.size w (w7) := hw82.trans (hB83.mono hw82.size)
        clear hw82
        clear hB83
        obtain ⟨crq0_85, crq1_85⟩ := rq.two
        obtain ⟨crm0_86, crm1_86⟩ := rm.two
        clear hcv
        have hA85 : Below (w7).heap.size (w7) (w7.alloc (.cells #[.bool false, .slice Au N.length cu] 24)) := (Below.refl _ _).alloc (Nat.le_refl _) _
        have ru_ := RowAt.new (w7) 24 #[.bool false, .slice Au N.length cu]
        replace tL := tL.on hA85
        replace tm := tm.on hA85
        replace rq := rq.on hA85
        replace rm := rm.on hA85
        have hw86 : Below w.heap.size w (w7.alloc (.cells #[.bool false, .slice Au N.length cu] 24)) := hw84.trans (hA85.mono hw84.size)
        clear hw84
        clear hA85
        obtain ⟨crq0_87, crq1_87⟩ := rq.two
        obtain ⟨crm0_88, crm1_88⟩ := rm.two
        have ru : RowAt (w7.alloc (.cells #[.bool false, .slice Au N.length cu] 24)) (w7.heap.size) 24 [.bool false, .slice Au N.length cu] := ru_
        clear ru_
        obtain ⟨cru0_89, cru1_89⟩ := ru.two
        have hk1 : ((K : Int) ≤ 2048) = False := eq_false (by omega)
        have hk2 : (K ≤ 2048) = False := eq_false (by omega)
        go_wp2_with fail
        with_reducible refine (Right_eq _ false L _ false HRL.out tL lL).mono ?_
        rintro e w8 ⟨rfl, hB87⟩
        clear crq0_85 crq1_85 crm0_86 crm1_86 crq0_87 crq1_87 crm0_88 crm1_88 cru0_89 cru1_89
        replace tL := tL.on hB87
        replace tm := tm.on hB87
        replace rq := rq.on hB87
        replace rm := rm.on hB87
        replace ru := ru.on hB87
        have hw88 : Below w.heap.size w (w8) := hw86.trans (hB87.mono hw86.size)
        clear hw86
        clear hB87
        obtain ⟨crq0_90, crq1_90⟩ := rq.two
        obtain ⟨crm0_91, crm1_91⟩ := rm.two
        obtain ⟨cru0_92, cru1_92⟩ := ru.two
        have hn0 := HN0.out
        go_wp2_with fail
        go_ret
        exact ⟨rfl, hw88⟩

theorem tlong_calls (a0 : Int) (w0 : (Lit.int .i64 a0).wf = true) (a1 : Int) (w1 : (Lit.int .u64 a1).wf = true) (w : World) :
    Calls Try.prog 7 #[.int .i64 a0, .int .u64 a1] w fun e w' => e = .returned (.bool true) ∧ Below w.heap.size w w' := by
  have hb := bounds_u64 w1
  obtain ⟨k, rfl⟩ := Int.eq_ofNat_of_zero_le (show 0 ≤ a1 by omega)
  by_cases h : 2040 + pickN a0 16 ≤ 2048
  · exact tlong_y a0 k w (bounds_i64 w0) (by omega) h
  · exact tlong_n a0 k w (bounds_i64 w0) (by omega) h
end Go.Proofs.Ytgkihgcclkkbeaa
