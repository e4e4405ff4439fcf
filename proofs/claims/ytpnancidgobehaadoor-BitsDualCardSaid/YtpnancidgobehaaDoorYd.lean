
/- BitsDual: for all bytes. -/
import Derived.Test.YtpnancidgobehaaDoorYk
import Derived.Test.YtpnancidgobehaaDoorBm
set_option linter.all false
set_option maxRecDepth 100000
namespace Go.Proofs.YtpnancidgobehaaDoor
open Go.RowKit
theorem bin_over : ∀ n k, n < k → bin n k = 0
  | 0, k + 1, _ => rfl
  | n + 1, k + 1, h => by
    show bin n k + bin n (k + 1) = 0
    rw [bin_over n k (by omega), bin_over n (k + 1) (by omega)]
theorem bin_next' : ∀ n, n < 11 → ∀ i, i < n → bin n i * (n - i) / (i + 1) = bin n (i + 1) := by decide +kernel
theorem bin_le' : ∀ n, n < 11 → ∀ i, i < 11 → bin n i ≤ 1000 := by decide +kernel
set_option maxHeartbeats 1000000 in
theorem lw_choose (n k : Nat) (hn : n ≤ 10) (hk : k ≤ 10) (w : World) : Calls Tryd.prog 66 #[.int .i64 (n : Int), .int .i64 (k : Int)] w (Gives (.int .i64 ((bin n k : Nat) : Int)) w) := by
  by_cases hkn : k ≤ n
  · have h1 : ¬ (n : Int) < k := by omega
    go_enter Tryd.func66, Tryd.ntmps66
    go_wp2_with fail
    go_loop [5, 15] (fun vo vi => ∃ i : Nat, i ≤ k ∧ vi = .int .i64 i ∧ vo = .int .i64 ((bin n i : Nat) : Int)) (fun _ vi => k - (intOf vi).toNat)
    case atStart => exact ⟨0, by omega, rfl, by simp [bin]⟩
    case round =>
      obtain ⟨i, hi, rfl, rfl⟩ := hrel
      by_cases hik : i < k
      · have hb := bin_next' n (by omega) i (by omega)
        have hle := bin_le' n (by omega) i (by omega)
        have hle2 := bin_le' n (by omega) (i + 1) (by omega)
        obtain ⟨y, hy⟩ : ∃ y, bin n (i + 1) = y := ⟨_, rfl⟩
        rw [hy] at hb hle2
        generalize bin n i = x at *
        obtain ⟨d, hd⟩ : ∃ d : Nat, n - i = d := ⟨_, rfl⟩
        have e1 : (n : Int) - i = (d : Int) := by omega
        rw [hd] at hb
        have hxd : x * d ≤ 10000 := Nat.le_trans (Nat.mul_le_mul hle (show d ≤ 10 by omega)) (by decide)
        have e2 : (x : Int) * (d : Int) = ((x * d : Nat) : Int) := (Int.natCast_mul x d).symm
        generalize x * d = m at *
        have e3 : ((m : Int)).tdiv ((i : Int) + 1) = (y : Int) := by
          rw [← hb, Int.tdiv_eq_ediv_of_nonneg (by omega)]
          exact_mod_cast rfl
        have e4 : (m : Int) / ((i : Int) + 1) = (y : Int) := by
          rw [← hb]
          exact_mod_cast rfl
        clear hb hle hd
        go_wp2_with fail
        go_round
        case rel => exact ⟨i + 1, by omega, by go_num, by simp only [hy]⟩
        case measure => simp [intOf]; omega
      · have hik2 : i = k := by omega
        subst hik2
        go_wp2_with fail
        go_ret
        exact ⟨rfl, Below.refl _ _⟩
  · have h1 : (n : Int) < k := by omega
    rw [bin_over n k (by omega)]
    go_enter Tryd.func66, Tryd.ntmps66
    go_wp2_with fail
    go_ret
    exact ⟨rfl, Below.refl _ _⟩
set_option maxHeartbeats 1000000 in
theorem lw_kraw (n j k : Nat) (hn : n ≤ 10) (hj : j ≤ n) (hk : k ≤ n) (w : World) : Calls Tryd.prog 39 #[.int .i64 (n : Int), .int .i64 (j : Int), .int .i64 (k : Int)] w (Gives (.int .i64 (kr n j k)) w) := by
  have HC : Hid (∀ (a b : Nat), a ≤ 10 → b ≤ 10 → ∀ w, Calls Tryd.prog 66 #[.int .i64 (a : Int), .int .i64 (b : Int)] w (Gives (.int .i64 ((bin a b : Nat) : Int)) w)) := fun a b h1 h2 w => lw_choose a b h1 h2 w
  obtain ⟨P, hP⟩ : ∃ P : Nat → Int, (fun i => sg (List.range i) fun i => sb k i * (bin (n - k) (j - i) : Int)) = P := ⟨_, rfl⟩
  have HP0 : P 0 = 0 := by rw [← hP]; rfl
  have HPS : Hid (∀ i, P (i + 1) = P i + sb k i * (bin (n - k) (j - i) : Int)) := fun i => by
    rw [← hP]
    show sg (List.range (i + 1)) _ = _
    rw [List.range_succ, sg_append]
    simp [sg]
  have HPE : Hid (kr n j k = P (j + 1)) := by rw [← hP]; rfl
  have hbd : ∀ i, i ≤ j + 1 → -(i * 1000000 : Int) ≤ P i ∧ P i ≤ (i * 1000000 : Int) := by
    intro i
    induction i with
    | zero => intro _; rw [HP0]; omega
    | succ i ih =>
      intro hi
      have h1 := ih (by omega)
      have h2 := bin_le' k (by omega) i (by omega)
      have h3 := bin_le' (n - k) (by omega) (j - i) (by omega)
      have h4 : bin k i * bin (n - k) (j - i) ≤ 1000000 := Nat.le_trans (Nat.mul_le_mul h2 h3) (by decide)
      rw [HPS.out]
      have h5 : sb k i * (bin (n - k) (j - i) : Int) = ((bin k i * bin (n - k) (j - i) : Nat) : Int) ∨ sb k i * (bin (n - k) (j - i) : Int) = -((bin k i * bin (n - k) (j - i) : Nat) : Int) := by
        unfold sb
        split
        · exact .inr (by rw [Int.neg_mul, Int.natCast_mul])
        · exact .inl (by rw [Int.natCast_mul])
      generalize sb k i * (bin (n - k) (j - i) : Int) = y at *
      generalize bin k i * bin (n - k) (j - i) = z at *
      omega
  have HBD := Lib.hid hbd
  clear hbd hP
  rw [HPE.out]
  go_enter Tryd.func39, Tryd.ntmps39
  go_wp2_with fail
  go_loopw [7, 12] (fun vs vi wr => ∃ i : Nat, i ≤ j + 1 ∧ vi = .int .i64 i ∧ vs = .int .i64 (P i) ∧ Hid (Below w.heap.size w wr)) (fun _ vi _ => j + 1 - (intOf vi).toNat)
  case atStart => exact ⟨0, by omega, rfl, by rw [HP0], Below.refl _ _⟩
  case round =>
    obtain ⟨i, hi, rfl, rfl, HB⟩ := hrel
    by_cases hij : i < j + 1
    · have hij' : (i : Int) < (j : Int) + 1 := by omega
      have e1 : (n : Int) - k = ((n - k : Nat) : Int) := by omega
      have e2 : (j : Int) - i = ((j - i : Nat) : Int) := by omega
      have c1 := HC.out k i (by omega) (by omega)
      have c2 := HC.out (n - k) (j - i) (by omega) (by omega)
      have h2 := bin_le' k (by omega) i (by omega)
      have h3 := bin_le' (n - k) (by omega) (j - i) (by omega)
      have hps := HPS.out i
      have hb1 := HBD.out i hi
      have hb2 := HBD.out (i + 1) (by omega)
      have C1 := Lib.hid c1
      have C2 := Lib.hid c2
      have hsb : sb k i = if i % 2 = 1 then -(bin k i : Int) else (bin k i : Int) := rfl
      have h4 : bin k i * bin (n - k) (j - i) ≤ 1000000 := Nat.le_trans (Nat.mul_le_mul h2 h3) (by decide)
      have hm : (bin k i : Int) * (bin (n - k) (j - i) : Int) = ((bin k i * bin (n - k) (j - i) : Nat) : Int) := (Int.natCast_mul _ _).symm
      have hneg : -(bin k i : Int) * (bin (n - k) (j - i) : Int) = -((bin k i * bin (n - k) (j - i) : Nat) : Int) := by rw [Int.neg_mul, hm]
      have hPi : P (i + 1) = P i + (if i % 2 = 1 then -((bin k i * bin (n - k) (j - i) : Nat) : Int) else ((bin k i * bin (n - k) (j - i) : Nat) : Int)) := by
        rw [hps, hsb]
        split
        · rw [hneg]
        · rw [hm]
      clear c1 c2 hps hsb hneg
      generalize bin k i * bin (n - k) (j - i) = z at *
      go_wp2_with fail
      refine (C1.out _).mono ?_
      rintro e w2 ⟨rfl, hb2'⟩
      have HB2 := Lib.hid (below_via hb2' HB.out)
      clear hb2' HB
      go_wp2_with fail
      refine (C2.out _).mono ?_
      rintro e w3 ⟨rfl, hb3'⟩
      have HB3 := Lib.hid (below_via hb3' HB2.out)
      clear hb3' HB2 C1 C2
      rcases Nat.mod_two_eq_zero_or_one i with hi2 | hi2
      · rw [if_neg (by omega)] at hPi
        have hi3 : ¬ (i : Int) % 2 = 1 := by omega
        have hi4 : ¬ (i : Int).tmod 2 = 1 := by rw [Int.tmod_eq_emod_of_nonneg (by omega)]; omega
        go_wp2_with fail
        go_roundw
        case rel => exact ⟨i + 1, by omega, by go_num, by rw [hPi], HB3⟩
        case measure => simp [intOf]; omega
      · rw [if_pos hi2] at hPi
        have hi3 : (i : Int) % 2 = 1 := by omega
        have hi4 : (i : Int).tmod 2 = 1 := by rw [Int.tmod_eq_emod_of_nonneg (by omega)]; omega
        go_wp2_with fail
        go_roundw
        case rel => exact ⟨i + 1, by omega, by go_num, by rw [hPi], HB3⟩
        case measure => simp [intOf]; omega
    · have hij' : ¬ (i : Int) < (j : Int) + 1 := by omega
      have hik2 : i = j + 1 := by omega
      subst hik2
      go_wp2_with fail
      go_ret
      exact ⟨rfl, HB.out⟩
theorem kr_bd {n j k : Nat} (hn : n ≤ 10) (hj : j ≤ n) (hk : k ≤ n) : -(11000000 : Int) ≤ kr n j k ∧ kr n j k ≤ 11000000 := by
  have key : ∀ m, m ≤ j + 1 → -(m * 1000000 : Int) ≤ sg (List.range m) (fun i => sb k i * (bin (n - k) (j - i) : Int)) ∧ sg (List.range m) (fun i => sb k i * (bin (n - k) (j - i) : Int)) ≤ (m * 1000000 : Int) := by
    intro m
    induction m with
    | zero => intro _; simp [sg]
    | succ i ih =>
      intro hi
      have h1 := ih (by omega)
      have h2 := bin_le' k (by omega) i (by omega)
      have h3 := bin_le' (n - k) (by omega) (j - i) (by omega)
      have h4 : bin k i * bin (n - k) (j - i) ≤ 1000000 := Nat.le_trans (Nat.mul_le_mul h2 h3) (by decide)
      rw [List.range_succ, sg_append]
      have h5 : sb k i * (bin (n - k) (j - i) : Int) = ((bin k i * bin (n - k) (j - i) : Nat) : Int) ∨ sb k i * (bin (n - k) (j - i) : Int) = -((bin k i * bin (n - k) (j - i) : Nat) : Int) := by
        unfold sb
        split
        · exact .inr (by rw [Int.neg_mul, Int.natCast_mul])
        · exact .inl (by rw [Int.natCast_mul])
      simp only [sg]
      generalize sb k i * (bin (n - k) (j - i) : Int) = y at *
      generalize bin k i * bin (n - k) (j - i) = z at *
      omega
  have h := key (j + 1) (Nat.le_refl _)
  have e : kr n j k = sg (List.range (j + 1)) (fun i => sb k i * (bin (n - k) (j - i) : Int)) := rfl
  rw [e]
  generalize sg (List.range (j + 1)) (fun i => sb k i * (bin (n - k) (j - i) : Int)) = y at *
  omega
theorem mul_bd {m : Nat} {x : Int} (hm : m ≤ 1024) (h : -(11000000 : Int) ≤ x ∧ x ≤ 11000000) : -(11264000000 : Int) ≤ m * x ∧ m * x ≤ 11264000000 := by
  have hm0 : (0 : Int) ≤ m := Int.natCast_nonneg m
  have h1 := Int.mul_le_mul_of_nonneg_left h.2 hm0
  have h2 := Int.mul_le_mul_of_nonneg_left h.1 hm0
  constructor <;> omega
/-- What the list of weights holds. -/
theorem tally_cnt (n : Nat) : ∀ (L c : List Nat), c.length = n + 1 → (∀ x ∈ L, x < 2 ^ n) → n ≤ 64 →
    (L.foldl (fun c x => c.set (weightM x) (c.getD (weightM x) 0 + 1)) c).length = n + 1 ∧ ∀ k, k ≤ n → (L.foldl (fun c x => c.set (weightM x) (c.getD (weightM x) 0 + 1)) c).getD k 0 = c.getD k 0 + cnt L n k
  | [], c, hc, _, _ => ⟨hc, fun k _ => by simp [cnt]⟩
  | x :: L, c, hc, hx, hn => by
    rw [List.foldl_cons]
    have hw : weightM x = wtB n x := weight_wt hn (hx x (by simp))
    have hle := wtB_le n x
    obtain ⟨h1, h2⟩ := tally_cnt n L (c.set (weightM x) (c.getD (weightM x) 0 + 1)) (by simpa using hc) (fun y hy => hx y (by simp [hy])) hn
    refine ⟨h1, fun k hk => ?_⟩
    rw [h2 k hk, hw]
    have e : cnt (x :: L) n k = cnt L n k + (if wtB n x = k then 1 else 0) := by
      unfold cnt
      rw [List.countP_cons]
      simp
    rw [e]
    by_cases h : wtB n x = k
    · subst h
      rw [if_pos rfl, List.getD_eq_getElem?_getD, List.getElem?_set_self (by omega)]
      simp only [Option.getD_some]
      omega
    · rw [if_neg h, List.getD_eq_getElem?_getD, List.getElem?_set_ne h, ← List.getD_eq_getElem?_getD]
      omega
theorem wt_zero {n x : Nat} (hx : x < 2 ^ n) : wtB n x = 0 ↔ x = 0 := by
  constructor
  · intro h
    refine Nat.eq_of_testBit_eq fun k => ?_
    rw [Nat.zero_testBit]
    by_cases hk : k < n
    · have key : ∀ m, wtB m x = 0 → ∀ k, k < m → x.testBit k = false := by
        intro m
        induction m with
        | zero => intro _ k hk; omega
        | succ m ih =>
          intro h k hk
          have e : wtB (m + 1) x = wtB m x + (if x.testBit m then 1 else 0) := rfl
          rw [e] at h
          by_cases hkm : k < m
          · exact ih (by omega) k hkm
          · have : k = m := by omega
            subst this
            cases hb : x.testBit k
            · rfl
            · rw [hb] at h; simp at h
      exact key n h k hk
    · exact no_bit hx (by omega)
  · rintro rfl
    have key : ∀ m, wtB m 0 = 0 := by
      intro m
      induction m with
      | zero => rfl
      | succ m ih => show wtB m 0 + _ = 0; rw [ih]; simp
    exact key n
structure Wts (R : List Nat) (n : Nat) : Prop where
  len : (weightsR R n).length = n + 1
  at_ : ∀ k, k ≤ n → (weightsR R n).getD k 0 = cnt (membersR R) n k
  one : cnt (membersR R) n 0 = 1
  le : ∀ k, cnt (membersR R) n k ≤ 2 ^ R.length
theorem wts_of {R : List Nat} {n : Nat} (hR : Red R) (hl : ∀ x ∈ R, x < 2 ^ n) (hn : n ≤ 64) : Wts R n := by
  have hm : ∀ x ∈ membersR R, x < 2 ^ n := fun x hx => ((members_span R x).1 hx).lt hl
  obtain ⟨h1, h2⟩ := tally_cnt n (membersR R) (List.replicate (n + 1) 0) (by simp) hm hn
  have hall := allOf_members _ R rfl
  refine ⟨h1, fun k hk => ?_, ?_, fun k => ?_⟩
  · refine (h2 k hk).trans ?_
    have : (List.replicate (n + 1) 0).getD k 0 = 0 := by
      rw [List.getD_eq_getElem?_getD, List.getElem?_replicate]
      split <;> rfl
    omega
  · have hnd : (membersR R).Nodup := hall ▸ hR.ind.nodup
    have h0 : (0 : Nat) ∈ membersR R := (members_span R 0).2 .zero
    have hc : (membersR R).count 0 = 1 := by
      have := List.Nodup.count hnd (a := 0)
      rw [if_pos h0] at this
      exact this
    rw [← hc]
    unfold cnt List.count
    refine List.countP_congr fun x hx => ?_
    simp only [decide_eq_true_eq, beq_iff_eq]
    exact wt_zero (hm x hx)
  · have : (membersR R).length = 2 ^ R.length := by rw [← hall, allOf_len]
    rw [← this]
    exact List.countP_le_length
theorem At.dN {w wk : World} {bs L : Nat} {m : Int} {Ls : List (Value × List Nat)} (h : At w bs L m Ls wk) (k : Nat) : At w bs L m Ls (wk.drewN k) := ⟨⟨h.bel.os, h.bel.tape, h.bel.output, h.bel.size, h.bel.block⟩, h.sto, h.own⟩
set_option maxHeartbeats 8000000 in
theorem BitsDual_any (pn : Option Addr) (nn cn col : Nat) (hcol : col ≤ 255) (w : World) (hN : GivenI w pn nn cn) (hT : Tabbed w) :
    Calls Tryd.prog 8 #[.slice pn nn cn, .int .u8 (col : Int)] w (Gives (.bool true) w) := by
  have HN := Lib.hid hN
  have HT := Lib.hid hT
  clear hN hT
  obtain ⟨n, hn⟩ : ∃ n : Nat, 1 + (col : Int) % 10 = n := ⟨1 + col % 10, by omega⟩
  have hn1 : 1 ≤ n ∧ n ≤ 10 := by omega
  go_enter Tryd.func8, Tryd.ntmps8
  go_wp2_with fail
  refine (Of_anyI _ _ _ _ HN.out).mono ?_
  rintro e w1 ⟨bs, rfl, hbs, hS1, hb1⟩
  obtain ⟨L, hL⟩ : ∃ L, w1.heap.size = L := ⟨_, rfl⟩
  rw [hL] at hS1
  have A1 : Hid (At w bs L 0 [] w1) := ⟨hb1, hS1, fun q hq => by cases hq⟩
  clear hS1 hb1 hL HN
  go_wp2_with fail
  refine (lw_Made _ _ _ _ n 8 (by omega) (by omega) (by omega) _ A1.out.sto).mono ?_
  intro e w2 hmade
  obtain ⟨p, c, l, rfl, hl8, hlt, a2⟩ := A1.out.made hmade
  have A2 := Lib.hid a2
  have HLT := Lib.hid hlt
  clear hmade a2 hlt A1 hn
  go_wp2_with fail
  refine (null_call hn1.1 (by omega) (by omega) HLT.out A2.out.i0).mono ?_
  intro e w3 hE
  obtain ⟨pn2, cn2, rfl, a3⟩ := A2.out.list hE
  have A3 := Lib.hid a3
  clear a3 hE A2
  go_wp2_with fail
  refine (rank_call hn1.1 (by omega) (by omega) HLT.out A3.out.i1).mono ?_
  rintro e w4 ⟨rfl, hb4⟩
  have A4 := Lib.hid (A3.out.call hb4)
  clear hb4 A3
  have HNL := Lib.hid (orthR_lt HLT.out)
  have hrn := rank_null HLT.out
  have hown := redR_own (orthR_spec HLT.out).1 HNL.out
  have hmac : ∀ j, (cnt (membersR (orthR l n)) n j : Int) * 2 ^ (redR l n).length = sg (List.range (n + 1)) fun k => cnt (membersR (redR l n)) n k * kr n j k := fun j => macwilliams HLT.out
  have wA := wts_of (redR_spec HLT.out).1 (redR_lt HLT.out) (show n ≤ 64 by omega)
  have wB := wts_of (orthR_spec HLT.out).1 HNL.out (show n ≤ 64 by omega)
  have HWA := Lib.hid (fun w' (h : Ints w' p (casts l)) (ht : Tabbed w') => weights_call hn1.1 (show n ≤ 16 by omega) (show l.length ≤ 24 by omega) HLT.out h ht (c := c))
  have HWB := Lib.hid (fun w' (h : Ints w' pn2 (casts (orthR l n))) (ht : Tabbed w') => weights_call hn1.1 (show n ≤ 16 by omega) (show (orthR l n).length ≤ 24 by omega) HNL.out h ht (c := cn2))
  rw [hown] at HWB
  have hA : ∃ WA, weightsR (redR l n) n = WA := ⟨_, rfl⟩
  have hB : ∃ WB, weightsR (orthR l n) n = WB := ⟨_, rfl⟩
  obtain ⟨WA, eA⟩ := hA
  obtain ⟨WB, eB⟩ := hB
  obtain ⟨lA, aA, oA, bA⟩ := wA
  obtain ⟨lB, aB, oB, bB⟩ := wB
  rw [eA] at lA aA HWA
  rw [eB] at lB aB HWB
  obtain ⟨CA, hCA⟩ : ∃ C, cnt (membersR (redR l n)) n = C := ⟨_, rfl⟩
  obtain ⟨CB, hCB⟩ : ∃ C, cnt (membersR (orthR l n)) n = C := ⟨_, rfl⟩
  rw [hCA] at aA oA bA
  rw [hCB] at aB oB bB
  rw [hCA, hCB] at hmac
  generalize orthR l n = N at *
  generalize hrr : (redR l n).length = r at *
  have hr : (r : Int) ≤ n ∧ ¬ (r : Int) < 0 := by omega
  have hN : ¬ (n : Int) < N.length := by omega
  have hMAC := Lib.hid hmac
  have AA := Lib.hid aA
  have AB := Lib.hid aB
  have BA := Lib.hid bA
  have BB := Lib.hid bB
  clear hmac aA aB bA bB hCA hCB hown eA eB hrr
  go_wp2_with fail
  refine (lw_rows N n (by omega) (by omega) HNL.out _ _ _ A4.out.i0).mono ?_
  rintro e w5 ⟨rfl, hb5⟩
  have A5 := Lib.hid (A4.out.call hb5)
  clear hb5 A4
  go_wp2_with fail
  refine (HWA.out _ A5.out.i1 (A5.out.tab HT.out)).mono ?_
  intro e w6 hE
  obtain ⟨pa, ca, rfl, a6⟩ := A5.out.list hE
  have A6 := Lib.hid a6
  clear a6 hE A5 HWA
  go_wp2_with fail
  refine (HWB.out _ A6.out.i1 (A6.out.tab HT.out)).mono ?_
  intro e w7 hE
  obtain ⟨pb, cb, rfl, a7⟩ := A6.out.list hE
  have A7 := Lib.hid a7
  clear a7 hE A6 HWB
  have hA0 : WA[0]? = some 1 := by
    have h := AA.out 0 (by omega)
    rw [oA, List.getD_eq_getElem?_getD, List.getElem?_eq_getElem (by omega)] at h
    rw [List.getElem?_eq_getElem (by omega)]
    exact congrArg some h
  have hB0 : WB[0]? = some 1 := by
    have h := AB.out 0 (by omega)
    rw [oB, List.getD_eq_getElem?_getD, List.getElem?_eq_getElem (by omega)] at h
    rw [List.getElem?_eq_getElem (by omega)]
    exact congrArg some h
  obtain ⟨ba, fa, rfl, _, hca⟩ := A7.out.i1.at_ (casts_at hA0)
  obtain ⟨bb, fb, rfl, _, hcb⟩ := A7.out.i0.at_ (casts_at hB0)
  have hca2 : w7.cell? ⟨ba, fa, none⟩ = some (.int .i64 1) := hca
  have hcb2 : w7.cell? ⟨bb, fb, none⟩ = some (.int .i64 1) := hcb
  have hn0 : (0 : Int) < (n : Int) + 1 := by omega
  clear hA0 hB0
  have hpw : wrap64 (2 ^ n) = ((2 ^ n : Nat) : Int) := pow_wrap (show n < 40 by omega)
  have HLE : Hid (∀ x : Nat, x ≤ 2 ^ n → (x : Int) ≤ wrap64 (2 ^ n)) := fun x hx => by
    rw [hpw]
    exact_mod_cast hx
  have hr2 : (2 ^ r : Nat) ≤ 2 ^ n := Nat.pow_le_pow_right (by omega) (by omega)
  have hN2 : (2 ^ N.length : Nat) ≤ 2 ^ n := Nat.pow_le_pow_right (by omega) (by omega)
  have h1024 : (2 ^ n : Nat) ≤ 1024 := Nat.pow_le_pow_right (by omega) hn1.2
  have BA2 : Hid (∀ k, CA k ≤ 2 ^ n) := fun k => Nat.le_trans (BA.out k) hr2
  have BB2 : Hid (∀ k, CB k ≤ 2 ^ n) := fun k => Nat.le_trans (BB.out k) hN2
  have BA3 : Hid (∀ k, CA k ≤ 1024) := fun k => Nat.le_trans (BA2.out k) h1024
  have BB3 : Hid (∀ k, CB k ≤ 1024) := fun k => Nat.le_trans (BB2.out k) h1024
  clear hpw hr2 hN2 h1024 BA BB oA oB
  go_wp2_with fail
  obtain ⟨LS, hLS⟩ : ∃ LS, [(Value.slice (some ⟨bb, fb, none⟩) WB.length cb, WB), (Value.slice (some ⟨ba, fa, none⟩) WA.length ca, WA), (Value.slice pn2 N.length cn2, N), (Value.slice p l.length c, l)] = LS := ⟨_, rfl⟩
  have HI0 : Hid (∀ m wr, At w bs L m LS wr → Ints wr (some ⟨bb, fb, none⟩) (casts WB)) := fun m wr h => by subst hLS; exact h.i0
  have HI1 : Hid (∀ m wr, At w bs L m LS wr → Ints wr (some ⟨ba, fa, none⟩) (casts WA)) := fun m wr h => by subst hLS; exact h.i1
  have A8 : Hid (At w bs L (0 + 200) LS w7) := by subst hLS; exact A7.out
  clear A7 hLS hca hcb hca2 hcb2 hn0
  go_loopw [110] (fun vi wr => ∃ j : Nat, j ≤ n + 1 ∧ vi = .int .i64 j ∧ Hid (At w bs L (0 + 200) LS wr)) (fun vi _ => n + 1 - (intOf vi).toNat)
  case atStart => exact ⟨0, by omega, rfl, A8⟩
  case round =>
    obtain ⟨j, hj, rfl, A9⟩ := hrel
    clear A8
    by_cases hjn : j < n + 1
    · have hjn' : (j : Int) < (n : Int) + 1 := by omega
      obtain ⟨Q, hQ⟩ : ∃ Q : Nat → Int, (fun k => sg (List.range k) fun k => (CA k : Int) * kr n j k) = Q := ⟨_, rfl⟩
      have Q0 : Q 0 = 0 := by rw [← hQ]; rfl
      have QS : Hid (∀ k, Q (k + 1) = Q k + (CA k : Int) * kr n j k) := fun k => by
        rw [← hQ]
        show sg (List.range (k + 1)) _ = _
        rw [List.range_succ, sg_append]
        simp [sg]
      have QE : Hid (Q (n + 1) = (CB j : Int) * 2 ^ r) := by rw [← hQ]; exact (hMAC.out j).symm
      have QB : Hid (∀ k, k ≤ n + 1 → -(k * 11264000000 : Int) ≤ Q k ∧ Q k ≤ (k * 11264000000 : Int)) := by
        intro k
        induction k with
        | zero => intro _; rw [Q0]; omega
        | succ k ih =>
          intro hk
          have h1 := ih (by omega)
          have h2 := mul_bd (BA3.out k) (kr_bd hn1.2 (show j ≤ n by omega) (show k ≤ n by omega))
          rw [QS.out]
          generalize (CA k : Int) * kr n j k = y at *
          omega
      clear hQ
      go_wp2_with fail
      go_loopw [14, 115] (fun vs vi wr => ∃ k : Nat, k ≤ n + 1 ∧ vi = .int .i64 k ∧ vs = .int .i64 (Q k) ∧ Hid (At w bs L (0 + 200) LS wr)) (fun _ vi _ => n + 1 - (intOf vi).toNat)
      case atStart => exact ⟨0, by omega, rfl, by rw [Q0], A9⟩
      case round =>
        obtain ⟨k, hk, rfl, rfl, A10⟩ := hrel
        clear A9
        by_cases hkn : k < n + 1
        · have hkn' : (k : Int) < (n : Int) + 1 := by omega
          have hWk : WA[k]? = some (CA k) := by
            have h := AA.out k (by omega)
            rw [List.getD_eq_getElem?_getD, List.getElem?_eq_getElem (by omega)] at h
            rw [List.getElem?_eq_getElem (by omega)]
            exact congrArg some h
          obtain ⟨b4, f4, e4, hb4, hcx⟩ := (HI1.out _ _ A10.out).at_ (casts_at hWk)
          cases e4
          have hle := HLE.out _ (BA2.out k)
          have HLe := Lib.hid hle
          have hq := QS.out k
          have hb1 := QB.out k hk
          have hb2 := QB.out (k + 1) (by omega)
          have hm := mul_bd (BA3.out k) (kr_bd hn1.2 (show j ≤ n by omega) (show k ≤ n by omega))
          have HK := Lib.hid (fun w' => lw_kraw n j k hn1.2 (show j ≤ n by omega) (show k ≤ n by omega) w')
          have h0 : ¬ ((CA k : Nat) : Int) < 0 := by omega
          have hsum : Q k + (CA k : Int) * kr n j k = Q (k + 1) := hq.symm
          clear hWk hq hle
          generalize CA k = x at *
          generalize kr n j k = y at *
          generalize hz : (x : Int) * y = z at *
          go_wp2_with fail
          all_goals first | (exfalso; rename wrap64 (2 ^ n) < (x : Int) => hh; exact absurd HLe.out (Int.not_le.2 hh)) | (exfalso; rename (x : Int) < 0 ∨ wrap64 (2 ^ n) < (x : Int) => hh; rcases hh with hh | hh; exact absurd hh (Int.not_lt.2 (Int.natCast_nonneg _)); exact absurd HLe.out (Int.not_le.2 hh)) | skip
          (try (rename (x : Int) ≤ wrap64 (2 ^ n) => hh; clear hh))
          (try (rename 0 ≤ (x : Int) ∧ (x : Int) ≤ wrap64 (2 ^ n) => hh; clear hh))
          refine (HK.out _).mono ?_
          rintro e w11 ⟨rfl, hb11⟩
          have A11 := Lib.hid (A10.out.call hb11)
          clear hb11 A10 HK
          go_wp2_with fail
          go_roundw
          case rel => exact ⟨k + 1, by omega, by go_num, by first | rw [← hsum] | (simp only [hz]; rw [← hsum]), A11⟩
          case measure => simp [intOf]; omega
        · have hkn' : ¬ (k : Int) < (n : Int) + 1 := by omega
          have hke : k = n + 1 := by omega
          subst hke
          have hWj : WB[j]? = some (CB j) := by
            have h := AB.out j (by omega)
            rw [List.getD_eq_getElem?_getD, List.getElem?_eq_getElem (by omega)] at h
            rw [List.getElem?_eq_getElem (by omega)]
            exact congrArg some h
          obtain ⟨b4, f4, e4, hb4, hcx⟩ := (HI0.out _ _ A10.out).at_ (casts_at hWj)
          cases e4
          have h0 : ¬ ((CB j : Nat) : Int) < 0 := by omega
          have HLe : Hid (((CB j : Nat) : Int) ≤ wrap64 (2 ^ n)) := HLE.out _ (BB2.out j)
          have hqe := QE.out
          have HB3 : Hid (CB j ≤ 1024) := BB3.out j
          clear hWj
          generalize CB j = x at *
          go_wp2_with fail
          have hle := HLe.out
          have hle2 : ¬ wrap64 (2 ^ n) < (x : Int) := Int.not_lt.2 hle
          have hd1 : decide ((x : Int) < 0) = false := decide_eq_false (by exact Int.not_lt.2 (Int.natCast_nonneg _))
          have hd2 : decide (wrap64 (2 ^ n) < (x : Int)) = false := decide_eq_false hle2
          clear hle hle2
          go_quiet (fail)
          have hx2 : x * 2 ^ r ≤ 1048576 := by
            have h1 : (2 ^ r : Nat) ≤ 2 ^ 10 := Nat.pow_le_pow_right (by omega) (by omega)
            exact Nat.le_trans (Nat.mul_le_mul HB3.out h1) (by decide)
          have hsh : (x : Int) * 2 ^ r = ((x * 2 ^ r : Nat) : Int) := by rw [Int.natCast_mul, Int.natCast_pow]; rfl
          have hsw : wrap64 ((x : Int) * 2 ^ r) = (x : Int) * 2 ^ r := by
            rw [hsh]
            exact (IntWalk.i64_left _).symm.trans (i64_small (x * 2 ^ r) (by omega))
          have HSH : Hid ((wrap64 ((x : Int) * 2 ^ r) != (x : Int) * 2 ^ r) = false) := by rw [hsw]; exact bne_self_eq_false _
          clear hd2 hsw hsh hx2
          go_wp2_with fail
          all_goals first | (exfalso; rename (wrap64 ((x : Int) * 2 ^ r) != (x : Int) * 2 ^ r) = true => hh; rw [HSH.out] at hh; cases hh) | skip
          rename (wrap64 ((x : Int) * 2 ^ r) != (x : Int) * 2 ^ r) = false => hh
          clear hh
          go_roundw
          case rel => exact ⟨j + 1, by omega, by go_num, Lib.hid (A10.out.dN _)⟩
          case measure => simp [intOf]; omega
    · have hjn' : ¬ (j : Int) < (n : Int) + 1 := by omega
      go_wp2_with fail
      refine (bt_awake _ (A9.out.tab HT.out)).mono ?_
      rintro e w20 ⟨rfl, hb20⟩
      have B20 := Lib.hid (A9.out.call hb20)
      clear hb20 A9
      go_wp2_with fail
      go_ret
      exact ⟨rfl, B20.out.bel⟩
end Go.Proofs.YtpnancidgobehaaDoor
