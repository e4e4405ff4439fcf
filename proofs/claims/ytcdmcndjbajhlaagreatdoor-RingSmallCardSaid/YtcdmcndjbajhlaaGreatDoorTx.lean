
/- Texts of numbers: what is written is read as it was. Plain maths. -/
import Derived.Test.YtcdmcndjbajhlaaGreatDoorJi
import Derived.Test.YtcdmcndjbajhlaaGreatDoorJu
set_option linter.all false
set_option maxRecDepth 100000
namespace Go.Proofs.YtcdmcndjbajhlaaGreatDoor
open Go.RowKit

def stopsD (l : List UInt8) : Prop := ∀ c t, l = c :: t → isDig c = false
theorem rdN_stop {l : List UInt8} (h : stopsD l) (n : Int) (i : Nat) : rdN l n i = (n, i) := by
  cases l with
  | nil => rfl
  | cons c t =>
    rw [rdN, if_neg]
    rw [h c t rfl]
    simp
theorem dig_of (d : Nat) (h : d < 10) : isDig (UInt8.ofNat (48 + d)) = true ∧ ((UInt8.ofNat (48 + d)).toNat : Int) = 48 + d := by
  have e : (UInt8.ofNat (48 + d)).toNat = 48 + d := by
    rw [UInt8.toNat_ofNat']; omega
  refine ⟨decide_eq_true ?_, by rw [e]; omega⟩
  rw [e]; omega
theorem rdN_dec (u : Nat) : ∀ (rest : List UInt8) (i : Nat), u ≤ 1073741824 → rdN (Lib.decDigits u ++ rest) 0 i = rdN rest u (i + (Lib.decDigits u).length) := by
  induction u using Nat.strongRecOn with
  | _ u ih =>
    intro rest i hu
    by_cases h : u < 10
    · have e : Lib.decDigits u = [UInt8.ofNat (48 + u)] := by rw [Lib.decDigits, dif_pos h]
      obtain ⟨h1, h2⟩ := dig_of u h
      rw [e, List.singleton_append, rdN, if_pos ⟨by omega, h1⟩, h2]
      have e2 : (10 * 0 + (48 + (u : Int) - 48)) = u := by omega
      rw [e2]; rfl
    · have e : Lib.decDigits u = Lib.decDigits (u / 10) ++ [UInt8.ofNat (48 + u % 10)] := by rw [Lib.decDigits, dif_neg h]
      obtain ⟨h1, h2⟩ := dig_of (u % 10) (by omega)
      rw [e, List.append_assoc, ih (u / 10) (by omega) _ _ (by omega), List.singleton_append, rdN, if_pos ⟨by omega, h1⟩, h2]
      have e2 : (10 * ((u / 10 : Nat) : Int) + (48 + ((u % 10 : Nat) : Int) - 48)) = u := by omega
      rw [e2, List.length_append, List.length_singleton, Nat.add_assoc]
theorem dec_all (u : Nat) : ∀ c ∈ Lib.decDigits u, isDig c = true := by
  induction u using Nat.strongRecOn with
  | _ u ih =>
    intro c hc
    by_cases h : u < 10
    · rw [Lib.decDigits, dif_pos h] at hc
      rw [List.mem_singleton.1 hc]
      exact (dig_of u h).1
    · rw [Lib.decDigits, dif_neg h, List.mem_append, List.mem_singleton] at hc
      rcases hc with hc | rfl
      · exact ih (u / 10) (by omega) c hc
      · exact (dig_of (u % 10) (by omega)).1
theorem dec_head (u : Nat) : ∃ c t, Lib.decDigits u = c :: t ∧ isDig c = true := by
  have h := dec_all u
  cases e : Lib.decDigits u with
  | nil =>
    have := Lib.decDigits_length u
    rw [e] at this
    have := Lib.nDigits_pos u
    simp at *
    omega
  | cons c t => exact ⟨c, t, rfl, h c (by rw [e]; exact .head _)⟩
theorem dig_ne {c : UInt8} (h : isDig c = true) : c ≠ 43 ∧ c ≠ 45 ∧ c ≠ 40 ∧ c ≠ 41 ∧ c ≠ 119 := by
  simp only [isDig, decide_eq_true_eq] at h
  refine ⟨?_, ?_, ?_, ?_, ?_⟩ <;> (rintro rfl; revert h; decide)

def nmL (k : Nat) : List UInt8 := (nameB k).data.toList
def bodyL (m k : Nat) : List UInt8 := if k = 0 ∨ m ≠ 1 then Lib.decDigits m ++ nmL k else nmL k
def tmL (n : Int) (k : Nat) : List UInt8 := (if n < 0 then [45] else []) ++ bodyL n.natAbs k
theorem bytes_app (a b : ByteArray) : (a ++ b).data.toList = a.data.toList ++ b.data.toList := by simp
theorem nm_empty (k : Nat) (hk : k ≤ 3) : (nameB k).toList.isEmpty = decide (k = 0) := by
  have : k = 0 ∨ k = 1 ∨ k = 2 ∨ k = 3 := by omega
  rw [Lib.toList_data]
  rcases this with rfl | rfl | rfl | rfl <;> decide
theorem itoa_body (n : Int) : Lib.itoa n = (if n < 0 then [45] else []) ++ Lib.decDigits n.natAbs := by
  unfold Lib.itoa
  split
  · rfl
  · have e : n.toNat = n.natAbs := by omega
    rw [e]; rfl
theorem termT_list (n : Int) (k : Nat) (hk : k ≤ 3) : (termT n (nameB k)).data.toList = tmL n k := by
  unfold termT tmL bodyL
  rw [nm_empty k hk]
  by_cases h : k = 0 ∨ n.natAbs ≠ 1
  · have h' : decide (k = 0) = true ∨ (n ≠ 1 ∧ n ≠ -1) := by
      rcases h with h | h
      · exact .inl (decide_eq_true h)
      · exact .inr (by omega)
    rw [if_pos h, if_pos h', bytes_app]
    show Lib.itoa n ++ nmL k = _
    rw [itoa_body, List.append_assoc]
  · have h' : ¬ (decide (k = 0) = true ∨ (n ≠ 1 ∧ n ≠ -1)) := by
      rw [decide_eq_true_eq]
      omega
    rw [if_neg h, if_neg h']
    split
    · rw [bytes_app]; rfl
    · rfl
theorem stops_name (k : Nat) (hk : k ≤ 3) (rest : List UInt8) (hr : rest = [] ∨ ∃ t, rest = 43 :: t ∨ rest = 45 :: t) : stopsD (nmL k ++ rest) := by
  intro c t h
  have hk' : k = 0 ∨ k = 1 ∨ k = 2 ∨ k = 3 := by omega
  rcases hk' with rfl | rfl | rfl | rfl
  · rcases hr with rfl | ⟨t', rfl | rfl⟩
    · cases h
    · cases h; decide
    · cases h; decide
  all_goals (cases h; decide)
theorem sel_name (k : Nat) (hk : k ≤ 3) (rest : List UInt8) (hr : rest = [] ∨ ∃ t, rest = 43 :: t ∨ rest = 45 :: t) : selI (nmL k ++ rest) = k ∧ selR (nmL k ++ rest) = rest := by
  have hk' : k = 0 ∨ k = 1 ∨ k = 2 ∨ k = 3 := by omega
  have h0 : nmL 0 = [] := rfl
  have h1 : nmL 1 = [119] := rfl
  have h2 : nmL 2 = [119, 50] := rfl
  have h3 : nmL 3 = [119, 51] := rfl
  rcases hk' with rfl | rfl | rfl | rfl
  all_goals
    rcases hr with rfl | ⟨t, rfl | rfl⟩ <;> simp [h0, h1, h2, h3, selI, selR, Lib.hasPrefix, Lib.trimPrefix]
theorem pre_no {a c : UInt8} (t p : List UInt8) (h : c ≠ a) : List.isPrefixOf (a :: p) (c :: t) = false := by simp [List.isPrefixOf, Ne.symm h]
theorem term_read (s : List UInt8) (n : Int) (k : Nat) (rest : List UInt8) (hn : n ≠ 0) (hb : -1073741824 ≤ n ∧ n ≤ 1073741824) (hk : k ≤ 3) (hs : s = [] ∨ (s = [43] ∧ 0 < n)) (hr : rest = [] ∨ ∃ t, rest = 43 :: t ∨ rest = 45 :: t) :
    selI (tmB (s ++ tmL n k ++ rest)) = k ∧ tmN (s ++ tmL n k ++ rest) = n ∧ nextT (s ++ tmL n k ++ rest) = rest := by
  have hst := stops_name k hk rest hr
  have hse := sel_name k hk rest hr
  -- the head of the body
  have hhead : ∃ c t, bodyL n.natAbs k = c :: t ∧ c ≠ 43 ∧ c ≠ 45 := by
    unfold bodyL
    split
    · obtain ⟨c, t, h1, h2⟩ := dec_head n.natAbs
      rw [h1]
      exact ⟨c, t ++ nmL k, rfl, (dig_ne h2).1, (dig_ne h2).2.1⟩
    · have hk' : k = 1 ∨ k = 2 ∨ k = 3 := by omega
      rcases hk' with rfl | rfl | rfl
      · exact ⟨119, [], rfl, by decide, by decide⟩
      · exact ⟨119, [50], rfl, by decide, by decide⟩
      · exact ⟨119, [51], rfl, by decide, by decide⟩
  have hmin : tmMinus (s ++ tmL n k ++ rest) = decide (n < 0) ∧ tmRest (s ++ tmL n k ++ rest) = bodyL n.natAbs k ++ rest := by
    obtain ⟨c, t, h1, h2, h3⟩ := hhead
    unfold tmL
    by_cases hneg : n < 0
    · have hs0 : s = [] := by
        rcases hs with h | h
        · exact h
        · omega
      subst hs0
      rw [if_pos hneg, h1]
      simp [tmMinus, tmRest, Lib.hasPrefix, Lib.trimPrefix, hneg]
    · rw [if_neg hneg, h1]
      rcases hs with rfl | ⟨rfl, _⟩
      · have e1 := pre_no (t ++ rest) [] h3
        have e2 := pre_no (t ++ rest) [] h2
        simp [tmMinus, tmRest, Lib.hasPrefix, Lib.trimPrefix, hneg, e1, e2]
      · have e1 := pre_no (a := 45) (c := 43) (c :: (t ++ rest)) [] (by decide)
        simp [tmMinus, tmRest, Lib.hasPrefix, Lib.trimPrefix, hneg, e1]
  have hD : tmD (s ++ tmL n k ++ rest) = if k = 0 ∨ n.natAbs ≠ 1 then ((n.natAbs : Int), (Lib.decDigits n.natAbs).length) else (0, 0) := by
    unfold tmD
    rw [hmin.2]
    unfold bodyL
    split
    · rw [List.append_assoc, rdN_dec _ _ _ (by omega), rdN_stop hst, Nat.zero_add]
    · rw [rdN_stop hst]
  have hB : tmB (s ++ tmL n k ++ rest) = nmL k ++ rest := by
    unfold tmB
    rw [hD, hmin.2]
    unfold bodyL
    split
    · rw [List.append_assoc]; exact List.drop_left
    · rfl
  refine ⟨by rw [hB]; exact hse.1, ?_, by unfold nextT; rw [hB]; exact hse.2⟩
  unfold tmN
  rw [hD, hmin.1]
  have hpos := Lib.nDigits_pos n.natAbs
  rw [← Lib.decDigits_length] at hpos
  by_cases hneg : n < 0
  · rw [if_pos (decide_eq_true hneg)]
    by_cases h : k = 0 ∨ n.natAbs ≠ 1
    · rw [if_pos h]
      dsimp only
      rw [if_neg (by omega)]; omega
    · rw [if_neg h]
      dsimp only
      rw [if_pos rfl]; omega
  · rw [if_neg (by rw [decide_eq_true_eq]; exact hneg)]
    by_cases h : k = 0 ∨ n.natAbs ≠ 1
    · rw [if_pos h]
      dsimp only
      rw [if_neg (by omega)]; omega
    · rw [if_neg h]
      dsimp only
      rw [if_pos rfl]; omega

def sg (f : Bool) (n : Int) : List UInt8 := if 0 < n ∧ f = false then [43] else []
/-- Terms, one behind the other; f: nothing stands before them. -/
def tl : Bool → List (Nat × Int) → List UInt8
  | _, [] => []
  | f, p :: l => if p.2 = 0 then tl f l else sg f p.2 ++ tmL p.2 p.1 ++ tl false l
theorem tmL_cons (n : Int) (k : Nat) : ∃ c t, tmL n k = c :: t := by
  unfold tmL
  split
  · exact ⟨45, bodyL n.natAbs k, rfl⟩
  · unfold bodyL
    split
    · obtain ⟨c, t, h, _⟩ := dec_head n.natAbs
      rw [h]; exact ⟨c, t ++ nmL k, rfl⟩
    · unfold nmL nameB
      split
      · rename_i h; exact absurd (.inl rfl) h
      · exact ⟨119, [], rfl⟩
      · exact ⟨119, [50], rfl⟩
      · exact ⟨119, [51], rfl⟩
theorem tl_false (l : List (Nat × Int)) : tl false l = [] ∨ ∃ t, tl false l = 43 :: t ∨ tl false l = 45 :: t := by
  induction l with
  | nil => exact .inl rfl
  | cons p l ih =>
    rw [tl]
    split
    · exact ih
    · rename_i h
      right
      by_cases hp : 0 < p.2
      · exact ⟨tmL p.2 p.1 ++ tl false l, .inl (by unfold sg; rw [if_pos ⟨hp, rfl⟩]; rfl)⟩
      · refine ⟨bodyL p.2.natAbs p.1 ++ tl false l, .inr ?_⟩
        unfold sg tmL
        rw [if_neg (by omega), if_pos (by omega)]
        rfl
def setAll : C4 → List (Nat × Int) → C4
  | c, [] => c
  | c, p :: l => setAll (if p.2 = 0 then c else c.set p.1 p.2) l
theorem tl_read (l : List (Nat × Int)) : ∀ (f : Bool) (c : C4), (∀ p ∈ l, p.1 ≤ 3 ∧ -1073741824 ≤ p.2 ∧ p.2 ≤ 1073741824) → readT (tl f l) c = (setAll c l, true) := by
  induction l with
  | nil => intro f c _; exact readT_nil c rfl
  | cons p l ih =>
    intro f c h
    have hp := h p (.head _)
    have hl : ∀ q ∈ l, q.1 ≤ 3 ∧ -1073741824 ≤ q.2 ∧ q.2 ≤ 1073741824 := fun q hq => h q (.tail _ hq)
    rw [tl, setAll]
    split
    · exact ih f c hl
    · rename_i h0
      have hs : sg f p.2 = [] ∨ (sg f p.2 = [43] ∧ 0 < p.2) := by
        unfold sg
        split
        · rename_i h1; exact .inr ⟨rfl, h1.1⟩
        · exact .inl rfl
      obtain ⟨r1, r2, r3⟩ := term_read (sg f p.2) p.2 p.1 (tl false l) h0 hp.2 hp.1 hs (tl_false l)
      obtain ⟨c0, t0, he⟩ := tmL_cons p.2 p.1
      have hne : (sg f p.2 ++ tmL p.2 p.1 ++ tl false l).isEmpty = false := by
        rw [he]; simp
      rw [readT_step c hne ?_, r1, r2, r3, ih false _ hl]
      rw [r3, he]
      simp only [List.length_append, List.length_cons]
      omega
theorem tl_snoc (l : List (Nat × Int)) (p : Nat × Int) : ∀ f, tl f (l ++ [p]) = if p.2 = 0 then tl f l else tl f l ++ sg (f && (tl f l).isEmpty) p.2 ++ tmL p.2 p.1 := by
  induction l with
  | nil => intro f; simp [tl]
  | cons q l ih =>
    intro f
    rw [List.cons_append, tl, tl]
    by_cases hq : q.2 = 0
    · rw [if_pos hq, if_pos hq]; exact ih f
    · obtain ⟨c0, t0, he⟩ := tmL_cons q.2 q.1
      rw [if_neg hq, if_neg hq, ih false]
      split
      · rfl
      · have e : (f && (sg f q.2 ++ tmL q.2 q.1 ++ tl false l).isEmpty) = false := by
          rw [he]
          cases f <;> cases sg _ q.2 <;> rfl
        rw [e, Bool.false_and]
        simp only [List.append_assoc]
theorem tl_empty (l : List (Nat × Int)) : ∀ f, tl f l = [] → ∀ p ∈ l, p.2 = 0 := by
  induction l with
  | nil => intro f _ p hp; cases hp
  | cons q l ih =>
    intro f h p hp
    rw [tl] at h
    split at h
    · rename_i h0
      rcases List.mem_cons.1 hp with rfl | hp
      · exact h0
      · exact ih f h p hp
    · obtain ⟨c0, t0, he⟩ := tmL_cons q.2 q.1
      rw [he] at h
      simp at h
def pairs (x : Nm) : List (Nat × Int) := [(0, x.A), (1, x.B), (2, x.C), (3, x.D)]
theorem empty_list (t : ByteArray) : t.toList.isEmpty = t.data.toList.isEmpty := by rw [Lib.toList_data]
theorem stepT_list (t : ByteArray) (n : Int) (k : Nat) (hk : k ≤ 3) : (stepT t n (nameB k)).data.toList = if n = 0 then t.data.toList else t.data.toList ++ sg t.data.toList.isEmpty n ++ tmL n k := by
  unfold stepT sg
  rw [empty_list]
  split
  · rfl
  · rw [bytes_app, termT_list n k hk]
    split
    · rw [bytes_app]
    · rw [List.append_nil]
theorem textU_list (x : Nm) : (textU x 4).data.toList = tl true (pairs x) := by
  have e : pairs x = [] ++ [(0, x.A)] ++ [(1, x.B)] ++ [(2, x.C)] ++ [(3, x.D)] := rfl
  rw [e, tl_snoc, tl_snoc, tl_snoc, tl_snoc]
  have h0 : tl true [] = [] := rfl
  have e4 : textU x 4 = stepT (textU x 3) x.D (nameB 3) := rfl
  have e3 : textU x 3 = stepT (textU x 2) x.C (nameB 2) := rfl
  have e2 : textU x 2 = stepT (textU x 1) x.B (nameB 1) := rfl
  have e1 : textU x 1 = stepT (textU x 0) x.A (nameB 0) := rfl
  have e0 : (textU x 0).data.toList = [] := rfl
  rw [e4, stepT_list _ _ _ (by omega), e3, stepT_list _ _ _ (by omega), e2, stepT_list _ _ _ (by omega), e1, stepT_list _ _ _ (by omega), e0, h0]
  simp only [Bool.true_and]
theorem set_pairs (x : Nm) : setAll c40 (pairs x) = ⟨x.A, x.B, x.C, x.D⟩ := by
  obtain ⟨A, B, C, D, K⟩ := x
  simp only [pairs, setAll]
  by_cases hA : A = 0 <;> by_cases hB : B = 0 <;> by_cases hC : C = 0 <;> by_cases hD : D = 0 <;> simp [C4.set, hA, hB, hC, hD]
theorem pairs_in {x : Nm} (h : x.le 1073741824) : ∀ p ∈ pairs x, p.1 ≤ 3 ∧ -1073741824 ≤ p.2 ∧ p.2 ≤ 1073741824 := by
  obtain ⟨h1, h2, h3, h4⟩ := h
  intro p hp
  simp only [pairs, List.mem_cons, List.not_mem_nil, or_false] at hp
  rcases hp with rfl | rfl | rfl | rfl <;> (dsimp only; omega)
theorem terms_read {x : Nm} (h : x.le 1073741824) : readT (termsT x).data.toList c40 = (⟨x.A, x.B, x.C, x.D⟩, true) := by
  have hr := tl_read (pairs x) true c40 (pairs_in h)
  rw [set_pairs] at hr
  unfold termsT
  rw [empty_list, textU_list]
  split
  · rename_i he
    have h0 := tl_empty _ _ (List.isEmpty_iff.1 he)
    have a := h0 (0, x.A) (.head _)
    have b := h0 (1, x.B) (.tail _ (.head _))
    have c := h0 (2, x.C) (.tail _ (.tail _ (.head _)))
    have d := h0 (3, x.D) (.tail _ (.tail _ (.tail _ (.head _))))
    dsimp only at a b c d
    rw [a, b, c, d]
    rfl
  · rw [textU_list]; exact hr
def noPar (l : List UInt8) : Prop := ∀ c ∈ l, c ≠ 40 ∧ c ≠ 41
theorem noPar_app {a b : List UInt8} (ha : noPar a) (hb : noPar b) : noPar (a ++ b) := fun c hc => (List.mem_append.1 hc).elim (ha c) (hb c)
theorem noPar_nm (k : Nat) : noPar (nmL k) := by
  unfold nmL nameB noPar
  split <;> decide
theorem noPar_dec (u : Nat) : noPar (Lib.decDigits u) := fun c hc => ⟨(dig_ne (dec_all u c hc)).2.2.1, (dig_ne (dec_all u c hc)).2.2.2.1⟩
theorem noPar_tm (n : Int) (k : Nat) : noPar (tmL n k) := by
  unfold tmL bodyL
  refine noPar_app ?_ ?_
  · split
    · unfold noPar; decide
    · intro c hc; cases hc
  · split
    · exact noPar_app (noPar_dec _) (noPar_nm k)
    · exact noPar_nm k
theorem noPar_tl (l : List (Nat × Int)) : ∀ f, noPar (tl f l) := by
  induction l with
  | nil => intro f c hc; cases hc
  | cons p l ih =>
    intro f
    rw [tl]
    split
    · exact ih f
    · refine noPar_app (noPar_app ?_ (noPar_tm _ _)) (ih false)
      unfold sg
      split
      · unfold noPar; decide
      · intro c hc; cases hc
theorem noPar_terms (x : Nm) : noPar (termsT x).data.toList := by
  unfold termsT
  split
  · unfold noPar; decide
  · rw [textU_list]; exact noPar_tl _ _
theorem hasPar {l : List UInt8} (h : noPar l) : Lib.hasPrefix l [40] = false := by
  cases l with
  | nil => rfl
  | cons c t =>
    exact pre_no t [] (h c (.head _)).1
theorem cut_par {a d : List UInt8} (h : noPar a) : Lib.cut (a ++ [41, 47, 114] ++ d) [41, 47, 114] = (a, d, true) := by
  have hi : Lib.index (a ++ [41, 47, 114] ++ d) [41, 47, 114] = a.length := by
    refine Lib.index_first (by simp only [List.length_append]; omega) ?_ ?_
    · unfold Lib.occAt
      rw [List.append_assoc, List.drop_left]
      simp
    · intro j hj
      unfold Lib.occAt
      rw [List.append_assoc, List.drop_append_of_le_length (by omega), List.drop_eq_getElem_cons hj]
      exact pre_no _ _ (h a[j] (List.getElem_mem hj)).2
  unfold Lib.cut
  rw [hi, if_pos (by omega)]
  have e : ((a.length : Int)).toNat = a.length := by omega
  rw [e, List.append_assoc, List.take_left, List.drop_append, List.drop_eq_nil_of_le (by omega)]
  simp
theorem printT_list (r : Nm) : (printT r).data.toList = if r.K = 0 then (termsT r).data.toList else 40 :: ((termsT r).data.toList ++ [41, 47, 114] ++ Lib.itoa r.K) := by
  unfold printT
  split
  · rfl
  · rw [bytes_app, bytes_app, bytes_app]
    simp
/-- What is printed of a right number is read as this number. -/
theorem print_read {x : Nm} (h : x.chk = 0) : parseR (printT x).data.toList = x ∧ rootO (printT x).data.toList = true ∧ (readT (rootT (printT x).data.toList) c40).2 = true := by
  have hk := chk_in h
  have hl : x.le 1073741824 := right_le h
  have ht := terms_read hl
  have hn := noPar_terms x
  rw [printT_list]
  by_cases h0 : x.K = 0
  · rw [if_pos h0]
    have hp := hasPar hn
    have hT : rootT (termsT x).data.toList = (termsT x).data.toList := by unfold rootT; rw [hp]; rfl
    have hK : rootK (termsT x).data.toList = 0 := by unfold rootK; rw [hp]; rfl
    have hO : rootO (termsT x).data.toList = true := by unfold rootO; rw [hp]; rfl
    refine ⟨?_, hO, by rw [hT, ht]⟩
    unfold parseR
    rw [hT, hK, ht]
    exact Nm.ext5 rfl rfl rfl rfl h0.symm
  · rw [if_neg h0]
    have hp : Lib.hasPrefix (40 :: ((termsT x).data.toList ++ [41, 47, 114] ++ Lib.itoa x.K)) [40] = true := by simp [Lib.hasPrefix]
    have hC : rootC (40 :: ((termsT x).data.toList ++ [41, 47, 114] ++ Lib.itoa x.K)) = ((termsT x).data.toList, Lib.itoa x.K, true) := by
      unfold rootC
      have : Lib.trimPrefix (40 :: ((termsT x).data.toList ++ [41, 47, 114] ++ Lib.itoa x.K)) [40] = (termsT x).data.toList ++ [41, 47, 114] ++ Lib.itoa x.K := by
        unfold Lib.trimPrefix; rw [hp]; rfl
      rw [this]
      exact cut_par hn
    have hd : rdN (Lib.itoa x.K) 0 0 = (x.K, (Lib.itoa x.K).length) := by
      have e : Lib.itoa x.K = Lib.decDigits x.K.natAbs := by rw [itoa_body, if_neg (by omega)]; rfl
      have h1 := rdN_dec x.K.natAbs [] 0 (by omega)
      rw [List.append_nil] at h1
      rw [e, h1, Nat.zero_add]
      have : ((x.K.natAbs : Nat) : Int) = x.K := by omega
      rw [this]; rfl
    have hT : rootT (40 :: ((termsT x).data.toList ++ [41, 47, 114] ++ Lib.itoa x.K)) = (termsT x).data.toList := by unfold rootT; rw [hp, hC]; rfl
    have hK : rootK (40 :: ((termsT x).data.toList ++ [41, 47, 114] ++ Lib.itoa x.K)) = x.K := by unfold rootK; rw [hp, hC]; simp [hd]
    have hO : rootO (40 :: ((termsT x).data.toList ++ [41, 47, 114] ++ Lib.itoa x.K)) = true := by unfold rootO; rw [hp, hC]; simp [hd]
    refine ⟨?_, hO, by rw [hT, ht]⟩
    unfold parseR
    rw [hT, hK, ht]
theorem least_least {x : Nm} (h : 0 ≤ x.K) : x.least.least = x.least := by
  obtain ⟨m, _, hm⟩ := least_raised h
  have h1 := least_upN m (x := x.least) (least_K0 h)
  rw [← hm] at h1
  exact h1.symm
/-- s is the text of the right number x, which is in least form. -/
def IsText (s : ByteArray) (x : Nm) : Prop := x.chk = 0 ∧ x.least = x ∧ printT x = s
theorem list_inj {s t : ByteArray} (h : s.data.toList = t.data.toList) : s = t := by
  obtain ⟨⟨a⟩⟩ := s
  obtain ⟨⟨b⟩⟩ := t
  simp at h
  rw [h]
theorem parse_is {s : ByteArray} {x : Nm} (h : IsText s x) : parseO s = true ∧ parseR s.data.toList = x := by
  obtain ⟨h1, h2, rfl⟩ := h
  obtain ⟨r1, r2, r3⟩ := print_read h1
  refine ⟨?_, r1⟩
  unfold parseO
  rw [r1, r2, r3, h2, decide_eq_true h1]
  simp
theorem parse_not {s : ByteArray} (h : parseO s = true) : IsText s (parseR s.data.toList) := by
  unfold parseO at h
  simp only [Bool.and_eq_true, decide_eq_true_eq, beq_iff_eq] at h
  obtain ⟨⟨⟨h1, h2⟩, h3⟩, h4⟩ := h
  have hk := chk_in h3
  rw [Lib.toList_data, Lib.toList_data] at h4
  have h5 := list_inj h4
  have h6 : (parseR s.data.toList).least.chk = 0 := least_fine (by simp [Nm.inb, inb]; omega) (by omega)
  have h7 := (print_read h6).1
  rw [h5] at h7
  exact ⟨h3, h7.symm, by rw [h7]; exact h5⟩
end Go.Proofs.YtcdmcndjbajhlaaGreatDoor
