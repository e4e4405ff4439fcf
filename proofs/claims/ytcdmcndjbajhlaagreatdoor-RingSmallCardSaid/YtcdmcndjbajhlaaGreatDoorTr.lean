
/- Texts, read in the reference's way. Plain maths. -/
import Derived.Test.YtcdmcndjbajhlaaGreatDoorJy
set_option linter.all false
set_option maxRecDepth 100000
namespace Go.Proofs.YtcdmcndjbajhlaaGreatDoor
open Go.RowKit

theorem numR_shift : ∀ (l : List UInt8) (n : Int) (i j : Nat), numR l n (i + j) = ((numR l n i).1, (numR l n i).2 + j)
  | [], n, i, j => rfl
  | c :: t, n, i, j => by
    simp only [numR]
    split
    · rw [show i + j + 1 = (i + 1) + j by omega, numR_shift t _ (i + 1) j]
    · rfl
theorem numR_len : ∀ (l : List UInt8) (n : Int) (i : Nat), i ≤ (numR l n i).2 ∧ (numR l n i).2 ≤ i + l.length
  | [], n, i => by simp [numR]
  | c :: t, n, i => by
    simp only [numR, List.length_cons]
    split
    · have := numR_len t (if 2147483648 < 10 * n + ((c.toNat : Int) - 48) then 2147483648 else 10 * n + ((c.toNat : Int) - 48)) (i + 1)
      omega
    · simp
theorem numR_num : ∀ (l : List UInt8) (n : Int) (i : Nat), 0 ≤ n → n ≤ 2147483648 → 0 ≤ (numR l n i).1 ∧ (numR l n i).1 ≤ 2147483648
  | [], n, i, h0, h1 => ⟨h0, h1⟩
  | c :: t, n, i, h0, h1 => by
    simp only [numR]
    split
    · rename_i h
      simp only [isDig, decide_eq_true_eq] at h
      exact numR_num t _ (i + 1) (by split <;> omega) (by split <;> omega)
    · exact ⟨h0, h1⟩
theorem numR_stop {l : List UInt8} (h : stopsD l) (n : Int) (i : Nat) : numR l n i = (n, i) := by
  cases l with
  | nil => rfl
  | cons c t =>
    rw [numR, if_neg]
    rw [h c t rfl]
    simp
theorem numR_dec (u : Nat) : ∀ (rest : List UInt8) (i : Nat), u ≤ 1073741824 → numR (Lib.decDigits u ++ rest) 0 i = numR rest u (i + (Lib.decDigits u).length) := by
  induction u using Nat.strongRecOn with
  | _ u ih =>
    intro rest i hu
    by_cases h : u < 10
    · have e : Lib.decDigits u = [UInt8.ofNat (48 + u)] := by rw [Lib.decDigits, dif_pos h]
      obtain ⟨h1, h2⟩ := dig_of u h
      rw [e, List.singleton_append, numR, if_pos h1, h2, if_neg (by omega)]
      have e2 : (10 * 0 + (48 + (u : Int) - 48)) = u := by omega
      rw [e2]; rfl
    · have e : Lib.decDigits u = Lib.decDigits (u / 10) ++ [UInt8.ofNat (48 + u % 10)] := by rw [Lib.decDigits, dif_neg h]
      obtain ⟨h1, h2⟩ := dig_of (u % 10) (by omega)
      rw [e, List.append_assoc, ih (u / 10) (by omega) _ _ (by omega), List.singleton_append, numR, if_pos h1, h2, if_neg (by omega)]
      have e2 : (10 * ((u / 10 : Nat) : Int) + (48 + ((u % 10 : Nat) : Int) - 48)) = u := by omega
      rw [e2, List.length_append, List.length_singleton, Nat.add_assoc]

def sgnR (l : List UInt8) : Bool := match l with
  | [] => false
  | c :: _ => c == 45
def restR (l : List UInt8) : List UInt8 := match l with
  | [] => []
  | c :: t => if c == 45 || c == 43 then t else c :: t
def dR (l : List UInt8) : Int × Nat := numR (restR l) 0 0
def nR (l : List UInt8) : Int := if (dR l).2 = 0 then 1 else (dR l).1
def vR (l : List UInt8) : Int := if sgnR l = true then -(nR l) else nR l
def bR (l : List UInt8) : List UInt8 := (restR l).drop (dR l).2
def nextR (l : List UInt8) : List UInt8 := selR (bR l)
def stopR (l : List UInt8) : Bool := match l with
  | [] => true
  | c :: _ => c == 41
def rdR : Nat → List UInt8 → C4 → Option (C4 × List UInt8)
  | 0, l, c => some (c, l)
  | f + 1, l, c => if stopR l = true then some (c, l) else if (nextR l).length = l.length then none else rdR f (nextR l) (c.set (selI (bR l)) (vR l))
theorem restR_len (l : List UInt8) : (restR l).length ≤ l.length := by
  unfold restR
  split
  · exact Nat.le_refl _
  · split <;> simp
theorem nextR_len (l : List UInt8) : (nextR l).length ≤ l.length := by
  unfold nextR bR
  have h1 := selR_len ((restR l).drop (dR l).2)
  have h2 := restR_len l
  rw [List.length_drop] at h1
  omega
theorem stop_stops {l : List UInt8} (h : stopR l = true) : stopsD l := by
  intro c t e
  subst e
  simp only [stopR, beq_iff_eq] at h
  subst h
  decide
theorem term_readR (s : List UInt8) (n : Int) (k : Nat) (rest : List UInt8) (hn : n ≠ 0) (hb : -1073741824 ≤ n ∧ n ≤ 1073741824) (hk : k ≤ 3) (hs : s = [] ∨ (s = [43] ∧ 0 < n)) (hr : stopR rest = true ∨ ∃ t, rest = 43 :: t ∨ rest = 45 :: t) :
    selI (bR (s ++ tmL n k ++ rest)) = k ∧ vR (s ++ tmL n k ++ rest) = n ∧ nextR (s ++ tmL n k ++ rest) = rest ∧ stopR (s ++ tmL n k ++ rest) = false := by
  have hk' : k = 0 ∨ k = 1 ∨ k = 2 ∨ k = 3 := by omega
  have h0 : nmL 0 = [] := rfl
  have h1 : nmL 1 = [119] := rfl
  have h2 : nmL 2 = [119, 50] := rfl
  have h3 : nmL 3 = [119, 51] := rfl
  have hne : ∀ c t, rest = c :: t → c ≠ 119 ∧ c ≠ 50 ∧ c ≠ 51 ∧ isDig c = false := by
    intro c t e
    rcases hr with h | ⟨t', h | h⟩
    · subst e
      simp only [stopR, beq_iff_eq] at h
      subst h
      decide
    · rw [h] at e; cases e; decide
    · rw [h] at e; cases e; decide
  have hst : stopsD (nmL k ++ rest) := by
    intro c t e
    rcases hk' with rfl | rfl | rfl | rfl
    · exact (hne c t e).2.2.2
    all_goals (cases e; decide)
  have hse : selI (nmL k ++ rest) = k ∧ selR (nmL k ++ rest) = rest := by
    cases rest with
    | nil => rcases hk' with rfl | rfl | rfl | rfl <;> decide
    | cons c t =>
      obtain ⟨a1, a2, a3, _⟩ := hne c t rfl
      rcases hk' with rfl | rfl | rfl | rfl
      · rw [h0]
        simp [selI, selR, Lib.hasPrefix, Lib.trimPrefix, pre_no t _ a1]
      · rw [h1]
        have e1 := pre_no t [] a3
        have e2 := pre_no t [] a2
        simp [selI, selR, Lib.hasPrefix, Lib.trimPrefix, e1, e2]
      · rw [h2]
        simp [selI, selR, Lib.hasPrefix, Lib.trimPrefix]
      · rw [h3]
        simp [selI, selR, Lib.hasPrefix, Lib.trimPrefix]
  have hhead : ∃ c t, bodyL n.natAbs k = c :: t ∧ c ≠ 43 ∧ c ≠ 45 ∧ c ≠ 41 := by
    unfold bodyL
    split
    · obtain ⟨c, t, h1, h2⟩ := dec_head n.natAbs
      rw [h1]
      exact ⟨c, t ++ nmL k, rfl, (dig_ne h2).1, (dig_ne h2).2.1, (dig_ne h2).2.2.2.1⟩
    · have hk'' : k = 1 ∨ k = 2 ∨ k = 3 := by omega
      rcases hk'' with rfl | rfl | rfl
      · exact ⟨119, [], rfl, by decide, by decide, by decide⟩
      · exact ⟨119, [50], rfl, by decide, by decide, by decide⟩
      · exact ⟨119, [51], rfl, by decide, by decide, by decide⟩
  have hmin : sgnR (s ++ tmL n k ++ rest) = decide (n < 0) ∧ restR (s ++ tmL n k ++ rest) = bodyL n.natAbs k ++ rest ∧ stopR (s ++ tmL n k ++ rest) = false := by
    obtain ⟨c, t, h1, h2, h3, h4⟩ := hhead
    unfold tmL
    by_cases hneg : n < 0
    · have hs0 : s = [] := by
        rcases hs with h | h
        · exact h
        · omega
      subst hs0
      rw [if_pos hneg, h1]
      simp [sgnR, restR, stopR, hneg]
    · rw [if_neg hneg, h1]
      rcases hs with rfl | ⟨rfl, _⟩
      · simp [sgnR, restR, stopR, hneg, h2, h3, h4]
      · simp [sgnR, restR, stopR, hneg]
  have hD : dR (s ++ tmL n k ++ rest) = if k = 0 ∨ n.natAbs ≠ 1 then ((n.natAbs : Int), (Lib.decDigits n.natAbs).length) else (0, 0) := by
    unfold dR
    rw [hmin.2.1]
    unfold bodyL
    split
    · rw [List.append_assoc, numR_dec _ _ _ (by omega), numR_stop hst, Nat.zero_add]
    · rw [numR_stop hst]
  have hB : bR (s ++ tmL n k ++ rest) = nmL k ++ rest := by
    unfold bR
    rw [hD, hmin.2.1]
    unfold bodyL
    split
    · rw [List.append_assoc]; exact List.drop_left
    · rfl
  refine ⟨by rw [hB]; exact hse.1, ?_, by unfold nextR; rw [hB]; exact hse.2, hmin.2.2⟩
  unfold vR nR
  rw [hD, hmin.1]
  have hpos := Lib.nDigits_pos n.natAbs
  rw [← Lib.decDigits_length] at hpos
  by_cases hneg : n < 0
  · rw [if_pos (decide_eq_true hneg)]
    by_cases h : k = 0 ∨ n.natAbs ≠ 1
    · rw [if_pos h]
      dsimp only
      rw [if_neg (by omega)]; omega
    · rw [if_neg h]
      dsimp only
      rw [if_pos rfl]; omega
  · rw [if_neg (by rw [decide_eq_true_eq]; exact hneg)]
    by_cases h : k = 0 ∨ n.natAbs ≠ 1
    · rw [if_pos h]
      dsimp only
      rw [if_neg (by omega)]; omega
    · rw [if_neg h]
      dsimp only
      rw [if_pos rfl]; omega
theorem tl_readR (rest : List UInt8) (hr : stopR rest = true) (l : List (Nat × Int)) : ∀ (f : Bool) (c : C4) (g : Nat), (tl f l ++ rest).length ≤ g → (∀ p ∈ l, p.1 ≤ 3 ∧ -1073741824 ≤ p.2 ∧ p.2 ≤ 1073741824) → rdR g (tl f l ++ rest) c = some (setAll c l, rest) := by
  induction l with
  | nil =>
    intro f c g hg _
    show rdR g rest c = _
    cases g with
    | zero => rfl
    | succ g => rw [rdR, if_pos hr]; rfl
  | cons p l ih =>
    intro f c g hg h
    have hp := h p (.head _)
    have hl : ∀ q ∈ l, q.1 ≤ 3 ∧ -1073741824 ≤ q.2 ∧ q.2 ≤ 1073741824 := fun q hq => h q (.tail _ hq)
    rw [tl, setAll]
    rw [tl] at hg
    by_cases h0 : p.2 = 0
    · rw [if_pos h0, if_pos h0]
      rw [if_pos h0] at hg
      exact ih f c g hg hl
    · rw [if_neg h0, if_neg h0]
      rw [if_neg h0] at hg
      have hs : sg f p.2 = [] ∨ (sg f p.2 = [43] ∧ 0 < p.2) := by
        unfold sg
        split
        · rename_i h1; exact .inr ⟨rfl, h1.1⟩
        · exact .inl rfl
      have hrest : stopR (tl false l ++ rest) = true ∨ ∃ t, tl false l ++ rest = 43 :: t ∨ tl false l ++ rest = 45 :: t := by
        rcases tl_false l with e | ⟨t, e | e⟩
        · rw [e]; exact .inl hr
        · rw [e]; exact .inr ⟨t ++ rest, .inl rfl⟩
        · rw [e]; exact .inr ⟨t ++ rest, .inr rfl⟩
      have h4 := term_readR (sg f p.2) p.2 p.1 (tl false l ++ rest) h0 hp.2 hp.1 hs hrest
      rw [← List.append_assoc] at h4
      obtain ⟨r1, r2, r3, r4⟩ := h4
      obtain ⟨c0, t0, he⟩ := tmL_cons p.2 p.1
      have hlen : (tl false l ++ rest).length < (sg f p.2 ++ tmL p.2 p.1 ++ tl false l ++ rest).length := by
        rw [he]
        simp only [List.length_append, List.length_cons]
        omega
      cases g with
      | zero => omega
      | succ g =>
        rw [rdR, if_neg (by rw [r4]; simp), r3, if_neg (by omega), r1, r2]
        exact ih false _ g (by omega) hl
def startR (s : List UInt8) : Nat := match s with
  | [] => 0
  | c :: _ => if c == 40 then 1 else 0
/-- What the reference reads. -/
def readingR (s : ByteArray) : Option (C4 × List UInt8) := rdR s.size (s.data.toList.drop (startR s.data.toList)) c40
def kR (l : List UInt8) : Int := if 2 < l.length then (numR (l.drop 3) 0 0).1 else 0
def xR (p : C4 × List UInt8) : Nm := ⟨p.1.A, p.1.B, p.1.C, p.1.D, kR p.2⟩
theorem terms_readR {x : Nm} (h : x.le 1073741824) (rest : List UInt8) (hr : stopR rest = true) (g : Nat) (hg : ((termsT x).data.toList ++ rest).length ≤ g) :
    rdR g ((termsT x).data.toList ++ rest) c40 = some (⟨x.A, x.B, x.C, x.D⟩, rest) := by
  have hh := tl_readR rest hr (pairs x) true c40 g
  rw [set_pairs] at hh
  unfold termsT at *
  rw [empty_list, textU_list] at *
  split
  · rename_i he
    have h0 := tl_empty _ _ (List.isEmpty_iff.1 he)
    have a := h0 (0, x.A) (.head _)
    have b := h0 (1, x.B) (.tail _ (.head _))
    have c := h0 (2, x.C) (.tail _ (.tail _ (.head _)))
    have d := h0 (3, x.D) (.tail _ (.tail _ (.tail _ (.head _))))
    dsimp only at a b c d
    rw [if_pos he] at hg
    rw [a, b, c, d]
    have e1 : ({ data := #[48] } : ByteArray).data.toList = [48] := rfl
    rw [e1] at hg ⊢
    have hD : dR (48 :: rest) = (0, 1) := by
      unfold dR
      have e2 : restR (48 :: rest) = 48 :: rest := by simp [restR]
      rw [e2, numR, if_pos (by decide), numR_stop (stop_stops hr)]
      rfl
    have hB : bR (48 :: rest) = rest := by
      unfold bR
      have e2 : restR (48 :: rest) = 48 :: rest := by simp [restR]
      rw [hD, e2]; rfl
    have hsel : selI rest = 0 ∧ selR rest = rest := by
      cases rest with
      | nil => decide
      | cons c0 t0 =>
        simp only [stopR, beq_iff_eq] at hr
        subst hr
        have e3 : ∀ p, List.isPrefixOf (119 :: p) (41 :: t0) = false := fun p => pre_no t0 p (by decide)
        simp [selI, selR, Lib.hasPrefix, Lib.trimPrefix, e3]
    have hv : vR (48 :: rest) = 0 := by
      unfold vR nR
      rw [hD]
      simp [sgnR]
    cases g with
    | zero => simp at hg
    | succ g =>
      show rdR (g + 1) (48 :: rest) c40 = _
      have hn : nextR (48 :: rest) = rest := by unfold nextR; rw [hB]; exact hsel.2
      rw [rdR, if_neg (by simp [stopR]), hn, if_neg (by simp), hB, hsel.1, hv]
      cases g with
      | zero => rfl
      | succ g => rw [rdR, if_pos hr]; rfl
  · rename_i he
    rw [if_neg he] at hg
    rw [textU_list] at hg ⊢
    exact hh hg (pairs_in h)
/-- The text of a number is read as this number. -/
theorem text_readR {s : ByteArray} {x : Nm} (h : IsText s x) : ∃ p, readingR s = some p ∧ xR p = x := by
  obtain ⟨h1, h2, rfl⟩ := h
  have hk := chk_in h1
  have hl : x.le 1073741824 := right_le h1
  have hn := noPar_terms x
  unfold readingR
  have hsz : (printT x).size = (printT x).data.toList.length := Lib.size_eq _
  rw [hsz, printT_list]
  by_cases h0 : x.K = 0
  · rw [if_pos h0]
    have hst : startR (termsT x).data.toList = 0 := by
      cases he : (termsT x).data.toList with
      | nil => rfl
      | cons c t =>
        have := (hn c (by rw [he]; exact .head _)).1
        simp [startR, this]
    rw [hst, List.drop_zero]
    have h3 := terms_readR hl [] rfl (termsT x).data.toList.length (by simp)
    rw [List.append_nil] at h3
    refine ⟨_, h3, ?_⟩
    exact Nm.ext5 rfl rfl rfl rfl h0.symm
  · rw [if_neg h0]
    have hst : startR (40 :: ((termsT x).data.toList ++ [41, 47, 114] ++ Lib.itoa x.K)) = 1 := rfl
    rw [hst]
    have e : List.drop 1 (40 :: ((termsT x).data.toList ++ [41, 47, 114] ++ Lib.itoa x.K)) = (termsT x).data.toList ++ (41 :: 47 :: 114 :: Lib.itoa x.K) := by simp
    rw [e]
    refine ⟨_, terms_readR hl _ rfl _ (by simp only [List.length_cons, List.length_append, List.length_nil]; omega), ?_⟩
    have ei : Lib.itoa x.K = Lib.decDigits x.K.natAbs := by rw [itoa_body, if_neg (by omega)]; rfl
    have hd := numR_dec x.K.natAbs [] 0 (by omega)
    rw [List.append_nil] at hd
    have hp := Lib.nDigits_pos x.K.natAbs
    rw [← Lib.decDigits_length] at hp
    have hkk : kR (41 :: 47 :: 114 :: Lib.itoa x.K) = x.K := by
      unfold kR
      rw [ei, if_pos (by simp only [List.length_cons]; omega)]
      show (numR (Lib.decDigits x.K.natAbs) 0 0).1 = _
      rw [hd]
      show ((x.K.natAbs : Nat) : Int) = _
      omega
    exact Nm.ext5 rfl rfl rfl rfl hkk
end Go.Proofs.YtcdmcndjbajhlaaGreatDoor
