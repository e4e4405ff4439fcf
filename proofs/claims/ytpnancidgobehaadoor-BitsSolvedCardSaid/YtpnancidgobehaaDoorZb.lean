/- Plain maths: rows that are independent, how many rows a span needs, and that the ranks of a span and of all that is orthogonal to it are together the number of columns. -/
import Derived.Test.YtpnancidgobehaaDoorZa
set_option linter.all false
set_option maxRecDepth 100000
namespace Go.Proofs.YtpnancidgobehaaDoor
theorem xor_cancel (r a : Nat) : r ^^^ (r ^^^ a) = a := by rw [← Nat.xor_assoc, Nat.xor_self, Nat.zero_xor]
theorem xor_lc (a b c : Nat) : a ^^^ (b ^^^ c) = b ^^^ (a ^^^ c) := by rw [← Nat.xor_assoc, Nat.xor_comm a b, Nat.xor_assoc]
/-- What rows span. -/
inductive InSp (l : List Nat) : Nat → Prop
  | zero : InSp l 0
  | add {x r : Nat} : InSp l x → r ∈ l → InSp l (x ^^^ r)
theorem InSp.xor {l : List Nat} {x y : Nat} (h : InSp l x) (k : InSp l y) : InSp l (x ^^^ y) := by
  induction k with
  | zero => simpa using h
  | add _ hr ih => rw [← Nat.xor_assoc]; exact ih.add hr
theorem InSp.of_mem {l : List Nat} {r : Nat} (h : r ∈ l) : InSp l r := by simpa using InSp.zero.add h
theorem InSp.sub {l m : List Nat} {x : Nat} (h : InSp l x) (hl : ∀ r ∈ l, InSp m r) : InSp m x := by
  induction h with
  | zero => exact .zero
  | add _ hr ih => exact ih.xor (hl _ hr)
theorem InSp.lt {l : List Nat} {x n : Nat} (h : InSp l x) (hl : ∀ r ∈ l, r < 2 ^ n) : x < 2 ^ n := by
  induction h with
  | zero => exact Nat.pow_pos (by omega)
  | add _ hr ih => exact Nat.xor_lt_two_pow ih (hl _ hr)
theorem InSp.iff {l m : List Nat} (h1 : ∀ r ∈ l, InSp m r) (h2 : ∀ r ∈ m, InSp l r) (x : Nat) : InSp l x ↔ InSp m x := ⟨fun h => h.sub h1, fun h => h.sub h2⟩
theorem bit_lt {x k : Nat} (h : x.testBit k = true) : 2 ^ k ≤ x := Nat.ge_two_pow_of_testBit h
theorem no_bit {x k n : Nat} (h : x < 2 ^ n) (hk : n ≤ k) : x.testBit k = false := Nat.testBit_lt_two_pow (Nat.lt_of_lt_of_le h (Nat.pow_le_pow_right (by omega) hk))
theorem top_bit {x : Nat} (h : x ≠ 0) : x.testBit x.log2 = true := Nat.testBit_log2 h
theorem top_lt (x : Nat) : x < 2 ^ (x.log2 + 1) := Nat.lt_log2_self
theorem bit_le {x k : Nat} (h : x.testBit k = true) : k ≤ x.log2 := by
  refine Nat.le_of_not_lt fun hk => ?_
  rw [no_bit (top_lt x) hk] at h
  exact absurd h (by decide)
theorem log_eq {x k : Nat} (h : x.testBit k = true) (h2 : x < 2 ^ (k + 1)) : x.log2 = k := by
  have h0 : x ≠ 0 := by intro h0; rw [h0] at h; simp at h
  have h1 := bit_le h
  refine Nat.le_antisymm (Nat.le_of_not_lt fun hk => ?_) h1
  have := top_bit h0
  rw [no_bit h2 hk] at this
  exact absurd this (by decide)
theorem log_lt {x n : Nat} (h0 : x ≠ 0) (h : x < 2 ^ n) : x.log2 < n := by
  refine Nat.lt_of_not_le fun hk => ?_
  have := top_bit h0
  rw [no_bit h hk] at this
  exact absurd this (by decide)
/-- Reduced rows. -/
structure Red (R : List Nat) : Prop where
  nz : ∀ r ∈ R, r ≠ 0
  fall : R.Pairwise fun a b => b.log2 < a.log2
  alone : ∀ a ∈ R, ∀ b ∈ R, b.testBit a.log2 = true → a = b
theorem Red.tail {r : Nat} {R : List Nat} (h : Red (r :: R)) : Red R := ⟨fun x hx => h.nz x (by simp [hx]), (List.pairwise_cons.1 h.fall).2, fun a ha b hb => h.alone a (by simp [ha]) b (by simp [hb])⟩
def comb : List Nat → Nat → Nat
  | [], _ => 0
  | r :: R, x => (if x.testBit r.log2 then r else 0) ^^^ comb R x
theorem comb_zero (R : List Nat) : comb R 0 = 0 := by induction R with | nil => rfl | cons r R ih => simp [comb, ih]
theorem comb_xor (R : List Nat) (x y : Nat) : comb R (x ^^^ y) = comb R x ^^^ comb R y := by
  induction R with
  | nil => simp [comb]
  | cons r R ih =>
    unfold comb
    rw [ih, Nat.testBit_xor]
    cases x.testBit r.log2 <;> cases y.testBit r.log2 <;> simp [Nat.xor_assoc, xor_lc r, xor_cancel]
theorem comb_none {R : List Nat} {x : Nat} (h : ∀ r ∈ R, x.testBit r.log2 = false) : comb R x = 0 := by
  induction R with
  | nil => rfl
  | cons r R ih => unfold comb; rw [h r (by simp), ih fun r hr => h r (by simp [hr])]; simp
theorem comb_own {R : List Nat} {x : Nat} (hf : R.Pairwise fun a b => b.log2 < a.log2) (hx : x ≠ 0) (hm : x ∈ R) (h : ∀ a ∈ R, x.testBit a.log2 = true → a = x) : comb R x = x := by
  induction R with
  | nil => simp at hm
  | cons r R ih =>
    obtain ⟨h1, h2⟩ := List.pairwise_cons.1 hf
    unfold comb
    rcases List.mem_cons.1 hm with rfl | hm'
    · rw [top_bit hx, comb_none]
      · simp
      · intro a ha
        cases hb : x.testBit a.log2
        · rfl
        · have := h a (by simp [ha]) hb
          have h3 := h1 a ha
          rw [this] at h3
          omega
    · have hr : x.testBit r.log2 = false := by
        cases hb : x.testBit r.log2
        · rfl
        · have := h r (by simp) hb
          have h3 := h1 x hm'
          rw [this] at h3
          omega
      rw [hr, ih h2 hm' fun a ha => h a (by simp [ha])]
      simp
theorem Red.comb {R : List Nat} (h : Red R) {x : Nat} (hx : InSp R x) : comb R x = x := by
  induction hx with
  | zero => exact comb_zero R
  | add _ hr ih =>
    rename_i x r _
    rw [comb_xor, ih, comb_own h.fall (h.nz r hr) hr fun a ha hb => h.alone a ha r hr hb]
theorem Red.zero {R : List Nat} (h : Red R) {x : Nat} (hx : InSp R x) (hn : ∀ r ∈ R, x.testBit r.log2 = false) : x = 0 := by
  rw [← h.comb hx, comb_none hn]
theorem comb_lt {R : List Nat} {x n : Nat} (h : ∀ r ∈ R, x.testBit r.log2 = true → r < 2 ^ n) : Go.Proofs.YtpnancidgobehaaDoor.comb R x < 2 ^ n := by
  induction R with
  | nil => exact Nat.pow_pos (by omega)
  | cons r R ih =>
    unfold Go.Proofs.YtpnancidgobehaaDoor.comb
    refine Nat.xor_lt_two_pow ?_ (ih fun r hr => h r (by simp [hr]))
    split
    · rename_i hb; exact h r (by simp) hb
    · exact Nat.pow_pos (by omega)
theorem Red.lead {R : List Nat} (h : Red R) {x : Nat} (hx : InSp R x) (h0 : x ≠ 0) : ∃ r ∈ R, r.log2 = x.log2 := by
  refine Classical.byContradiction fun hn => ?_
  have hn : ∀ r ∈ R, r.log2 ≠ x.log2 := fun r hr he => hn ⟨r, hr, he⟩
  have h1 : Go.Proofs.YtpnancidgobehaaDoor.comb R x < 2 ^ x.log2 := comb_lt fun r hr hb => by
    have h1 := bit_le hb
    have h2 := hn r hr
    exact Nat.lt_of_lt_of_le (top_lt r) (Nat.pow_le_pow_right (by omega) (by omega))
  rw [h.comb hx] at h1
  have := bit_lt (top_bit h0)
  omega
theorem sorted_ext : ∀ {R S : List Nat}, R.Pairwise (fun a b => b.log2 < a.log2) → S.Pairwise (fun a b => b.log2 < a.log2) → (∀ x, x ∈ R ↔ x ∈ S) → R = S
  | [], [], _, _, _ => rfl
  | [], s :: S, _, _, h => by have := (h s).2 (by simp); simp at this
  | r :: R, [], _, _, h => by have := (h r).1 (by simp); simp at this
  | r :: R, s :: S, hR, hS, h => by
    obtain ⟨r1, r2⟩ := List.pairwise_cons.1 hR
    obtain ⟨s1, s2⟩ := List.pairwise_cons.1 hS
    have e : r = s := by
      rcases List.mem_cons.1 ((h r).1 (by simp)) with e | e
      · exact e
      · rcases List.mem_cons.1 ((h s).2 (by simp)) with e2 | e2
        · exact e2.symm
        · have := r1 s e2; have := s1 r e; omega
    subst e
    rw [sorted_ext r2 s2 fun x => ?_]
    constructor
    · intro hx
      rcases List.mem_cons.1 ((h x).1 (by simp [hx])) with e | e
      · have := r1 x hx; rw [e] at this; omega
      · exact e
    · intro hx
      rcases List.mem_cons.1 ((h x).2 (by simp [hx])) with e | e
      · have := s1 x hx; rw [e] at this; omega
      · exact e
theorem Red.mem_of {R S : List Nat} (hR : Red R) (hS : Red S) (h : ∀ x, InSp R x ↔ InSp S x) {r : Nat} (hr : r ∈ R) : r ∈ S := by
  have h0 := hR.nz r hr
  obtain ⟨s, hs, he⟩ := hS.lead ((h r).1 (InSp.of_mem hr)) h0
  have hd : InSp R (r ^^^ s) := (InSp.of_mem hr).xor ((h s).2 (InSp.of_mem hs))
  have hz : r ^^^ s = 0 := by
    refine Classical.byContradiction fun hn => ?_
    obtain ⟨a, ha, hla⟩ := hR.lead hd hn
    obtain ⟨b, hb, hlb⟩ := hS.lead ((h _).1 hd) hn
    have ht := top_bit hn
    rw [Nat.testBit_xor] at ht
    have hne : r.log2 ≠ (r ^^^ s).log2 := by
      intro e
      rw [← e, top_bit h0, he.symm, top_bit (hS.nz s hs)] at ht
      exact absurd ht (by decide)
    cases hr2 : r.testBit (r ^^^ s).log2
    · rw [hr2, Bool.false_xor] at ht
      rw [← hlb] at ht
      have := hS.alone b hb s hs ht
      rw [this, he] at hlb
      exact hne hlb
    · rw [← hla] at hr2
      have := hR.alone a ha r hr hr2
      rw [this] at hla
      exact hne hla
  have : r = s := by
    have h2 : r ^^^ s ^^^ s = s := by rw [hz, Nat.zero_xor]
    rwa [Nat.xor_assoc, Nat.xor_self, Nat.xor_zero] at h2
  rw [this]; exact hs
theorem Red.unique {R S : List Nat} (hR : Red R) (hS : Red S) (h : ∀ x, InSp R x ↔ InSp S x) : R = S :=
  sorted_ext hR.fall hS.fall fun _ => ⟨fun hx => hR.mem_of hS h hx, fun hx => hS.mem_of hR (fun x => (h x).symm) hx⟩
/-- The sum of the rows whose numbers, from i on, are bits of y. -/
def totF : List Nat → Nat → Nat → Nat
  | [], _, _ => 0
  | r :: l, i, y => (if y.testBit i then r else 0) ^^^ totF l (i + 1) y
theorem totF_zero (l : List Nat) (i : Nat) : totF l i 0 = 0 := by induction l generalizing i with | nil => rfl | cons r l ih => simp [totF, ih]
theorem totF_xor (l : List Nat) (i x y : Nat) : totF l i (x ^^^ y) = totF l i x ^^^ totF l i y := by
  induction l generalizing i with
  | nil => simp [totF]
  | cons r l ih =>
    unfold totF
    rw [ih, Nat.testBit_xor]
    cases x.testBit i <;> cases y.testBit i <;> simp [Nat.xor_assoc, xor_lc r, xor_cancel]
theorem totF_none {l : List Nat} {i y : Nat} (h : ∀ k, i ≤ k → k < i + l.length → y.testBit k = false) : totF l i y = 0 := by
  induction l generalizing i with
  | nil => rfl
  | cons r l ih =>
    unfold totF
    rw [h i (by omega) (by simp), ih fun k h1 h2 => h k (by omega) (by simp; omega)]
    simp
theorem totF_append (l m : List Nat) (i y : Nat) : totF (l ++ m) i y = totF l i y ^^^ totF m (i + l.length) y := by
  induction l generalizing i with
  | nil => simp [totF]
  | cons r l ih => simp only [List.cons_append, totF, ih, List.length_cons, Nat.xor_assoc, Nat.add_assoc, Nat.add_comm 1]
abbrev tot (l : List Nat) (y : Nat) : Nat := totF l 0 y
theorem tot_snoc (l : List Nat) (r y : Nat) : tot (l ++ [r]) y = tot l y ^^^ (if y.testBit l.length then r else 0) := by
  unfold tot; rw [totF_append]; simp [totF]
theorem tot_low {l : List Nat} (r : Nat) {y : Nat} (h : y < 2 ^ l.length) : tot (l ++ [r]) y = tot l y := by
  rw [tot_snoc, no_bit h (Nat.le_refl _)]; simp
theorem tot_pow (l : List Nat) (r : Nat) : tot (l ++ [r]) (2 ^ l.length) = r := by
  have h1 : tot l (2 ^ l.length) = 0 := totF_none fun k _ hk => by rw [Nat.testBit_two_pow]; simp; omega
  rw [tot_snoc, h1, Nat.testBit_two_pow]
  simp
theorem totF_in {l : List Nat} {m : List Nat} (h : ∀ r ∈ l, InSp m r) (i y : Nat) : InSp m (totF l i y) := by
  induction l generalizing i with
  | nil => exact .zero
  | cons r l ih =>
    unfold totF
    refine InSp.xor ?_ (ih (fun r hr => h r (by simp [hr])) (i + 1))
    split
    · exact h r (by simp)
    · exact .zero
theorem tot_in (l : List Nat) (y : Nat) : InSp l (tot l y) := totF_in (fun _ hr => InSp.of_mem hr) 0 y
theorem totF_bit {l : List Nat} {i k r : Nat} (h : l[k]? = some r) : totF l i (2 ^ (i + k)) = r := by
  induction l generalizing i k with
  | nil => simp at h
  | cons a l ih =>
    unfold totF
    match k, h with
    | 0, h =>
      simp at h; subst h
      rw [Nat.testBit_two_pow, totF_none]
      · simp
      · intro k h1 h2; rw [Nat.testBit_two_pow]; simp; omega
    | k + 1, h =>
      have := ih (i := i + 1) (k := k) (by simpa using h)
      rw [show i + (k + 1) = i + 1 + k by omega, this, Nat.testBit_two_pow]
      have : ¬ (i + 1 + k = i) := by omega
      simp [this]
theorem in_tot {l : List Nat} {x : Nat} (h : InSp l x) : ∃ y, y < 2 ^ l.length ∧ tot l y = x := by
  induction h with
  | zero => exact ⟨0, Nat.pow_pos (by omega), totF_zero _ _⟩
  | add _ hr ih =>
    rename_i x r _
    obtain ⟨y, hy, rfl⟩ := ih
    obtain ⟨k, hk⟩ := List.mem_iff_getElem?.1 hr
    have hkl : k < l.length := (List.getElem?_eq_some_iff.1 hk).1
    refine ⟨y ^^^ 2 ^ k, Nat.xor_lt_two_pow hy (Nat.pow_lt_pow_right (by omega) hkl), ?_⟩
    have := totF_bit (i := 0) hk
    rw [Nat.zero_add] at this
    unfold tot
    rw [totF_xor, this]
end Go.Proofs.YtpnancidgobehaaDoor
namespace Go.Proofs.YtpnancidgobehaaDoor
theorem rowAt_none {A : List Sm} {k : Nat} (h : A.length ≤ k) : rowAt A k = sm0 := by
  unfold rowAt; rw [List.getD_eq_getElem?_getD, List.getElem?_eq_none h]; rfl
theorem rowAt_mem {A : List Sm} {k : Nat} (h : k < A.length) : rowAt A k ∈ A := by
  unfold rowAt; rw [List.getD_eq_getElem?_getD, List.getElem?_eq_getElem h]; exact List.getElem_mem h
theorem mem_rowAt {A : List Sm} {y : Sm} (h : y ∈ A) : ∃ k, k < A.length ∧ rowAt A k = y := by
  obtain ⟨k, hk, rfl⟩ := List.mem_iff_getElem.1 h
  exact ⟨k, hk, by unfold rowAt; rw [List.getD_eq_getElem?_getD, List.getElem?_eq_getElem hk]; rfl⟩
theorem restM_ind {A : List Sm} (P : Sm → Prop) (hP : ∀ k y, P y → P (y.plus (rowAt A k))) : ∀ (n k : Nat) (x : Sm), P x → P (restM A n k x)
  | 0, _, _, h => h
  | n + 1, k, x, h => by
    unfold restM
    refine restM_ind P hP n (k + 1) _ ?_
    split
    · exact hP _ _ h
    · exact h
/-- Each row is nothing, or led by its own column; a lead stands in its own row alone. -/
structure Led (A : List Sm) : Prop where
  len : A.length = 24
  shape : ∀ k, rowAt A k = sm0 ∨ ((rowAt A k).row.testBit k = true ∧ (rowAt A k).row < 2 ^ (k + 1))
  alone : ∀ j k, rowAt A k ≠ sm0 → j ≠ k → (rowAt A j).row.testBit k = false
theorem Led.nz {A : List Sm} (h : Led A) {k : Nat} (hk : (rowAt A k).row = 0) : rowAt A k = sm0 := by
  rcases h.shape k with h | ⟨h, _⟩
  · exact h
  · rw [hk] at h; simp at h
theorem Led.bit {A : List Sm} (h : Led A) {k : Nat} (hk : rowAt A k ≠ sm0) : (rowAt A k).row.testBit k = true ∧ (rowAt A k).row < 2 ^ (k + 1) := (h.shape k).resolve_left hk
theorem restM_clear {A : List Sm} (h : Led A) : ∀ (n k : Nat) (x : Sm), n + k = 24 → (∀ j, j < k → rowAt A j ≠ sm0 → x.row.testBit j = false) → ∀ j, rowAt A j ≠ sm0 → (restM A n k x).row.testBit j = false
  | 0, k, x, hn, hx => fun j hj => hx j (Nat.lt_of_not_le fun hk => hj (rowAt_none (by have := h.len; omega))) hj
  | n + 1, k, x, hn, hx => by
    unfold restM
    refine restM_clear h n (k + 1) _ (by omega) ?_
    intro j hj h0
    split
    · rename_i hb
      show (x.row ^^^ (rowAt A k).row).testBit j = false
      rw [Nat.testBit_xor]
      by_cases hjk : j = k
      · subst hjk
        rw [hb, (h.bit h0).1]; rfl
      · rw [hx j (by omega) h0, h.alone k j h0 (fun e => hjk e.symm)]; rfl
    · rename_i hb
      by_cases hjk : j = k
      · subst hjk; simpa using hb
      · exact hx j (by omega) h0
def rowsM (A : List Sm) : List Nat := A.map Sm.row
theorem in_rows {A : List Sm} (k : Nat) : InSp (rowsM A) (rowAt A k).row := by
  by_cases h : k < A.length
  · exact .of_mem (List.mem_map.2 ⟨_, rowAt_mem h, rfl⟩)
  · rw [rowAt_none (by omega)]; exact .zero
theorem mem_reduced {A : List Sm} {x : Nat} : x ∈ reducedM A ↔ ∃ k, k < A.length ∧ rowAt A k ≠ sm0 ∧ (rowAt A k).row = x := by
  unfold reducedM
  simp only [List.mem_reverse, List.mem_map, List.mem_filter, decide_eq_true_eq]
  constructor
  · rintro ⟨y, ⟨hy, hn⟩, rfl⟩
    obtain ⟨k, hk, rfl⟩ := mem_rowAt hy
    exact ⟨k, hk, hn, rfl⟩
  · rintro ⟨k, hk, hn, rfl⟩
    exact ⟨_, ⟨rowAt_mem hk, hn⟩, rfl⟩
theorem Led.log {A : List Sm} (h : Led A) {k : Nat} (hk : rowAt A k ≠ sm0) : (rowAt A k).row.log2 = k := log_eq (h.bit hk).1 (h.bit hk).2
theorem Led.red {A : List Sm} (h : Led A) : Red (reducedM A) := by
  refine ⟨?_, ?_, ?_⟩
  · intro r hr h0
    obtain ⟨k, _, hk, rfl⟩ := mem_reduced.1 hr
    exact hk (h.nz h0)
  · unfold reducedM
    rw [List.pairwise_reverse, List.pairwise_map, List.pairwise_filter]
    rw [List.pairwise_iff_getElem]
    intro i j hi hj hij h1 h2
    have e : ∀ k (hk : k < A.length), A[k] = rowAt A k := fun k hk => by unfold rowAt; rw [List.getD_eq_getElem?_getD, List.getElem?_eq_getElem hk]; rfl
    rw [e i hi] at h1 ⊢
    rw [e j hj] at h2 ⊢
    rw [h.log (by simpa using h1), h.log (by simpa using h2)]
    exact hij
  · intro a ha b hb ht
    obtain ⟨i, _, hi, rfl⟩ := mem_reduced.1 ha
    obtain ⟨j, _, hj, rfl⟩ := mem_reduced.1 hb
    rw [h.log hi] at ht
    by_cases e : j = i
    · rw [e]
    · rw [h.alone j i hi e] at ht; exact absurd ht (by decide)
theorem reduced_span {A : List Sm} (h : Led A) (x : Nat) : InSp (reducedM A) x ↔ InSp (rowsM A) x := by
  refine InSp.iff ?_ ?_ x
  · intro r hr
    obtain ⟨k, hk, _, rfl⟩ := mem_reduced.1 hr
    exact in_rows k
  · intro r hr
    obtain ⟨y, hy, rfl⟩ := List.mem_map.1 hr
    obtain ⟨k, hk, rfl⟩ := mem_rowAt hy
    by_cases h0 : rowAt A k = sm0
    · rw [h0]; exact .zero
    · exact .of_mem (mem_reduced.2 ⟨k, hk, h0, rfl⟩)
theorem Led.zero {A : List Sm} (h : Led A) {x : Nat} (hx : InSp (rowsM A) x) (hn : ∀ k, rowAt A k ≠ sm0 → x.testBit k = false) : x = 0 := by
  refine h.red.zero ((reduced_span h x).2 hx) fun r hr => ?_
  obtain ⟨k, _, hk, rfl⟩ := mem_reduced.1 hr
  rw [h.log hk]
  exact hn k hk
theorem leadM_some {r k : Nat} : ∀ {n : Nat}, leadM r n = some k → r.testBit k = true ∧ ∀ j, k < j → j < n → r.testBit j = false
  | 0, h => by simp [leadM] at h
  | n + 1, h => by
    unfold leadM at h
    split at h
    · rename_i hb; injection h with h; subst h; exact ⟨hb, fun j h1 h2 => by omega⟩
    · rename_i hb
      obtain ⟨h1, h2⟩ := leadM_some h
      exact ⟨h1, fun j h3 h4 => if e : j = n then by rw [e]; simpa using hb else h2 j h3 (by omega)⟩
theorem leadM_none {r : Nat} : ∀ {n : Nat}, leadM r n = none → ∀ j, j < n → r.testBit j = false
  | 0, _, j, h => by omega
  | n + 1, h, j, hj => by
    unfold leadM at h
    split at h
    · exact absurd h (by simp)
    · rename_i hb
      by_cases e : j = n
      · rw [e]; simpa using hb
      · exact leadM_none h j (by omega)
theorem lt_of_bits {r k : Nat} (n : Nat) (h : r < 2 ^ n) (hb : ∀ j, k ≤ j → j < n → r.testBit j = false) : r < 2 ^ k := by
  refine Nat.lt_pow_two_of_testBit r fun j hj => ?_
  by_cases e : j < n
  · exact hb j hj e
  · exact no_bit h (by omega)
theorem rowAt_bring {A : List Sm} (hA : A.length = 24) (x : Sm) {k : Nat} (hk : k < 24) (j : Nat) : rowAt (bringM A x k) j = if j = k then x else bring1 x k (rowAt A j) := by
  unfold bringM rowAt
  rw [List.getD_eq_getElem?_getD, List.getElem?_set]
  by_cases e : k = j
  · subst e
    simp [hA, hk]
  · rw [if_neg e, if_neg (fun h => e h.symm), List.getElem?_map, List.getD_eq_getElem?_getD]
    cases A[j]? with
    | none => simp [bring1, sm0]
    | some y => rfl
/-- What holds of a span at work behind the rows d. -/
structure Inv (d : List Nat) (S : Sys) : Prop where
  led : Led S.at_
  small : Small S.at_
  tot : ∀ k, tot d (rowAt S.at_ k).of = (rowAt S.at_ k).row ∧ (rowAt S.at_ k).of < 2 ^ d.length
  span : ∀ x, InSp d x ↔ InSp (rowsM S.at_) x
  relT : ∀ r ∈ S.rel, Go.Proofs.YtpnancidgobehaaDoor.tot d r = 0 ∧ r < 2 ^ d.length ∧ r ≠ 0
  relK : ∀ y, y < 2 ^ d.length → Go.Proofs.YtpnancidgobehaaDoor.tot d y = 0 → InSp S.rel y
  relA : ∀ a ∈ S.rel, ∀ b ∈ S.rel, b.testBit a.log2 = true → a = b
  relP : S.rel.Pairwise fun a b => a.log2 < b.log2
  ofA : ∀ k, ∀ r ∈ S.rel, (rowAt S.at_ k).of.testBit r.log2 = false
  cnt : (reducedM S.at_).length + S.rel.length = d.length
theorem inv_start : Inv [] ⟨List.replicate 24 sm0, []⟩ := by
  have h0 : ∀ k, rowAt (List.replicate 24 sm0) k = sm0 := fun k => by
    unfold rowAt
    rw [List.getD_eq_getElem?_getD, List.getElem?_replicate]
    split <;> rfl
  refine ⟨⟨by simp, fun k => .inl (h0 k), fun j k h => absurd (h0 k) h⟩, start_ok.1, fun k => by simp only [h0]; exact ⟨rfl, by decide⟩, ?_, by simp, ?_, by simp, by simp, by simp, by decide⟩
  · refine InSp.iff (by simp) ?_
    intro r hr
    simp [rowsM] at hr
    rw [hr]; exact .zero
  · intro y hy _
    simp at hy; subst hy; exact .zero
theorem pow_ne {a b : Nat} (h : a < b) : (2 ^ b).testBit a = false := by rw [Nat.testBit_two_pow]; simp; omega
theorem filter_set_len {α : Type} (p : α → Bool) : ∀ (l : List α) (k : Nat) (x y : α), l[k]? = some y → p y = false → p x = true → ((l.set k x).filter p).length = (l.filter p).length + 1
  | [], k, x, y, h, _, _ => by simp at h
  | a :: l, 0, x, y, h, h1, h2 => by simp at h; subst h; simp [List.filter, h1, h2]
  | a :: l, k + 1, x, y, h, h1, h2 => by
    have := filter_set_len p l k x y (by simpa using h) h1 h2
    simp only [List.set_cons_succ, List.filter_cons]
    split <;> simp [this]
theorem inv_step {d : List Nat} {S : Sys} (h : Inv d S) {r : Nat} (hr : r < R24) (hd : d.length < 40) : Inv (d ++ [r]) (stepM S d.length r) := by
  have hlen : (d ++ [r]).length = d.length + 1 := by simp
  have hp40 : 2 ^ d.length < O40 := by
    have : 2 ^ d.length < 2 ^ 40 := Nat.pow_lt_pow_right (by omega) hd
    simpa [O40] using this
  have hlt : ∀ {a : Nat}, a < 2 ^ d.length → a < 2 ^ (d.length + 1) := fun ha => Nat.lt_of_lt_of_le ha (Nat.pow_le_pow_right (by omega) (by omega))
  have htl : ∀ {y}, y < 2 ^ d.length → Go.Proofs.YtpnancidgobehaaDoor.tot (d ++ [r]) y = Go.Proofs.YtpnancidgobehaaDoor.tot d y := fun hy => tot_low r hy
  -- what is left of the row
  obtain ⟨y, hy⟩ : ∃ y, restM S.at_ 24 0 ⟨r, 2 ^ d.length⟩ = y := ⟨_, rfl⟩
  have hyok : y.ok := by rw [← hy]; exact restM_ok h.small _ _ _ ⟨hr, hp40⟩
  have hP : (Go.Proofs.YtpnancidgobehaaDoor.tot (d ++ [r]) y.of = y.row ∧ y.of < 2 ^ (d.length + 1) ∧ y.of.testBit d.length = true) ∧ InSp (rowsM S.at_) (r ^^^ y.row) ∧ ∀ q ∈ S.rel, y.of.testBit q.log2 = false := by
    rw [← hy]
    refine restM_ind (P := fun y => (Go.Proofs.YtpnancidgobehaaDoor.tot (d ++ [r]) y.of = y.row ∧ y.of < 2 ^ (d.length + 1) ∧ y.of.testBit d.length = true) ∧ InSp (rowsM S.at_) (r ^^^ y.row) ∧ ∀ q ∈ S.rel, y.of.testBit q.log2 = false) ?_ _ _ _ ?_
    · rintro k y ⟨⟨h1, h2, h3⟩, h4, h5⟩
      obtain ⟨t1, t2⟩ := h.tot k
      refine ⟨⟨?_, Nat.xor_lt_two_pow h2 (hlt t2), ?_⟩, ?_, ?_⟩
      · show totF (d ++ [r]) 0 (y.of ^^^ _) = y.row ^^^ _
        rw [totF_xor]
        unfold Go.Proofs.YtpnancidgobehaaDoor.tot at h1 t1 htl
        rw [h1, htl t2, t1]
      · show (y.of ^^^ _).testBit _ = true
        rw [Nat.testBit_xor, h3, no_bit t2 (Nat.le_refl _)]; rfl
      · show InSp _ (r ^^^ (y.row ^^^ _))
        rw [← Nat.xor_assoc]
        exact h4.xor (in_rows k)
      · intro q hq
        show (y.of ^^^ _).testBit _ = false
        rw [Nat.testBit_xor, h5 q hq, h.ofA k q hq]; rfl
    · refine ⟨⟨tot_pow d r, Nat.pow_lt_pow_right (by omega) (by omega), by rw [Nat.testBit_two_pow]; simp⟩, ?_, ?_⟩
      · show InSp _ (r ^^^ r)
        rw [Nat.xor_self]; exact .zero
      · intro q hq
        obtain ⟨_, h2, h3⟩ := h.relT q hq
        exact pow_ne (log_lt h3 h2)
  obtain ⟨⟨y1, y2, y3⟩, y4, y5⟩ := hP
  have hclear : ∀ j, rowAt S.at_ j ≠ sm0 → y.row.testBit j = false := by
    rw [← hy]
    exact restM_clear h.led 24 0 _ rfl (fun j hj => by omega)
  have hrow24 : y.row < 2 ^ 24 := by have := hyok.1; simpa [R24] using this
  unfold stepM
  rw [hy]
  cases hl : leadM y.row 24 with
  | some k =>
    dsimp only
    have hk := leadM_lt hl
    obtain ⟨b1, b2⟩ := leadM_some hl
    have b3 : y.row < 2 ^ (k + 1) := lt_of_bits 24 hrow24 fun j h1 h2 => b2 j (by omega) h2
    have hk0 : rowAt S.at_ k = sm0 := Classical.byContradiction fun hn => by
      rw [hclear k hn] at b1; exact absurd b1 (by decide)
    have hR := rowAt_bring h.led.len y hk
    have hy0 : y ≠ sm0 := by intro e; rw [e] at b1; simp [sm0] at b1
    have hB0 : ∀ j, j ≠ k → (rowAt (bringM S.at_ y k) j = sm0 ↔ rowAt S.at_ j = sm0) := by
      intro j hj
      rw [hR, if_neg hj]
      constructor
      · intro e
        refine Classical.byContradiction fun hn => ?_
        obtain ⟨c1, _⟩ := h.led.bit hn
        have : (bring1 y k (rowAt S.at_ j)).row.testBit j = true := by
          unfold bring1
          split
          · show (_ ^^^ y.row).testBit j = true
            rw [Nat.testBit_xor, c1, hclear j hn]; rfl
          · exact c1
        rw [e] at this
        simp [sm0] at this
      · intro e
        rw [e]; simp [bring1, sm0]
    have hled : Led (bringM S.at_ y k) := by
      refine ⟨(bringM_small h.small hyok k).1, ?_, ?_⟩
      · intro j
        by_cases hj : j = k
        · right; rw [hR, if_pos hj, hj]; exact ⟨b1, b3⟩
        · by_cases h0 : rowAt S.at_ j = sm0
          · exact .inl ((hB0 j hj).2 h0)
          · right
            obtain ⟨c1, c2⟩ := h.led.bit h0
            rw [hR, if_neg hj]
            unfold bring1
            split
            · rename_i hb
              have hkj : k < j := by
                refine Nat.lt_of_not_le fun hle => ?_
                rw [no_bit c2 (by omega)] at hb; exact absurd hb (by decide)
              refine ⟨?_, Nat.xor_lt_two_pow c2 (Nat.lt_of_lt_of_le b3 (Nat.pow_le_pow_right (by omega) (by omega)))⟩
              show (_ ^^^ y.row).testBit j = true
              rw [Nat.testBit_xor, c1, hclear j h0]; rfl
            · exact ⟨c1, c2⟩
      · intro j i hi hji
        by_cases hik : i = k
        · subst hik
          rw [hR, if_neg hji]
          unfold bring1
          split
          · rename_i hb
            show (_ ^^^ y.row).testBit i = false
            rw [Nat.testBit_xor, hb, b1]; rfl
          · rename_i hb; simpa using hb
        · have hi0 : rowAt S.at_ i ≠ sm0 := fun e => hi ((hB0 i hik).2 e)
          rw [hR]
          split
          · exact hclear i hi0
          · unfold bring1
            split
            · show (_ ^^^ y.row).testBit i = false
              rw [Nat.testBit_xor, h.led.alone j i hi0 hji, hclear i hi0]; rfl
            · exact h.led.alone j i hi0 hji
    have htot : ∀ j, Go.Proofs.YtpnancidgobehaaDoor.tot (d ++ [r]) (rowAt (bringM S.at_ y k) j).of = (rowAt (bringM S.at_ y k) j).row ∧ (rowAt (bringM S.at_ y k) j).of < 2 ^ (d.length + 1) := by
      intro j
      rw [hR]
      obtain ⟨t1, t2⟩ := h.tot j
      split
      · exact ⟨y1, y2⟩
      · unfold bring1
        split
        · refine ⟨?_, Nat.xor_lt_two_pow (hlt t2) y2⟩
          show totF (d ++ [r]) 0 (_ ^^^ y.of) = _ ^^^ y.row
          rw [totF_xor]
          unfold Go.Proofs.YtpnancidgobehaaDoor.tot at y1 t1 htl
          rw [y1, htl t2, t1]
        · exact ⟨(htl t2).trans t1, hlt t2⟩
    have hyin : InSp (rowsM (bringM S.at_ y k)) y.row := by
      have := in_rows (A := bringM S.at_ y k) k
      rwa [hR, if_pos rfl] at this
    have hold : ∀ j, InSp (rowsM (bringM S.at_ y k)) (rowAt S.at_ j).row := by
      intro j
      by_cases hj : j = k
      · rw [hj, hk0]; exact .zero
      · have := in_rows (A := bringM S.at_ y k) j
        rw [hR, if_neg hj] at this
        unfold bring1 at this
        split at this
        · have h2 := this.xor hyin
          have e : (Sm.plus (rowAt S.at_ j) y).row ^^^ y.row = (rowAt S.at_ j).row := by
            show _ ^^^ y.row ^^^ y.row = _
            rw [Nat.xor_assoc, Nat.xor_self, Nat.xor_zero]
          rwa [e] at h2
        · exact this
    have hoA : ∀ x, InSp (rowsM S.at_) x → InSp (rowsM (bringM S.at_ y k)) x := fun x hx => hx.sub fun q hq => by
      obtain ⟨z, hz, rfl⟩ := List.mem_map.1 hq
      obtain ⟨j, _, rfl⟩ := mem_rowAt hz
      exact hold j
    refine ⟨hled, bringM_small h.small hyok k, fun j => by rw [hlen]; exact htot j, ?_, ?_, ?_, h.relA, h.relP, ?_, ?_⟩
    · refine InSp.iff ?_ ?_
      · intro q hq
        rcases List.mem_append.1 hq with hq | hq
        · exact hoA q ((h.span q).1 (.of_mem hq))
        · simp at hq; subst hq
          have := (hoA _ y4).xor hyin
          rwa [Nat.xor_assoc, Nat.xor_self, Nat.xor_zero] at this
      · intro q hq
        obtain ⟨z, hz, rfl⟩ := List.mem_map.1 hq
        obtain ⟨j, _, rfl⟩ := mem_rowAt hz
        rw [← (htot j).1]
        exact tot_in _ _
    · intro q hq
      obtain ⟨r1, r2, r3⟩ := h.relT q hq
      exact ⟨by rw [htl r2]; exact r1, by rw [hlen]; exact hlt r2, r3⟩
    · intro z hz hz0
      rw [hlen] at hz
      cases hb : z.testBit d.length
      · have hz2 : z < 2 ^ d.length := lt_of_bits (d.length + 1) hz fun j h1 h2 => by rw [show j = d.length by omega]; exact hb
        exact h.relK z hz2 (by rw [← htl hz2]; exact hz0)
      · exfalso
        have hz1 : Go.Proofs.YtpnancidgobehaaDoor.tot d z = r := by
          rw [tot_snoc, hb] at hz0
          have h2 : Go.Proofs.YtpnancidgobehaaDoor.tot d z ^^^ r ^^^ r = r := by
            simp only [if_true] at hz0
            rw [hz0, Nat.zero_xor]
          rwa [Nat.xor_assoc, Nat.xor_self, Nat.xor_zero] at h2
        have hin : InSp (rowsM S.at_) y.row := by
          have h1 : InSp (rowsM S.at_) r := (h.span r).1 (by rw [← hz1]; exact tot_in _ _)
          have := h1.xor y4
          rwa [xor_cancel] at this
        have := h.led.zero hin hclear
        rw [this] at b1
        simp at b1
    · intro j q hq
      rw [hR]
      split
      · exact y5 q hq
      · unfold bring1
        split
        · show (_ ^^^ y.of).testBit _ = false
          rw [Nat.testBit_xor, h.ofA j q hq, y5 q hq]; rfl
        · exact h.ofA j q hq
    · have hc := h.cnt
      have e : (reducedM (bringM S.at_ y k)).length = (reducedM S.at_).length + 1 := by
        unfold reducedM bringM
        simp only [List.length_reverse, List.length_map]
        have hmk : (S.at_.map (bring1 y k))[k]? = some sm0 := by
          have : S.at_[k]? = some sm0 := by rw [h.small.get hk, hk0]
          rw [List.getElem?_map, this]
          simp [bring1, sm0]
        rw [filter_set_len _ _ _ _ _ hmk (by simp) (by simp [hy0])]
        congr 1
        have h2 : ∀ (l : List Sm), (∀ z ∈ l, (bring1 y k z = sm0 ↔ z = sm0)) → ((l.map (bring1 y k)).filter fun z => decide (z ≠ sm0)).length = (l.filter fun z => decide (z ≠ sm0)).length := by
          intro l
          induction l with
          | nil => intro _; rfl
          | cons a l ih =>
            intro hl
            have ha := hl a (by simp)
            have := ih fun z hz => hl z (by simp [hz])
            rw [List.map_cons]
            by_cases e : a = sm0
            · rw [List.filter_cons_of_neg (by simp [ha.2 e]), List.filter_cons_of_neg (by simp [e])]; exact this
            · have h3 : ¬ bring1 y k a = sm0 := fun h => e (ha.1 h)
              rw [List.filter_cons_of_pos (by simp [h3]), List.filter_cons_of_pos (by simp [e]), List.length_cons, List.length_cons, this]
        refine h2 _ fun z hz => ?_
        obtain ⟨j, _, rfl⟩ := mem_rowAt hz
        by_cases hj : j = k
        · rw [hj, hk0]; simp [bring1, sm0]
        · have := hB0 j hj
          rwa [hR, if_neg hj] at this
      show (reducedM (bringM S.at_ y k)).length + S.rel.length = _
      rw [e, hlen]
      omega
  | none =>
    dsimp only
    have hz0 : y.row = 0 := by
      have := lt_of_bits (k := 0) 24 hrow24 fun j _ h2 => leadM_none hl j h2
      simp at this; exact this
    have hrin : InSp (rowsM S.at_) r := by have := y4; rwa [hz0, Nat.xor_zero] at this
    have hlog : y.of.log2 = d.length := log_eq y3 y2
    have hof0 : y.of ≠ 0 := by intro e; rw [e] at y3; simp at y3
    refine ⟨h.led, h.small, fun j => ?_, ?_, ?_, ?_, ?_, ?_, ?_, ?_⟩
    · obtain ⟨t1, t2⟩ := h.tot j
      exact ⟨by rw [htl t2]; exact t1, by rw [hlen]; exact hlt t2⟩
    · refine InSp.iff ?_ ?_
      · intro q hq
        rcases List.mem_append.1 hq with hq | hq
        · exact (h.span q).1 (.of_mem hq)
        · simp at hq; rw [hq]; exact hrin
      · intro q hq
        exact ((h.span q).2 (.of_mem hq)).sub fun z hz => .of_mem (by simp [hz])
    · intro q hq
      rcases List.mem_append.1 hq with hq | hq
      · obtain ⟨r1, r2, r3⟩ := h.relT q hq
        exact ⟨by rw [htl r2]; exact r1, by rw [hlen]; exact hlt r2, r3⟩
      · simp at hq; subst hq
        exact ⟨by rw [y1, hz0], by rw [hlen]; exact y2, hof0⟩
    · intro z hz hzt
      rw [hlen] at hz
      have hsub : ∀ {x}, InSp S.rel x → InSp (S.rel ++ [y.of]) x := fun hx => hx.sub fun q hq => .of_mem (by simp [hq])
      cases hb : z.testBit d.length
      · have hz2 : z < 2 ^ d.length := lt_of_bits (d.length + 1) hz fun j h1 h2 => by rw [show j = d.length by omega]; exact hb
        exact hsub (h.relK z hz2 (by rw [← htl hz2]; exact hzt))
      · have hx : z ^^^ y.of < 2 ^ d.length := lt_of_bits (d.length + 1) (Nat.xor_lt_two_pow hz y2) fun j h1 h2 => by
          rw [show j = d.length by omega, Nat.testBit_xor, hb, y3]; rfl
        have hx0 : Go.Proofs.YtpnancidgobehaaDoor.tot d (z ^^^ y.of) = 0 := by
          rw [← htl hx]
          unfold Go.Proofs.YtpnancidgobehaaDoor.tot at hzt y1 ⊢
          rw [totF_xor, hzt, y1, hz0]; rfl
        have := (hsub (h.relK _ hx hx0)).xor (InSp.of_mem (l := S.rel ++ [y.of]) (r := y.of) (by simp))
        rwa [Nat.xor_assoc, Nat.xor_self, Nat.xor_zero] at this
    · intro a ha b hb hab
      rcases List.mem_append.1 ha with ha | ha <;> rcases List.mem_append.1 hb with hb | hb
      · exact h.relA a ha b hb hab
      · simp at hb; subst hb
        rw [y5 a ha] at hab; exact absurd hab (by decide)
      · simp at ha; subst ha
        rw [hlog, no_bit (h.relT b hb).2.1 (Nat.le_refl _)] at hab; exact absurd hab (by decide)
      · simp at ha hb; rw [ha, hb]
    · rw [List.pairwise_append]
      refine ⟨h.relP, by simp, fun a ha b hb => ?_⟩
      simp at hb; subst hb
      rw [hlog]
      exact log_lt (h.relT a ha).2.2 (h.relT a ha).2.1
    · intro j q hq
      rcases List.mem_append.1 hq with hq | hq
      · exact h.ofA j q hq
      · simp at hq; subst hq
        rw [hlog]
        exact no_bit (h.tot j).2 (Nat.le_refl _)
    · have := h.cnt
      simp
      omega
theorem inv_span : ∀ (l d : List Nat) (S : Sys), Inv d S → (∀ x ∈ l, x < R24) → d.length + l.length ≤ 40 → Inv (d ++ l) (spanM l d.length S)
  | [], d, S, h, _, _ => by simpa [spanM] using h
  | r :: l, d, S, h, hl, hn => by
    simp only [List.length_cons] at hn
    have h1 := inv_step h (hl r (by simp)) (by omega)
    have := inv_span l (d ++ [r]) _ h1 (fun x hx => hl x (by simp [hx])) (by simp; omega)
    rw [List.append_assoc] at this
    simpa [spanM] using this
theorem inv_spanned {l : List Nat} (hl : ∀ x ∈ l, x < R24) (hn : l.length ≤ 40) : Inv l (spanned l) := by
  have := inv_span l [] _ inv_start hl (by simpa using hn)
  simpa [spanned] using this
end Go.Proofs.YtpnancidgobehaaDoor
namespace Go.Proofs.YtpnancidgobehaaDoor
/-- The reference: the least place from `used` on whose row has the column, or what was found before; n places are left. -/
def findM (o : List Nat) (used c : Nat) : Nat → Option Nat → Option Nat
  | 0, at_ => at_
  | n + 1, at_ => findM o used c n (if (o.getD (used + n) 0).testBit c then some (used + n) else at_)
def swapM (o : List Nat) (i j : Nat) : List Nat := (o.set i (o.getD j 0)).set j (o.getD i 0)
def clr (o : List Nat) (used c i : Nat) : Nat := if i ≠ used ∧ (o.getD i 0).testBit c then o.getD i 0 ^^^ o.getD used 0 else o.getD i 0
def clearM (o : List Nat) (used c : Nat) : List Nat := (List.range o.length).map (clr o used c)
def stepE (c : Nat) (S : List Nat × Nat) : List Nat × Nat :=
  match findM S.1 S.2 c (S.1.length - S.2) none with
  | none => S
  | some j => (clearM (swapM S.1 S.2 j) S.2 c, S.2 + 1)
def elimM : Nat → List Nat × Nat → List Nat × Nat
  | 0, S => S
  | n + 1, S => elimM n (stepE n S)
def elimd (l : List Nat) (n : Nat) : List Nat × Nat := elimM n (l, 0)
def redR (l : List Nat) (n : Nat) : List Nat := (elimd l n).1.take (elimd l n).2
theorem findM_spec (o : List Nat) (used c : Nat) : ∀ (n : Nat) (a : Option Nat), (∃ i, i < n ∧ findM o used c n a = some (used + i) ∧ (o.getD (used + i) 0).testBit c = true) ∨ (findM o used c n a = a ∧ ∀ i, i < n → (o.getD (used + i) 0).testBit c = false)
  | 0, a => .inr ⟨rfl, fun i h => by omega⟩
  | n + 1, a => by
    unfold findM
    cases hb : (o.getD (used + n) 0).testBit c
    · rw [if_neg (by decide)]
      rcases findM_spec o used c n a with ⟨i, h1, h2, h3⟩ | ⟨h1, h2⟩
      · exact .inl ⟨i, by omega, h2, h3⟩
      · exact .inr ⟨h1, fun i hi => if e : i = n then by rw [e]; exact hb else h2 i (by omega)⟩
    · rw [if_pos rfl]
      rcases findM_spec o used c n (some (used + n)) with ⟨i, h1, h2, h3⟩ | ⟨h1, h2⟩
      · exact .inl ⟨i, by omega, h2, h3⟩
      · exact .inl ⟨n, by omega, h1, hb⟩
theorem getD_at {o : List Nat} {i : Nat} (h : i < o.length) : o[i]? = some (o.getD i 0) := by rw [List.getD_eq_getElem?_getD, List.getElem?_eq_getElem h]; rfl
theorem getD_mem {o : List Nat} {i : Nat} (h : i < o.length) : o.getD i 0 ∈ o := List.mem_of_getElem? (getD_at h)
theorem mem_getD {o : List Nat} {x : Nat} (h : x ∈ o) : ∃ i, i < o.length ∧ o.getD i 0 = x := by
  obtain ⟨k, hk, rfl⟩ := List.mem_iff_getElem.1 h
  exact ⟨k, hk, by rw [List.getD_eq_getElem?_getD, List.getElem?_eq_getElem hk]; rfl⟩
theorem clearM_getD {o : List Nat} {used c i : Nat} (h : i < o.length) : (clearM o used c).getD i 0 = clr o used c i := by
  unfold clearM
  rw [List.getD_eq_getElem?_getD, List.getElem?_map, List.getElem?_range h]; rfl
theorem clearM_len (o : List Nat) (used c : Nat) : (clearM o used c).length = o.length := by simp [clearM]
theorem swapM_len (o : List Nat) (i j : Nat) : (swapM o i j).length = o.length := by simp [swapM]
theorem swapM_getD {o : List Nat} {i j : Nat} (hi : i < o.length) (hj : j < o.length) (k : Nat) : (swapM o i j).getD k 0 = o.getD (if k = j then i else if k = i then j else k) 0 := by
  unfold swapM
  rw [List.getD_eq_getElem?_getD]
  by_cases h1 : k = j
  · rw [if_pos h1, h1, List.getElem?_set_self (by simpa using hj)]; rfl
  · rw [if_neg h1, List.getElem?_set_ne (fun e => h1 e.symm)]
    by_cases h2 : k = i
    · rw [if_pos h2, h2, List.getElem?_set_self hi]; rfl
    · rw [if_neg h2, List.getElem?_set_ne (fun e => h2 e.symm), List.getD_eq_getElem?_getD]
theorem swapM_span {o : List Nat} {i j : Nat} (hi : i < o.length) (hj : j < o.length) (x : Nat) : InSp (swapM o i j) x ↔ InSp o x := by
  refine InSp.iff ?_ ?_ x
  · intro r hr
    obtain ⟨k, hk, rfl⟩ := mem_getD hr
    rw [swapM_getD hi hj]
    refine .of_mem (getD_mem ?_)
    rw [swapM_len] at hk
    split
    · exact hi
    · split
      · exact hj
      · exact hk
  · intro r hr
    obtain ⟨k, hk, rfl⟩ := mem_getD hr
    have h : o.getD k 0 = (swapM o i j).getD (if k = i then j else if k = j then i else k) 0 := by
      rw [swapM_getD hi hj]
      congr 1
      by_cases h1 : k = i
      · subst h1; simp
      · by_cases h2 : k = j
        · subst h2; simp [h1]; exact fun e => h1 e.symm
        · simp [h1, h2]
    rw [h]
    refine .of_mem (getD_mem ?_)
    rw [swapM_len]
    split
    · exact hj
    · split
      · exact hi
      · exact hk
theorem clearM_span {o : List Nat} {used c : Nat} (hu : used < o.length) (x : Nat) : InSp (clearM o used c) x ↔ InSp o x := by
  have hp : (clearM o used c).getD used 0 = o.getD used 0 := by rw [clearM_getD hu]; simp [clr]
  refine InSp.iff ?_ ?_ x
  · intro r hr
    obtain ⟨k, hk, rfl⟩ := mem_getD hr
    rw [clearM_len] at hk
    rw [clearM_getD hk]
    unfold clr
    split
    · exact (InSp.of_mem (getD_mem hk)).xor (.of_mem (getD_mem hu))
    · exact .of_mem (getD_mem hk)
  · intro r hr
    obtain ⟨k, hk, rfl⟩ := mem_getD hr
    have h1 : InSp (clearM o used c) ((clearM o used c).getD k 0) := .of_mem (getD_mem (by rw [clearM_len]; exact hk))
    have h2 : InSp (clearM o used c) (o.getD used 0) := by rw [← hp]; exact .of_mem (getD_mem (by rw [clearM_len]; exact hu))
    rw [clearM_getD hk] at h1
    unfold clr at h1
    split at h1
    · have := h1.xor h2
      rwa [Nat.xor_assoc, Nat.xor_self, Nat.xor_zero] at this
    · exact h1
/-- What holds once the columns from c on, of n, are gone through. -/
structure Elim (l : List Nat) (n c : Nat) (o : List Nat) (used : Nat) (p : Nat → Nat) : Prop where
  len : o.length = l.length
  le : used ≤ o.length
  span : ∀ x, InSp o x ↔ InSp l x
  lead : ∀ i, i < used → c ≤ p i ∧ p i < n ∧ (o.getD i 0).testBit (p i) = true ∧ ∀ j, p i < j → j < n → (o.getD i 0).testBit j = false
  alone : ∀ i, i < used → ∀ k, k < o.length → k ≠ i → (o.getD k 0).testBit (p i) = false
  fall : ∀ i j, i < j → j < used → p j < p i
  rest : ∀ i, used ≤ i → i < o.length → ∀ j, c ≤ j → j < n → (o.getD i 0).testBit j = false
theorem elim_step {l : List Nat} {n c : Nat} {S : List Nat × Nat} {p : Nat → Nat} (h : Elim l n (c + 1) S.1 S.2 p) (hc : c < n) : ∃ p', Elim l n c (stepE c S).1 (stepE c S).2 p' := by
  obtain ⟨o, used⟩ := S
  dsimp only at h
  have hle := h.le
  unfold stepE
  dsimp only
  rcases findM_spec o used c (o.length - used) none with ⟨i, h1, h2, h3⟩ | ⟨h1, h2⟩
  · rw [h2]
    dsimp only
    have hu : used < o.length := by omega
    have hj : used + i < o.length := by omega
    have hsl := swapM_len o used (used + i)
    have hsw := swapM_getD hu hj
    have hus : used < (swapM o used (used + i)).length := by rw [hsl]; exact hu
    -- the pivot
    have hpv : (swapM o used (used + i)).getD used 0 = o.getD (used + i) 0 := by
      rw [hsw]
      by_cases e : used = used + i
      · rw [if_pos e, ← e]
      · rw [if_neg e, if_pos rfl]
    have hpr : ∀ j, c + 1 ≤ j → j < n → (o.getD (used + i) 0).testBit j = false := h.rest _ (by omega) hj
    -- rows before the pivot stand where they stood
    have hbef : ∀ k, k < used → (swapM o used (used + i)).getD k 0 = o.getD k 0 := by
      intro k hk; rw [hsw, if_neg (by omega), if_neg (by omega)]
    -- rows behind are rows behind
    have haft : ∀ k, used ≤ k → k < o.length → ∃ k', used ≤ k' ∧ k' < o.length ∧ (swapM o used (used + i)).getD k 0 = o.getD k' 0 := by
      intro k hk hk2
      rw [hsw]
      split
      · exact ⟨used, by omega, hu, rfl⟩
      · split
        · exact ⟨_, by omega, hj, rfl⟩
        · exact ⟨k, hk, hk2, rfl⟩
    generalize hs : swapM o used (used + i) = s at *
    have hcl : ∀ k, k < o.length → (clearM s used c).getD k 0 = clr s used c k := fun k hk => clearM_getD (by omega)
    have hbit : ∀ k, k < o.length → ∀ j, c + 1 ≤ j → j < n → (clr s used c k).testBit j = (s.getD k 0).testBit j := by
      intro k hk j hj1 hj2
      unfold clr
      split
      · rw [Nat.testBit_xor, hpv, hpr j hj1 hj2, Bool.xor_false]
      · rfl
    have hbc : ∀ k, k < o.length → k ≠ used → (clr s used c k).testBit c = false := by
      intro k hk hku
      unfold clr
      split
      · rename_i hb
        rw [Nat.testBit_xor, hpv, hb.2, h3]; rfl
      · rename_i hb
        simpa [hku] using hb
    refine ⟨fun k => if k < used then p k else c, ⟨by rw [clearM_len, hsl]; exact h.len, by rw [clearM_len]; omega, fun x => ?_, ?_, ?_, ?_, ?_⟩⟩
    · rw [clearM_span hus, ← hs, swapM_span hu hj]; exact h.span x
    · intro k hk
      by_cases hku : k < used
      · rw [if_pos hku]
        obtain ⟨l1, l2, l3, l4⟩ := h.lead k hku
        refine ⟨by omega, l2, ?_, ?_⟩
        · rw [hcl k (by omega), hbit k (by omega) _ l1 l2, hbef k hku]; exact l3
        · intro j hj1 hj2
          rw [hcl k (by omega), hbit k (by omega) _ (by omega) hj2, hbef k hku]; exact l4 j hj1 hj2
      · rw [if_neg hku]
        obtain rfl : k = used := by omega
        refine ⟨by omega, hc, ?_, ?_⟩
        · rw [hcl k hu]
          unfold clr
          rw [if_neg (by simp), hpv]; exact h3
        · intro j hj1 hj2
          rw [hcl k hu, hbit k hu j (by omega) hj2, hpv]; exact hpr j (by omega) hj2
    · intro k hk k' hk' hne
      rw [clearM_len, hsl] at hk'
      rw [hcl k' hk']
      by_cases hku : k < used
      · rw [if_pos hku]
        obtain ⟨l1, l2, l3, l4⟩ := h.lead k hku
        rw [hbit k' hk' _ l1 l2]
        by_cases hk'u : k' < used
        · rw [hbef k' hk'u]; exact h.alone k hku k' hk' hne
        · obtain ⟨k2, a1, a2, a3⟩ := haft k' (by omega) hk'
          rw [a3]; exact h.alone k hku k2 a2 (by omega)
      · rw [if_neg hku]
        exact hbc k' hk' (by omega)
    · intro a b hab hb
      by_cases hbu : b < used
      · rw [if_pos hbu, if_pos (by omega)]; exact h.fall a b hab hbu
      · rw [if_neg hbu, if_pos (by omega)]
        have := (h.lead a (by omega)).1
        omega
    · intro k hk hk2 j hj1 hj2
      rw [clearM_len, hsl] at hk2
      rw [hcl k hk2]
      by_cases e : j = c
      · rw [e]; exact hbc k hk2 (by omega)
      · rw [hbit k hk2 j (by omega) hj2]
        obtain ⟨k2, a1, a2, a3⟩ := haft k (by omega) hk2
        rw [a3]; exact h.rest k2 a1 a2 j (by omega) hj2
  · rw [h1]
    dsimp only
    refine ⟨p, ⟨h.len, h.le, h.span, fun i hi => ?_, h.alone, h.fall, ?_⟩⟩
    · obtain ⟨l1, l2⟩ := h.lead i hi
      exact ⟨by omega, l2⟩
    · intro i hi hi2 j hj1 hj2
      by_cases e : j = c
      · have := h2 (i - used) (by omega)
        rw [show used + (i - used) = i by omega] at this
        rw [e]; exact this
      · exact h.rest i hi hi2 j (by omega) hj2
theorem elim_all {l : List Nat} {n : Nat} : ∀ (c : Nat) (S : List Nat × Nat) (p : Nat → Nat), c ≤ n → Elim l n c S.1 S.2 p → ∃ p', Elim l n 0 (elimM c S).1 (elimM c S).2 p'
  | 0, S, p, _, h => ⟨p, h⟩
  | c + 1, S, p, hc, h => by
    obtain ⟨p', h'⟩ := elim_step h (by omega)
    exact elim_all c _ p' (by omega) h'
theorem elimd_spec (l : List Nat) (n : Nat) : ∃ p, Elim l n 0 (elimd l n).1 (elimd l n).2 p :=
  elim_all n (l, 0) (fun _ => 0) (Nat.le_refl _) ⟨rfl, by simp, fun _ => Iff.rfl, by intro i hi; exact absurd hi (by simp), by intro i hi; exact absurd hi (by simp), by intro i j _ hi; exact absurd hi (by simp), by intro i _ _ j h1 h2; omega⟩
theorem span_lt {l o : List Nat} {n : Nat} (hl : ∀ x ∈ l, x < 2 ^ n) (h : ∀ x, InSp o x ↔ InSp l x) : ∀ x ∈ o, x < 2 ^ n := fun x hx => ((h x).1 (.of_mem hx)).lt hl
theorem take_getD {o : List Nat} {u i : Nat} (h : i < u) : (o.take u).getD i 0 = o.getD i 0 := by
  rw [List.getD_eq_getElem?_getD, List.getD_eq_getElem?_getD, List.getElem?_take_of_lt h]
theorem pairwise_getD {R : Nat → Nat → Prop} {o : List Nat} (h : ∀ i j, i < j → j < o.length → R (o.getD i 0) (o.getD j 0)) : o.Pairwise R := by
  rw [List.pairwise_iff_getElem]
  intro i j hi hj hij
  have := h i j hij hj
  rwa [List.getD_eq_getElem?_getD, List.getD_eq_getElem?_getD, List.getElem?_eq_getElem hi, List.getElem?_eq_getElem hj] at this
theorem redR_spec {l : List Nat} {n : Nat} (hl : ∀ x ∈ l, x < 2 ^ n) : Red (redR l n) ∧ (∀ x, InSp (redR l n) x ↔ InSp l x) := by
  obtain ⟨p, h⟩ := elimd_spec l n
  unfold redR
  generalize (elimd l n).1 = o at *
  generalize (elimd l n).2 = u at *
  have hlt := span_lt hl h.span
  have hlog : ∀ i, i < u → (o.getD i 0).log2 = p i := by
    intro i hi
    obtain ⟨_, l2, l3, l4⟩ := h.lead i hi
    have hm := hlt _ (getD_mem (show i < o.length by have := h.le; omega))
    exact log_eq l3 (lt_of_bits n hm fun j h1 h2 => l4 j (by omega) h2)
  have hlen : (o.take u).length = u := by have := h.le; simp; omega
  have hle := h.le
  refine ⟨⟨?_, ?_, ?_⟩, fun x => ?_⟩
  · intro r hr h0
    obtain ⟨i, hi, rfl⟩ := mem_getD hr
    rw [hlen] at hi
    rw [take_getD hi] at h0
    have := (h.lead i hi).2.2.1
    rw [h0] at this; simp at this
  · refine pairwise_getD fun i j hij hj => ?_
    rw [hlen] at hj
    rw [take_getD hj, take_getD (by omega), hlog i (by omega), hlog j hj]
    exact h.fall i j hij hj
  · intro a ha b hb hab
    obtain ⟨i, hi, rfl⟩ := mem_getD ha
    obtain ⟨j, hj, rfl⟩ := mem_getD hb
    rw [hlen] at hi hj
    rw [take_getD hi, hlog i hi, take_getD hj] at hab
    by_cases e : j = i
    · rw [e]
    · rw [h.alone i hi j (by omega) e] at hab; exact absurd hab (by decide)
  · rw [← h.span]
    refine InSp.iff (fun r hr => .of_mem (List.mem_of_mem_take hr)) ?_ x
    intro r hr
    obtain ⟨i, hi, rfl⟩ := mem_getD hr
    by_cases hiu : i < u
    · rw [← take_getD hiu]; exact .of_mem (getD_mem (by omega))
    · have h0 : o.getD i 0 < 2 ^ 0 := lt_of_bits n (hlt _ (getD_mem hi)) fun j _ hj => h.rest i (by omega) hi j (by omega) hj
      have : o.getD i 0 = 0 := by simpa using h0
      rw [this]; exact .zero
theorem red24 {l : List Nat} {n : Nat} (hn : n ≤ 24) (hl : ∀ x ∈ l, x < 2 ^ n) : ∀ x ∈ l, x < R24 := fun x hx => by
  have : 2 ^ n ≤ 2 ^ 24 := Nat.pow_le_pow_right (by omega) hn
  have := hl x hx
  unfold R24; omega
theorem reduced_eq {l : List Nat} {n : Nat} (hn : n ≤ 24) (hl : ∀ x ∈ l, x < 2 ^ n) (hll : l.length ≤ 40) : reducedM (spanned l).at_ = redR l n := by
  have hI := inv_spanned (red24 hn hl) hll
  obtain ⟨r1, r2⟩ := redR_spec hl
  exact hI.led.red.unique r1 fun x => (reduced_span hI.led x).trans ((hI.span x).symm.trans (r2 x).symm)
end Go.Proofs.YtpnancidgobehaaDoor
namespace Go.Proofs.YtpnancidgobehaaDoor
theorem getD_none {o : List Nat} {i : Nat} (h : o.length ≤ i) : o.getD i 0 = 0 := by rw [List.getD_eq_getElem?_getD, List.getElem?_eq_none h]; rfl
/-- Whether two rows have, in their first n columns, an odd number in common. -/
def dotB : Nat → Nat → Nat → Bool
  | 0, _, _ => false
  | n + 1, r, x => dotB n r x != (r.testBit n && x.testBit n)
theorem dotB_xorR (n r x y : Nat) : dotB n r (x ^^^ y) = (dotB n r x != dotB n r y) := by
  induction n with
  | zero => rfl
  | succ n ih =>
    unfold dotB
    rw [ih, Nat.testBit_xor]
    cases dotB n r x <;> cases dotB n r y <;> cases r.testBit n <;> cases x.testBit n <;> cases y.testBit n <;> rfl
theorem dotB_comm (n r x : Nat) : dotB n r x = dotB n x r := by
  induction n with
  | zero => rfl
  | succ n ih => unfold dotB; rw [ih, Bool.and_comm]
theorem dotB_xorL (n r s x : Nat) : dotB n (r ^^^ s) x = (dotB n r x != dotB n s x) := by
  rw [dotB_comm, dotB_xorR, dotB_comm n x r, dotB_comm n x s]
theorem dotB_none {n r x : Nat} (h : ∀ k, k < n → (r.testBit k && x.testBit k) = false) : dotB n r x = false := by
  induction n with
  | zero => rfl
  | succ n ih => unfold dotB; rw [ih fun k hk => h k (by omega), h n (by omega)]; rfl
theorem dotB_one {n r x p : Nat} (hp : p < n) (h : ∀ k, k < n → k ≠ p → (r.testBit k && x.testBit k) = false) : dotB n r x = (r.testBit p && x.testBit p) := by
  induction n with
  | zero => omega
  | succ n ih =>
    unfold dotB
    by_cases e : p = n
    · subst e
      rw [dotB_none fun k hk => h k (by omega) (by omega)]
      cases (r.testBit p && x.testBit p) <;> rfl
    · rw [ih (by omega) fun k hk hn => h k (by omega) hn, h n (by omega) (fun h => e h.symm)]
      cases (r.testBit p && x.testBit p) <;> rfl
theorem dotB_zeroL (n x : Nat) : dotB n 0 x = false := dotB_none fun k _ => by simp
theorem dotB_zeroR (n x : Nat) : dotB n x 0 = false := dotB_none fun k _ => by simp
theorem dotB_pow {n c : Nat} (hc : c < n) (r : Nat) : dotB n r (2 ^ c) = r.testBit c := by
  rw [dotB_one hc]
  · rw [Nat.testBit_two_pow]; simp
  · intro k _ hk; rw [Nat.testBit_two_pow]; have : ¬ c = k := fun e => hk e.symm
    simp [this]
theorem dotB_up {n m r x : Nat} (hx : x < 2 ^ n) (hm : n ≤ m) : dotB m r x = dotB n r x := by
  induction m with
  | zero => rw [show n = 0 by omega]
  | succ m ih =>
    by_cases e : n = m + 1
    · rw [e]
    · show (dotB m r x != (r.testBit m && x.testBit m)) = _
      rw [ih (by omega), no_bit hx (by omega)]; simp
/-- x is orthogonal to each of the rows. -/
def Orth (l : List Nat) (n x : Nat) : Prop := x < 2 ^ n ∧ ∀ r ∈ l, dotB n r x = false
theorem Orth.xor {l : List Nat} {n x y : Nat} (h : Orth l n x) (k : Orth l n y) : Orth l n (x ^^^ y) := ⟨Nat.xor_lt_two_pow h.1 k.1, fun r hr => by rw [dotB_xorR, h.2 r hr, k.2 r hr]; rfl⟩
theorem Orth.span {l : List Nat} {n x : Nat} (h : Orth l n x) {r : Nat} (hr : InSp l r) : dotB n r x = false := by
  induction hr with
  | zero => exact dotB_zeroL _ _
  | add _ hr ih => rw [dotB_xorL, ih, h.2 _ hr]; rfl
theorem orth_iff {l m : List Nat} (h : ∀ x, InSp l x ↔ InSp m x) {n x : Nat} : Orth l n x ↔ Orth m n x :=
  ⟨fun k => ⟨k.1, fun r hr => k.span ((h r).2 (.of_mem hr))⟩, fun k => ⟨k.1, fun r hr => k.span ((h r).1 (.of_mem hr))⟩⟩
theorem orth_in {l out : List Nat} {n : Nat} (h : ∀ r ∈ out, Orth l n r) {x : Nat} (hx : InSp out x) : Orth l n x := by
  induction hx with
  | zero => exact ⟨Nat.pow_pos (by omega), fun r _ => dotB_zeroR _ _⟩
  | add _ hr ih => exact ih.xor (h _ hr)
-- the columns
theorem shift_bit (r k i j : Nat) : ((r >>> k &&& 1) <<< i).testBit j = (decide (j = i) && r.testBit k) := by
  rw [Nat.testBit_shiftLeft, Nat.testBit_and, Nat.testBit_shiftRight]
  by_cases h : i ≤ j
  · by_cases e : j = i
    · subst e; simp
    · have : (1 : Nat).testBit (j - i) = false := no_bit (n := 1) (by omega) (by omega)
      rw [this]; simp [e]
  · have : ¬ j = i := by omega
    simp [this]; omega
theorem colM_bit : ∀ (l : List Nat) (i k c j : Nat), (colM l i k c).testBit j = (c.testBit j || (decide (i ≤ j) && (l.getD (j - i) 0).testBit k))
  | [], i, k, c, j => by simp [colM]
  | r :: l, i, k, c, j => by
    unfold colM
    rw [colM_bit l (i + 1), Nat.testBit_or, shift_bit]
    by_cases e : j = i
    · subst e
      have : ¬ j + 1 ≤ j := by omega
      simp [this]
    · by_cases h : i ≤ j
      · have h1 : i + 1 ≤ j := by omega
        have h2 : j - i = (j - (i + 1)) + 1 := by omega
        rw [h2]
        simp [e, h, h1]
      · have h1 : ¬ i + 1 ≤ j := by omega
        simp [e, h, h1]
theorem col_bit (l : List Nat) (k j : Nat) : (colM l 0 k 0).testBit j = (l.getD j 0).testBit k := by
  rw [colM_bit]; simp
theorem transposed_snoc (l : List Nat) (n : Nat) : transposedM l (n + 1) = transposedM l n ++ [colM l 0 n 0] := by
  unfold transposedM; rw [List.range_succ, List.map_append]; rfl
theorem trans_len (l : List Nat) (n : Nat) : (transposedM l n).length = n := by simp [transposedM]
theorem tot_cols (l : List Nat) (n y i : Nat) : (tot (transposedM l n) y).testBit i = dotB n (l.getD i 0) y := by
  induction n with
  | zero => simp [transposedM, totF, dotB]
  | succ n ih =>
    rw [transposed_snoc, tot_snoc, Nat.testBit_xor, ih, trans_len]
    show _ = (dotB n (l.getD i 0) y != ((l.getD i 0).testBit n && y.testBit n))
    have : (if y.testBit n = true then colM l 0 n 0 else 0).testBit i = ((l.getD i 0).testBit n && y.testBit n) := by
      cases y.testBit n
      · simp
      · rw [if_pos rfl, col_bit]; simp
    rw [this]
theorem cols_zero (l : List Nat) (n y : Nat) : tot (transposedM l n) y = 0 ↔ ∀ r ∈ l, dotB n r y = false := by
  constructor
  · intro h r hr
    obtain ⟨i, _, rfl⟩ := mem_getD hr
    rw [← tot_cols, h]; simp
  · intro h
    apply Nat.eq_of_testBit_eq
    intro i
    rw [tot_cols]
    by_cases hi : i < l.length
    · rw [h _ (getD_mem hi)]; simp
    · rw [getD_none (by omega), dotB_zeroL]; simp
theorem rel_zero {d : List Nat} {S : Sys} (h : Inv d S) {x : Nat} (hx : InSp S.rel x) : x < 2 ^ d.length ∧ tot d x = 0 := by
  induction hx with
  | zero => exact ⟨Nat.pow_pos (by omega), totF_zero _ _⟩
  | add _ hr ih =>
    obtain ⟨r1, r2, _⟩ := h.relT _ hr
    refine ⟨Nat.xor_lt_two_pow ih.1 r2, ?_⟩
    have i2 := ih.2
    unfold tot at r1 i2 ⊢
    rw [totF_xor, i2, r1]; rfl
theorem rel_span {d : List Nat} {S : Sys} (h : Inv d S) (x : Nat) : InSp S.rel x ↔ x < 2 ^ d.length ∧ tot d x = 0 := ⟨rel_zero h, fun hx => h.relK x hx.1 hx.2⟩
theorem inSp_reverse (l : List Nat) (x : Nat) : InSp l.reverse x ↔ InSp l x := InSp.iff (fun r hr => .of_mem (by simpa using hr)) (fun r hr => .of_mem (by simpa using hr)) x
theorem rel_red {d : List Nat} {S : Sys} (h : Inv d S) : Red S.rel.reverse :=
  ⟨fun r hr => (h.relT r (by simpa using hr)).2.2, by rw [List.pairwise_reverse]; exact h.relP, fun a ha b hb => h.relA a (by simpa using ha) b (by simpa using hb)⟩
theorem pow_or_lt {a b n : Nat} (ha : a < 2 ^ n) (hb : b < 2 ^ n) : a ||| b < 2 ^ n := Nat.or_lt_two_pow ha hb
theorem trans_lt {l : List Nat} {m : Nat} (hl : l.length ≤ m) (n : Nat) : ∀ x ∈ transposedM l n, x < 2 ^ m := by
  intro x hx
  simp only [transposedM, List.mem_map] at hx
  obtain ⟨k, _, rfl⟩ := hx
  refine Nat.lt_pow_two_of_testBit _ fun j hj => ?_
  rw [col_bit, getD_none (by omega)]; simp
theorem null_inv {l : List Nat} {n : Nat} (hl : l.length ≤ 24) (hn : n ≤ 40) : Inv (transposedM l n) (spanned (transposedM l n)) := inv_spanned (red24 hl (trans_lt (Nat.le_refl _) n)) (by rw [trans_len]; exact hn)
theorem null_spec {l : List Nat} {n : Nat} (hl : l.length ≤ 24) (hn : n ≤ 40) : Red (nullM l n) ∧ ∀ x, InSp (nullM l n) x ↔ Orth l n x := by
  have hI := null_inv hl hn
  refine ⟨rel_red hI, fun x => ?_⟩
  unfold nullM
  rw [inSp_reverse, rel_span hI, trans_len, cols_zero]; rfl
-- the reference's rows
def leadsM (R : List Nat) : Nat := R.foldl (fun x r => x ||| 2 ^ r.log2) 0
def xcM (R : List Nat) (c : Nat) : Nat := R.foldl (fun x r => if r.testBit c then x ||| 2 ^ r.log2 else x) (2 ^ c)
def outM (R : List Nat) (n : Nat) : List Nat := ((List.range n).filter fun c => !(leadsM R).testBit c).map (xcM R)
def orthR (l : List Nat) (n : Nat) : List Nat := redR (outM (redR l n) n) n
theorem foldl_bit (q : Nat → Bool) : ∀ (R : List Nat) (x j : Nat), (R.foldl (fun x r => if q r then x ||| 2 ^ r.log2 else x) x).testBit j = (x.testBit j || R.any fun r => q r && decide (r.log2 = j))
  | [], x, j => by simp
  | r :: R, x, j => by
    rw [List.foldl_cons, foldl_bit q R, List.any_cons]
    cases hq : q r
    · simp
    · simp [Nat.testBit_or, Nat.testBit_two_pow, Bool.or_assoc]
theorem leads_bit (R : List Nat) (j : Nat) : (leadsM R).testBit j = R.any fun r => decide (r.log2 = j) := by
  have := foldl_bit (fun _ => true) R 0 j
  simpa [leadsM] using this
theorem xc_bit (R : List Nat) (c j : Nat) : (xcM R c).testBit j = (decide (c = j) || R.any fun r => r.testBit c && decide (r.log2 = j)) := by
  have := foldl_bit (fun r => r.testBit c) R (2 ^ c) j
  rw [Nat.testBit_two_pow] at this
  exact this
theorem red_inj {R : List Nat} (h : Red R) {a b : Nat} (ha : a ∈ R) (hb : b ∈ R) (e : a.log2 = b.log2) : a = b := h.alone a ha b hb (by rw [e]; exact top_bit (h.nz b hb))
section
variable {R : List Nat} {n : Nat} (hR : Red R) (hn : ∀ r ∈ R, r < 2 ^ n)
include hR hn
theorem xc_lead {c r : Nat} (hr : r ∈ R) (hc : r.log2 ≠ c) : (xcM R c).testBit r.log2 = r.testBit c := by
  rw [xc_bit, Bool.eq_iff_iff]
  constructor
  · intro h
    simp only [Bool.or_eq_true, decide_eq_true_eq, List.any_eq_true, Bool.and_eq_true] at h
    rcases h with h | ⟨s, hs, h1, h2⟩
    · exact absurd h.symm hc
    · rw [← red_inj hR hs hr h2]; exact h1
  · intro h
    simp only [Bool.or_eq_true, decide_eq_true_eq, List.any_eq_true, Bool.and_eq_true]
    exact .inr ⟨r, hr, h, rfl⟩
theorem xc_free {c j : Nat} (hj : ∀ r ∈ R, r.log2 ≠ j) : (xcM R c).testBit j = decide (c = j) := by
  rw [xc_bit]
  have : (R.any fun r => r.testBit c && decide (r.log2 = j)) = false := by
    rw [List.any_eq_false]
    intro r hr
    simp [hj r hr]
  rw [this, Bool.or_false]
theorem xc_lt {c : Nat} (hc : c < n) : xcM R c < 2 ^ n := by
  refine Nat.lt_pow_two_of_testBit _ fun j hj => ?_
  rw [xc_bit]
  have h1 : ¬ c = j := by omega
  have : (R.any fun r => r.testBit c && decide (r.log2 = j)) = false := by
    rw [List.any_eq_false]
    intro r hr
    have := log_lt (hR.nz r hr) (hn r hr)
    have : ¬ r.log2 = j := by omega
    simp [this]
  rw [this]; simp [h1]
theorem dot_leads {x r : Nat} (hr : r ∈ R) (hx : ∀ j, j < n → (∀ s ∈ R, s.log2 ≠ j) → x.testBit j = false) : dotB n r x = x.testBit r.log2 := by
  rw [dotB_one (log_lt (hR.nz r hr) (hn r hr))]
  · rw [top_bit (hR.nz r hr)]; rfl
  · intro k hk hne
    by_cases h : ∀ s ∈ R, s.log2 ≠ k
    · rw [hx k hk h]; simp
    · have h : ∃ s ∈ R, s.log2 = k := Classical.byContradiction fun hh => h fun s hs he => hh ⟨s, hs, he⟩
      obtain ⟨s, hs, rfl⟩ := h
      cases hb : r.testBit s.log2
      · rfl
      · exact absurd (congrArg Nat.log2 (hR.alone s hs r hr hb)) hne
theorem free_iff (c : Nat) : (leadsM R).testBit c = false ↔ ∀ r ∈ R, r.log2 ≠ c := by
  rw [leads_bit, List.any_eq_false]
  simp
theorem xc_orth {c : Nat} (hc : c < n) (hf : ∀ r ∈ R, r.log2 ≠ c) : Orth R n (xcM R c) := by
  refine ⟨xc_lt hR hn hc, fun r hr => ?_⟩
  have e : xcM R c = (xcM R c ^^^ 2 ^ c) ^^^ 2 ^ c := by rw [Nat.xor_assoc, Nat.xor_self, Nat.xor_zero]
  rw [e, dotB_xorR, dotB_pow hc, dot_leads hR hn hr]
  · rw [Nat.testBit_xor, xc_lead hR hn hr (hf r hr), Nat.testBit_two_pow]
    have : ¬ c = r.log2 := fun e => hf r hr e.symm
    simp [this]
  · intro j hj hjf
    rw [Nat.testBit_xor, xc_free hR hn hjf, Nat.testBit_two_pow]; simp
theorem mem_out {x : Nat} : x ∈ outM R n ↔ ∃ c, c < n ∧ (∀ r ∈ R, r.log2 ≠ c) ∧ xcM R c = x := by
  unfold outM
  simp only [List.mem_map, List.mem_filter, List.mem_range, Bool.not_eq_true', free_iff hR hn]
  constructor
  · rintro ⟨c, ⟨h1, h2⟩, h3⟩; exact ⟨c, h1, h2, h3⟩
  · rintro ⟨c, h1, h2, h3⟩; exact ⟨c, ⟨h1, h2⟩, h3⟩
theorem clear_free (x : Nat) (k : Nat) (hk : k ≤ n) : ∃ s, InSp (outM R n) s ∧ ∀ j, j < k → (∀ r ∈ R, r.log2 ≠ j) → (x ^^^ s).testBit j = false := by
  induction k with
  | zero => exact ⟨0, .zero, fun j hj => by omega⟩
  | succ k ih =>
    obtain ⟨s, hs, h⟩ := ih (by omega)
    by_cases hb : (x ^^^ s).testBit k = true ∧ ∀ r ∈ R, r.log2 ≠ k
    · refine ⟨s ^^^ xcM R k, hs.xor (.of_mem ((mem_out hR hn).2 ⟨k, by omega, hb.2, rfl⟩)), fun j hj hf => ?_⟩
      rw [← Nat.xor_assoc, Nat.testBit_xor, xc_free hR hn hf]
      by_cases e : j = k
      · subst e; rw [hb.1]; simp
      · have : ¬ k = j := fun h => e h.symm
        rw [h j (by omega) hf]; simp [this]
    · refine ⟨s, hs, fun j hj hf => ?_⟩
      by_cases e : j = k
      · subst e
        cases hb2 : (x ^^^ s).testBit j
        · rfl
        · exact absurd ⟨hb2, hf⟩ hb
      · exact h j (by omega) hf
theorem out_span (x : Nat) : InSp (outM R n) x ↔ Orth R n x := by
  have hO : ∀ r ∈ outM R n, Orth R n r := fun r hr => by
    obtain ⟨c, h1, h2, rfl⟩ := (mem_out hR hn).1 hr
    exact xc_orth hR hn h1 h2
  refine ⟨orth_in hO, fun hx => ?_⟩
  obtain ⟨s, hs, h⟩ := clear_free hR hn x n (Nat.le_refl _)
  have hxs := hx.xor (orth_in hO hs)
  have h0 : x ^^^ s = 0 := by
    apply Nat.eq_of_testBit_eq
    intro j
    rw [Nat.zero_testBit]
    by_cases hj : j < n
    · by_cases hf : ∀ r ∈ R, r.log2 ≠ j
      · exact h j hj hf
      · have hf : ∃ r ∈ R, r.log2 = j := Classical.byContradiction fun hh => hf fun s hs he => hh ⟨s, hs, he⟩
        obtain ⟨r, hr, rfl⟩ := hf
        have := hxs.2 r hr
        rwa [dot_leads hR hn hr h] at this
    · exact no_bit hxs.1 (by omega)
  have : x = s := by
    have h2 : x ^^^ s ^^^ s = s := by rw [h0, Nat.zero_xor]
    rwa [Nat.xor_assoc, Nat.xor_self, Nat.xor_zero] at h2
  rw [this]; exact hs
end
theorem redR_lt {l : List Nat} {n : Nat} (hl : ∀ x ∈ l, x < 2 ^ n) : ∀ x ∈ redR l n, x < 2 ^ n := span_lt hl (redR_spec hl).2
theorem orthR_spec {l : List Nat} {n : Nat} (hl : ∀ x ∈ l, x < 2 ^ n) : Red (orthR l n) ∧ ∀ x, InSp (orthR l n) x ↔ Orth l n x := by
  obtain ⟨r1, r2⟩ := redR_spec hl
  have hlt := redR_lt hl
  have hout : ∀ x ∈ outM (redR l n) n, x < 2 ^ n := fun x hx => ((out_span r1 hlt x).1 (.of_mem hx)).1
  obtain ⟨s1, s2⟩ := redR_spec hout
  exact ⟨s1, fun x => (s2 x).trans ((out_span r1 hlt x).trans (orth_iff r2))⟩
theorem null_eq {l : List Nat} {n : Nat} (hl : ∀ x ∈ l, x < 2 ^ n) (hll : l.length ≤ 24) (hn : n ≤ 40) : nullM l n = orthR l n :=
  (null_spec hll hn).1.unique (orthR_spec hl).1 fun x => ((null_spec hll hn).2 x).trans ((orthR_spec hl).2 x).symm
end Go.Proofs.YtpnancidgobehaaDoor
namespace Go.Proofs.YtpnancidgobehaaDoor
def bothM : List Nat → Nat → Nat → Nat → List Nat
  | [], _, _, _ => []
  | r :: l, i, n, b => (r ||| ((b >>> i &&& 1) <<< n)) :: bothM l (i + 1) n b
def solLoop : List Nat → Nat → Nat → Nat → Nat → Option Nat
  | [], _, _, _, x => some x
  | r :: rs, i, u, n, x => if r.testBit n then (if u ≤ i then none else solLoop rs (i + 1) u n (x ||| 2 ^ (r % 2 ^ n).log2)) else solLoop rs (i + 1) u n x
def lessL : List Nat → Nat → Nat
  | [], x => x
  | r :: rs, x => lessL rs (if x.testBit r.log2 then x ^^^ r else x)
def solR (l : List Nat) (n b : Nat) : Option Nat := (solLoop (elimd (bothM l 0 n b) n).1 0 (elimd (bothM l 0 n b) n).2 n 0).map (lessL (orthR l n))
/-- x solves the equations. -/
def Sol (l : List Nat) (n b x : Nat) : Prop := x < 2 ^ n ∧ ∀ i, i < l.length → dotB n (l.getD i 0) x = b.testBit i
/-- No lead of what is orthogonal to all rows is in x. -/
def Least (l : List Nat) (n x : Nat) : Prop := ∀ k, Orth l n k → k ≠ 0 → x.testBit k.log2 = false
theorem bothM_len (l : List Nat) (i n b : Nat) : (bothM l i n b).length = l.length := by induction l generalizing i with | nil => rfl | cons r l ih => simp [bothM, ih]
theorem bothM_getD : ∀ (l : List Nat) (i n b k : Nat), k < l.length → (bothM l i n b).getD k 0 = l.getD k 0 ||| ((b >>> (i + k) &&& 1) <<< n)
  | [], _, _, _, k, h => by simp at h
  | r :: l, i, n, b, 0, h => by simp [bothM]
  | r :: l, i, n, b, k + 1, h => by
    have := bothM_getD l (i + 1) n b k (by simpa using h)
    rw [show i + (k + 1) = i + 1 + k by omega]
    simpa [bothM] using this
theorem both_bits {l : List Nat} {n : Nat} (hl : ∀ x ∈ l, x < 2 ^ n) (b : Nat) {k : Nat} (hk : k < l.length) (j : Nat) : ((bothM l 0 n b).getD k 0).testBit j = if j = n then b.testBit k else (l.getD k 0).testBit j := by
  rw [bothM_getD l 0 n b k hk, Nat.testBit_or, Nat.zero_add, shift_bit]
  by_cases e : j = n
  · subst e
    rw [no_bit (hl _ (getD_mem hk)) (Nat.le_refl _)]; simp
  · simp [e]
theorem both_lt {l : List Nat} {n : Nat} (hl : ∀ x ∈ l, x < 2 ^ n) (b : Nat) : ∀ x ∈ bothM l 0 n b, x < 2 ^ (n + 1) := by
  intro x hx
  obtain ⟨k, hk, rfl⟩ := mem_getD hx
  rw [bothM_len] at hk
  refine Nat.lt_pow_two_of_testBit _ fun j hj => ?_
  rw [both_bits hl b hk, if_neg (by omega)]
  exact no_bit (hl _ (getD_mem hk)) (by omega)
theorem dotB_congr {n r s x : Nat} (h : ∀ k, k < n → r.testBit k = s.testBit k) : dotB n r x = dotB n s x := by
  induction n with
  | zero => rfl
  | succ n ih =>
    show (dotB n r x != (r.testBit n && x.testBit n)) = (dotB n s x != (s.testBit n && x.testBit n))
    rw [ih fun k hk => h k (by omega), h n (by omega)]
/-- The row, and 1 in the column behind. -/
theorem ext_dot {n x : Nat} (hx : x < 2 ^ n) (r : Nat) : dotB (n + 1) r (x ^^^ 2 ^ n) = (dotB n r x != r.testBit n) := by
  show (dotB n r (x ^^^ 2 ^ n) != (r.testBit n && (x ^^^ 2 ^ n).testBit n)) = _
  have h1 : dotB n r (x ^^^ 2 ^ n) = dotB n r x := by
    rw [dotB_comm, dotB_comm n r]
    refine dotB_congr fun k hk => ?_
    rw [Nat.testBit_xor, Nat.testBit_two_pow]
    have : ¬ n = k := by omega
    simp [this]
  rw [h1, Nat.testBit_xor, no_bit hx (Nat.le_refl _), Nat.testBit_two_pow]
  simp
theorem ext_lt {n x : Nat} (hx : x < 2 ^ n) : x ^^^ 2 ^ n < 2 ^ (n + 1) := Nat.xor_lt_two_pow (Nat.lt_of_lt_of_le hx (Nat.pow_le_pow_right (by omega) (by omega))) (Nat.pow_lt_pow_right (by omega) (by omega))
theorem sol_ext {l : List Nat} {n : Nat} (hl : ∀ x ∈ l, x < 2 ^ n) (b x : Nat) : Sol l n b x ↔ x < 2 ^ n ∧ Orth (bothM l 0 n b) (n + 1) (x ^^^ 2 ^ n) := by
  have key : ∀ k, k < l.length → x < 2 ^ n → (dotB (n + 1) ((bothM l 0 n b).getD k 0) (x ^^^ 2 ^ n) = false ↔ dotB n (l.getD k 0) x = b.testBit k) := by
    intro k hk hx
    rw [ext_dot hx, both_bits hl b hk, if_pos rfl, dotB_congr (s := l.getD k 0) fun j hj => by rw [both_bits hl b hk, if_neg (by omega)]]
    cases dotB n (l.getD k 0) x <;> cases b.testBit k <;> simp
  constructor
  · rintro ⟨hx, h⟩
    refine ⟨hx, ext_lt hx, fun r hr => ?_⟩
    obtain ⟨k, hk, rfl⟩ := mem_getD hr
    rw [bothM_len] at hk
    exact (key k hk hx).2 (h k hk)
  · rintro ⟨hx, h1, h2⟩
    refine ⟨hx, fun k hk => (key k hk hx).1 (h2 _ (getD_mem (by rw [bothM_len]; exact hk)))⟩
theorem solLoop_spec (n u : Nat) : ∀ (rs : List Nat) (i x : Nat),
    (∃ y, solLoop rs i u n x = some y ∧ (∀ k, k < rs.length → u ≤ i + k → (rs.getD k 0).testBit n = false) ∧ ∀ j, y.testBit j = (x.testBit j || decide (∃ k, k < rs.length ∧ (rs.getD k 0).testBit n = true ∧ (rs.getD k 0 % 2 ^ n).log2 = j))) ∨
    (solLoop rs i u n x = none ∧ ∃ k, k < rs.length ∧ u ≤ i + k ∧ (rs.getD k 0).testBit n = true)
  | [], i, x => .inl ⟨x, rfl, by simp, by simp⟩
  | r :: rs, i, x => by
    have hup : ∀ (P : Nat → Nat → Prop), (∃ k, k < (r :: rs).length ∧ P k ((r :: rs).getD k 0)) ↔ (P 0 r ∨ ∃ k, k < rs.length ∧ P (k + 1) (rs.getD k 0)) := by
      intro P
      constructor
      · rintro ⟨k, hk, hP⟩
        match k, hk, hP with
        | 0, _, hP => exact .inl (by simpa using hP)
        | k + 1, hk, hP => exact .inr ⟨k, by simpa using hk, by simpa using hP⟩
      · rintro (hP | ⟨k, hk, hP⟩)
        · exact ⟨0, by simp, by simpa using hP⟩
        · exact ⟨k + 1, by simpa using hk, by simpa using hP⟩
    unfold solLoop
    cases hb : r.testBit n
    · rw [if_neg (by decide)]
      rcases solLoop_spec n u rs (i + 1) x with ⟨y, h1, h2, h3⟩ | ⟨h1, k, h2, h3, h4⟩
      · refine .inl ⟨y, h1, ?_, fun j => ?_⟩
        · intro k hk hu
          match k, hk, hu with
          | 0, _, _ => simpa using hb
          | k + 1, hk, hu => simpa using h2 k (by simpa using hk) (by omega)
        · rw [h3 j]
          congr 1
          rw [decide_eq_decide, hup fun k s => s.testBit n = true ∧ (s % 2 ^ n).log2 = j]
          constructor
          · exact .inr
          · rintro (⟨h, _⟩ | h)
            · rw [hb] at h; exact absurd h (by decide)
            · exact h
      · exact .inr ⟨h1, k + 1, by simpa using h2, by omega, by simpa using h4⟩
    · rw [if_pos rfl]
      by_cases hu : u ≤ i
      · rw [if_pos hu]
        exact .inr ⟨rfl, 0, by simp, by omega, by simpa using hb⟩
      · rw [if_neg hu]
        rcases solLoop_spec n u rs (i + 1) (x ||| 2 ^ (r % 2 ^ n).log2) with ⟨y, h1, h2, h3⟩ | ⟨h1, k, h2, h3, h4⟩
        · refine .inl ⟨y, h1, ?_, fun j => ?_⟩
          · intro k hk hu2
            match k, hk, hu2 with
            | 0, _, hu2 => omega
            | k + 1, hk, hu2 => simpa using h2 k (by simpa using hk) (by omega)
          · rw [h3 j, Nat.testBit_or, Nat.testBit_two_pow, Bool.or_assoc]
            congr 1
            rw [Bool.eq_iff_iff]
            simp only [Bool.or_eq_true, decide_eq_true_eq]
            rw [hup fun k s => s.testBit n = true ∧ (s % 2 ^ n).log2 = j]
            constructor
            · rintro (h | h)
              · exact .inl ⟨hb, h⟩
              · exact .inr h
            · rintro (⟨_, h⟩ | h)
              · exact .inl h
              · exact .inr h
        · exact .inr ⟨h1, k + 1, by simpa using h2, by omega, by simpa using h4⟩
theorem lessL_spec {l : List Nat} {n b : Nat} : ∀ (R done : List Nat) (x : Nat), Red (done ++ R) → (∀ r ∈ R, Orth l n r) → Sol l n b x → (∀ r ∈ done, x.testBit r.log2 = false) → Sol l n b (lessL R x) ∧ ∀ r ∈ done ++ R, (lessL R x).testBit r.log2 = false
  | [], done, x, _, _, h1, h2 => by simpa [lessL] using ⟨h1, h2⟩
  | r :: R, done, x, hR, hO, h1, h2 => by
    unfold lessL
    have e : done ++ r :: R = (done ++ [r]) ++ R := by simp
    have hlow : ∀ a ∈ done, r.testBit a.log2 = false := by
      intro a ha
      cases hb : r.testBit a.log2
      · rfl
      · have h3 := hR.alone a (by simp [ha]) r (by simp) hb
        have h4 := (List.pairwise_append.1 hR.fall).2.2 a ha r (by simp)
        rw [h3] at h4; omega
    have hr0 := hR.nz r (by simp)
    rw [e] at hR ⊢
    refine lessL_spec R (done ++ [r]) _ hR (fun q hq => hO q (by simp [hq])) ?_ ?_
    · split
      · have hOr := hO r (by simp)
        refine ⟨Nat.xor_lt_two_pow h1.1 hOr.1, fun i hi => ?_⟩
        rw [dotB_xorR, h1.2 i hi, hOr.2 _ (getD_mem hi)]; simp
      · exact h1
    · intro a ha
      rcases List.mem_append.1 ha with ha | ha
      · split
        · rw [Nat.testBit_xor, h2 a ha, hlow a ha]; rfl
        · exact h2 a ha
      · simp at ha; subst ha
        split
        · rename_i hb
          rw [Nat.testBit_xor, hb, top_bit hr0]; rfl
        · rename_i hb
          simpa using hb
theorem solR_spec {l : List Nat} {n b : Nat} (hl : ∀ x ∈ l, x < 2 ^ n) : (∃ x, solR l n b = some x ∧ Sol l n b x ∧ Least l n x) ∨ (solR l n b = none ∧ ∀ x, ¬ Sol l n b x) := by
  obtain ⟨p, h⟩ := elimd_spec (bothM l 0 n b) n
  unfold solR
  generalize (elimd (bothM l 0 n b) n).1 = o at *
  generalize (elimd (bothM l 0 n b) n).2 = u at *
  have hle := h.le
  have hso : ∀ x, Sol l n b x ↔ x < 2 ^ n ∧ ∀ k, k < o.length → dotB n (o.getD k 0) x = (o.getD k 0).testBit n := by
    intro x
    rw [sol_ext hl]
    constructor
    · rintro ⟨hx, hO⟩
      refine ⟨hx, fun k hk => ?_⟩
      have := ((orth_iff h.span).2 hO).2 _ (getD_mem hk)
      rw [ext_dot hx] at this
      revert this
      cases dotB n (o.getD k 0) x <;> cases (o.getD k 0).testBit n <;> simp
    · rintro ⟨hx, hO⟩
      refine ⟨hx, (orth_iff h.span).1 ⟨ext_lt hx, fun r hr => ?_⟩⟩
      obtain ⟨k, hk, rfl⟩ := mem_getD hr
      rw [ext_dot hx, hO k hk]; simp
  have hlow : ∀ k, u ≤ k → k < o.length → ∀ x, dotB n (o.getD k 0) x = false := fun k h1 h2 x => dotB_none fun j hj => by rw [h.rest k h1 h2 j (by omega) hj]; rfl
  rcases solLoop_spec n u o 0 0 with ⟨y, h1, h2, h3⟩ | ⟨h1, k, h2, h3, h4⟩
  · left
    rw [h1]
    have hlog : ∀ k, k < u → (o.getD k 0 % 2 ^ n).log2 = p k := by
      intro k hk
      obtain ⟨_, l2, l3, l4⟩ := h.lead k hk
      refine log_eq ?_ ?_
      · rw [Nat.testBit_mod_two_pow, l3]; simp [l2]
      · refine lt_of_bits n (Nat.mod_lt _ (Nat.pow_pos (by omega))) fun j hj1 hj2 => ?_
        rw [Nat.testBit_mod_two_pow, l4 j (by omega) hj2]; simp
    have hy : ∀ j, y.testBit j = true ↔ ∃ k, k < u ∧ (o.getD k 0).testBit n = true ∧ p k = j := by
      intro j
      rw [h3 j]
      simp only [Nat.zero_testBit, Bool.false_or, decide_eq_true_eq]
      constructor
      · rintro ⟨k, k1, k2, k3⟩
        have hk : k < u := Nat.lt_of_not_le fun hh => by rw [h2 k k1 (by omega)] at k2; exact absurd k2 (by decide)
        exact ⟨k, hk, k2, by rw [← hlog k hk]; exact k3⟩
      · rintro ⟨k, k1, k2, k3⟩
        exact ⟨k, by omega, k2, by rw [hlog k k1]; exact k3⟩
    have hinj : ∀ a b, a < u → b < u → p a = p b → a = b := by
      intro a b ha hb e
      rcases Nat.lt_trichotomy a b with hh | hh | hh
      · have := h.fall a b hh hb; omega
      · exact hh
      · have := h.fall b a hh ha; omega
    have hys : Sol l n b y := by
      rw [hso]
      refine ⟨Nat.lt_pow_two_of_testBit _ fun j hj => ?_, fun k hk => ?_⟩
      · cases hb : y.testBit j
        · rfl
        · obtain ⟨k, k1, _, k3⟩ := (hy j).1 hb
          have := (h.lead k k1).2.1
          omega
      · by_cases hu : k < u
        · obtain ⟨_, l2, l3, l4⟩ := h.lead k hu
          rw [dotB_one l2]
          · rw [l3, Bool.true_and, Bool.eq_iff_iff, hy]
            constructor
            · rintro ⟨k', q1, q2, q3⟩
              rw [← hinj k' k q1 hu q3]; exact q2
            · intro hb; exact ⟨k, hu, hb, rfl⟩
          · intro j hj hne
            cases hb : y.testBit j
            · simp
            · obtain ⟨k', q1, q2, q3⟩ := (hy j).1 hb
              have hkk : k ≠ k' := fun e => hne (by rw [← q3, e])
              rw [← q3, h.alone k' q1 k hk hkk]; rfl
        · rw [hlow k (by omega) hk, h2 k hk (by omega)]
    obtain ⟨o1, o2⟩ := orthR_spec hl
    obtain ⟨s1, s2⟩ := lessL_spec (l := l) (n := n) (b := b) (orthR l n) [] y (by simpa using o1) (fun r hr => (o2 r).1 (.of_mem hr)) hys (by simp)
    refine ⟨_, rfl, s1, fun k hk hk0 => ?_⟩
    obtain ⟨r, hr, he⟩ := o1.lead ((o2 k).2 hk) hk0
    rw [← he]
    exact s2 r (by simpa using hr)
  · right
    rw [h1]
    refine ⟨rfl, fun x hx => ?_⟩
    have := ((hso x).1 hx).2 k h2
    rw [hlow k (by omega) h2, h4] at this
    exact absurd this (by decide)
theorem least_unique {l : List Nat} {n b x y : Nat} (hx : Sol l n b x) (hy : Sol l n b y) (lx : Least l n x) (ly : Least l n y) : x = y := by
  refine Classical.byContradiction fun hne => ?_
  have hO : Orth l n (x ^^^ y) := ⟨Nat.xor_lt_two_pow hx.1 hy.1, fun r hr => by
    obtain ⟨k, hk, rfl⟩ := mem_getD hr
    rw [dotB_xorR, hx.2 k hk, hy.2 k hk]; simp⟩
  have h0 : x ^^^ y ≠ 0 := fun e => hne (by
    have h2 : x ^^^ y ^^^ y = y := by rw [e, Nat.zero_xor]
    rwa [Nat.xor_assoc, Nat.xor_self, Nat.xor_zero] at h2)
  have := top_bit h0
  rw [Nat.testBit_xor, lx _ hO h0, ly _ hO h0] at this
  exact absurd this (by decide)
-- the program's least choice of rows
/-- What is left of a row: what it is made of. -/
theorem rest_made {d : List Nat} {S : Sys} (h : Inv d S) {row : Nat} (hr : row < R24) : tot d (restM S.at_ 24 0 ⟨row, 0⟩).of = row ^^^ (restM S.at_ 24 0 ⟨row, 0⟩).row ∧ (restM S.at_ 24 0 ⟨row, 0⟩).of < 2 ^ d.length ∧ (∀ q ∈ S.rel, (restM S.at_ 24 0 ⟨row, 0⟩).of.testBit q.log2 = false) ∧ ((restM S.at_ 24 0 ⟨row, 0⟩).row = 0 ↔ InSp d row) := by
  have hP : tot d (restM S.at_ 24 0 ⟨row, 0⟩).of = row ^^^ (restM S.at_ 24 0 ⟨row, 0⟩).row ∧ (restM S.at_ 24 0 ⟨row, 0⟩).of < 2 ^ d.length ∧ (∀ q ∈ S.rel, (restM S.at_ 24 0 ⟨row, 0⟩).of.testBit q.log2 = false) ∧ InSp (rowsM S.at_) (row ^^^ (restM S.at_ 24 0 ⟨row, 0⟩).row) := by
    refine restM_ind (P := fun y => tot d y.of = row ^^^ y.row ∧ y.of < 2 ^ d.length ∧ (∀ q ∈ S.rel, y.of.testBit q.log2 = false) ∧ InSp (rowsM S.at_) (row ^^^ y.row)) ?_ _ _ _ ?_
    · rintro k y ⟨h1, h2, h3, h4⟩
      obtain ⟨t1, t2⟩ := h.tot k
      refine ⟨?_, Nat.xor_lt_two_pow h2 t2, fun q hq => ?_, ?_⟩
      · show totF d 0 (y.of ^^^ _) = row ^^^ (y.row ^^^ _)
        rw [totF_xor]
        unfold tot at h1 t1
        rw [h1, t1, Nat.xor_assoc]
      · show (y.of ^^^ _).testBit _ = false
        rw [Nat.testBit_xor, h3 q hq, h.ofA k q hq]; rfl
      · show InSp _ (row ^^^ (y.row ^^^ _))
        rw [← Nat.xor_assoc]; exact h4.xor (in_rows k)
    · refine ⟨?_, Nat.pow_pos (by omega), fun q _ => by simp, ?_⟩
      · show tot d 0 = row ^^^ row
        rw [Nat.xor_self]; exact totF_zero _ _
      · show InSp _ (row ^^^ row)
        rw [Nat.xor_self]; exact .zero
  obtain ⟨p1, p2, p3, p4⟩ := hP
  refine ⟨p1, p2, p3, fun h0 => ?_, fun hin => ?_⟩
  · rw [h0, Nat.xor_zero] at p1
    have := tot_in d (restM S.at_ 24 0 ⟨row, 0⟩).of
    rwa [p1] at this
  · have := ((h.span row).1 hin).xor p4
    rw [xor_cancel] at this
    exact h.led.zero this (restM_clear h.led 24 0 _ rfl fun j hj => by omega)
theorem made_iff {d : List Nat} {S : Sys} (h : Inv d S) {row : Nat} (hr : row < R24) : (madeM S.at_ row).2 = true ↔ InSp d row := by
  rw [← (rest_made h hr).2.2.2]
  unfold madeM
  dsimp only
  split
  · rename_i h0; simp [h0]
  · rename_i h0; simp [h0]
/-- With the rows as columns of equations. -/
theorem leastP_spec {l : List Nat} {n b : Nat} (hl : l.length ≤ 24) (hn : n ≤ 40) (hb : b < 2 ^ l.length) : (∃ x, madeM (spanned (transposedM l n)).at_ b = (x, true) ∧ Sol l n b x ∧ Least l n x) ∨ (madeM (spanned (transposedM l n)).at_ b = (0, false) ∧ ∀ x, ¬ Sol l n b x) := by
  have hI := null_inv hl hn
  have hb24 : b < R24 := by
    have : 2 ^ l.length ≤ 2 ^ 24 := Nat.pow_le_pow_right (by omega) hl
    unfold R24; omega
  obtain ⟨r1, r2, r3, r4⟩ := rest_made hI hb24
  have hsol : ∀ x, x < 2 ^ n → (tot (transposedM l n) x = b ↔ Sol l n b x) := by
    intro x hx
    constructor
    · intro h
      refine ⟨hx, fun i hi => ?_⟩
      rw [← tot_cols, h]
    · rintro ⟨_, h⟩
      apply Nat.eq_of_testBit_eq
      intro i
      rw [tot_cols]
      by_cases hi : i < l.length
      · exact h i hi
      · rw [getD_none (by omega), dotB_zeroL, no_bit hb (by omega)]
  unfold madeM
  dsimp only
  rw [trans_len] at r2
  split
  · rename_i h0
    rw [h0, Nat.xor_zero] at r1
    refine .inl ⟨_, rfl, (hsol _ r2).1 r1, fun k hk hk0 => ?_⟩
    have hin : InSp (spanned (transposedM l n)).rel k := (rel_span hI k).2 ⟨by rw [trans_len]; exact hk.1, (cols_zero l n k).2 hk.2⟩
    obtain ⟨r, hr, he⟩ := (rel_red hI).lead ((inSp_reverse _ k).2 hin) hk0
    rw [← he]
    exact r3 r (by simpa using hr)
  · rename_i h0
    refine .inr ⟨rfl, fun x hx => h0 (r4.2 ?_)⟩
    rw [← (hsol x hx.1).2 hx]
    exact tot_in _ _
theorem sol_same {l : List Nat} {n b : Nat} (hl : ∀ x ∈ l, x < 2 ^ n) (hll : l.length ≤ 24) (hn : n ≤ 40) (hb : b < 2 ^ l.length) : madeM (spanned (transposedM l n)).at_ b = match solR l n b with | some x => (x, true) | none => (0, false) := by
  rcases solR_spec (b := b) hl with ⟨x, h1, h2, h3⟩ | ⟨h1, h2⟩ <;> rcases leastP_spec hll hn hb with ⟨y, k1, k2, k3⟩ | ⟨k1, k2⟩
  · rw [h1, k1, least_unique h2 k2 h3 k3]
  · exact absurd h2 (k2 x)
  · exact absurd k2 (h2 y)
  · rw [h1, k1]
/-- Turned twice it is as it was, as far as columns go. -/
theorem turned_twice {l : List Nat} {n : Nat} (hl : ∀ x ∈ l, x < 2 ^ n) : transposedM (transposedM l n) l.length = l := by
  refine List.ext_getElem (by simp [transposedM]) fun i h1 h2 => ?_
  have h3 : i < l.length := h2
  have e : (transposedM (transposedM l n) l.length)[i] = colM (transposedM l n) 0 i 0 := by simp [transposedM]
  rw [e]
  apply Nat.eq_of_testBit_eq
  intro j
  rw [col_bit]
  by_cases hj : j < n
  · have : (transposedM l n).getD j 0 = colM l 0 j 0 := by
      rw [List.getD_eq_getElem?_getD]; simp [transposedM, hj]
    rw [this, col_bit, List.getD_eq_getElem?_getD, List.getElem?_eq_getElem h3]; rfl
  · rw [getD_none (by rw [trans_len]; omega), no_bit (hl _ (List.getElem_mem h2)) (by omega)]; simp
/-- Which rows have the given one as their sum. -/
theorem which_same {l : List Nat} {n x : Nat} (hl : ∀ x ∈ l, x < 2 ^ n) (hll : l.length ≤ 24) (hn : n ≤ 24) (hx : x < 2 ^ n) : madeM (spanned l).at_ x = match solR (transposedM l n) l.length x with | some y => (y, true) | none => (0, false) := by
  have := sol_same (l := transposedM l n) (n := l.length) (b := x) (trans_lt (Nat.le_refl _) n) (by rw [trans_len]; exact hn) (by omega) (by rw [trans_len]; exact hx)
  rwa [turned_twice hl] at this
end Go.Proofs.YtpnancidgobehaaDoor
namespace Go.Proofs.YtpnancidgobehaaDoor
theorem spanM_append : ∀ (l m : List Nat) (i : Nat) (S : Sys), spanM (l ++ m) i S = spanM m (i + l.length) (spanM l i S)
  | [], m, i, S => by simp [spanM]
  | r :: l, m, i, S => by
    simp only [List.cons_append, spanM, List.length_cons]
    rw [spanM_append l m]
    congr 1; omega
theorem spanned_snoc (l : List Nat) (x : Nat) : spanned (l ++ [x]) = stepM (spanned l) l.length x := by
  unfold spanned
  rw [spanM_append]
  simp [spanM]
/-- The reference's test: the rank is the same with the row. -/
theorem member_same {l : List Nat} {n x : Nat} (hl : ∀ x ∈ l, x < 2 ^ n) (hll : l.length ≤ 24) (hn : n ≤ 24) (hx : x < 2 ^ n) : (madeM (spanned l).at_ x).2 = decide ((redR (l ++ [x]) n).length = (redR l n).length) := by
  have hI := inv_spanned (red24 hn hl) (show l.length ≤ 40 by omega)
  have hl2 : ∀ y ∈ l ++ [x], y < 2 ^ n := fun y hy => by
    rcases List.mem_append.1 hy with hy | hy
    · exact hl y hy
    · simp at hy; rw [hy]; exact hx
  have hx24 : x < R24 := red24 hn hl2 x (by simp)
  have hI2 := inv_spanned (red24 hn hl2) (show (l ++ [x]).length ≤ 40 by simp; omega)
  have h1 := hI.cnt
  have h2 := hI2.cnt
  rw [← reduced_eq hn hl (by omega), ← reduced_eq hn hl2 (by simp; omega)]
  rw [Bool.eq_iff_iff, made_iff hI hx24, decide_eq_true_eq]
  constructor
  · intro hin
    have : redR (l ++ [x]) n = redR l n := (redR_spec hl2).1.unique (redR_spec hl).1 fun y => by
      rw [(redR_spec hl2).2, (redR_spec hl).2]
      refine InSp.iff ?_ (fun r hr => .of_mem (by simp [hr])) y
      intro r hr
      rcases List.mem_append.1 hr with hr | hr
      · exact .of_mem hr
      · simp at hr; rw [hr]; exact hin
    rw [reduced_eq hn hl (by omega), reduced_eq hn hl2 (by simp; omega), this]
  · intro he
    rw [spanned_snoc] at he h2
    unfold stepM at he h2
    have hin2 : ∀ y : Sm, y.row = 0 → InSp (rowsM (spanned l).at_) (x ^^^ y.row) → InSp l x := fun y h0 hy => by
      rw [h0, Nat.xor_zero] at hy
      exact (hI.span x).2 hy
    have hP : InSp (rowsM (spanned l).at_) (x ^^^ (restM (spanned l).at_ 24 0 ⟨x, 2 ^ l.length⟩).row) := by
      refine restM_ind (P := fun y => InSp (rowsM (spanned l).at_) (x ^^^ y.row)) ?_ _ _ _ ?_
      · intro k y hy
        show InSp _ (x ^^^ (y.row ^^^ _))
        rw [← Nat.xor_assoc]; exact hy.xor (in_rows k)
      · show InSp _ (x ^^^ x)
        rw [Nat.xor_self]; exact .zero
    have hp40 : 2 ^ l.length < O40 := by
      have : 2 ^ l.length < 2 ^ 40 := Nat.pow_lt_pow_right (by omega) (by omega)
      simpa [O40] using this
    have hok : (restM (spanned l).at_ 24 0 ⟨x, 2 ^ l.length⟩).ok := restM_ok hI.small _ _ _ ⟨hx24, hp40⟩
    split at he
    · rename_i k hk
      rw [hk] at h2
      dsimp only at he h2
      simp at h2
      omega
    · rename_i hk
      refine hin2 _ ?_ hP
      have := lt_of_bits (k := 0) 24 (by have := hok.1; simpa [R24] using this) fun j _ h2 => leadM_none hk j h2
      simpa using this
theorem rows_of_led {A : List Sm} (h : Led A) : reducedM A = ((A.map Sm.row).filter fun r => decide (r ≠ 0)).reverse := by
  unfold reducedM
  congr 1
  rw [List.filter_map]
  congr 1
  refine List.filter_congr fun y hy => ?_
  obtain ⟨k, _, rfl⟩ := mem_rowAt hy
  simp only [Function.comp, decide_eq_decide]
  refine not_congr ⟨fun e => by rw [e]; rfl, fun e => h.nz e⟩
def byLeadM (A : List Sm) : List Nat := A.map Sm.row
theorem byLead_at (A : List Sm) (k : Nat) : (byLeadM A).getD k 0 = (rowAt A k).row := by
  unfold byLeadM rowAt
  rw [List.getD_eq_getElem?_getD, List.getD_eq_getElem?_getD, List.getElem?_map]
  cases A[k]? <;> rfl
theorem byLead_eq {A B : List Sm} (hA : Led A) (hB : Led B) : byLeadM A = byLeadM B ↔ reducedM A = reducedM B := by
  constructor
  · intro h
    rw [rows_of_led hA, rows_of_led hB]
    unfold byLeadM at h
    rw [h]
  · intro h
    have key : ∀ {A B : List Sm}, Led A → Led B → reducedM A = reducedM B → ∀ k, k < 24 → rowAt A k ≠ sm0 → (rowAt B k).row = (rowAt A k).row := by
      intro A B hA hB h k hk h0
      have hm : (rowAt A k).row ∈ reducedM B := by rw [← h]; exact mem_reduced.2 ⟨k, by have := hA.len; omega, h0, rfl⟩
      obtain ⟨j, _, hj, he⟩ := mem_reduced.1 hm
      have h1 := hB.log hj
      rw [he, hA.log h0] at h1
      rw [h1] at he ⊢; exact he
    refine List.ext_getElem? fun k => ?_
    by_cases hk : k < 24
    · have hlA : k < (byLeadM A).length := by unfold byLeadM; rw [List.length_map]; have := hA.len; omega
      have hlB : k < (byLeadM B).length := by unfold byLeadM; rw [List.length_map]; have := hB.len; omega
      rw [getD_at hlA, getD_at hlB, byLead_at, byLead_at]
      by_cases h1 : rowAt A k = sm0
      · by_cases h2 : rowAt B k = sm0
        · rw [h1, h2]
        · rw [key hB hA h.symm k hk h2]
      · rw [key hA hB h k hk h1]
    · rw [List.getElem?_eq_none (by unfold byLeadM; rw [List.length_map]; have := hA.len; omega), List.getElem?_eq_none (by unfold byLeadM; rw [List.length_map]; have := hB.len; omega)]
/-- The same spans. -/
theorem same_same {a b : List Nat} {n : Nat} (hn : n ≤ 24) (ha : ∀ x ∈ a, x < 2 ^ n) (hb : ∀ x ∈ b, x < 2 ^ n) (hal : a.length ≤ 24) (hbl : b.length ≤ 24) : byLeadM (spanned a).at_ = byLeadM (spanned b).at_ ↔ redR a n = redR b n := by
  rw [byLead_eq (inv_spanned (red24 hn ha) (by omega)).led (inv_spanned (red24 hn hb) (by omega)).led, reduced_eq hn ha (by omega), reduced_eq hn hb (by omega)]
/-- The columns that are no lead. -/
theorem free_same {l : List Nat} {n : Nat} (hn : n ≤ 24) (hl : ∀ x ∈ l, x < 2 ^ n) (hll : l.length ≤ 24) : freeM (spanned l).at_ n = (List.range n).filter fun c => !(leadsM (redR l n)).testBit c := by
  have hI := inv_spanned (red24 hn hl) (show l.length ≤ 40 by omega)
  unfold freeM
  refine List.filter_congr fun c hc => ?_
  rw [List.mem_range] at hc
  rw [← reduced_eq hn hl (by omega), Bool.eq_iff_iff, decide_eq_true_eq, Bool.not_eq_true', leads_bit, List.any_eq_false]
  constructor
  · intro h r hr
    obtain ⟨k, _, hk, rfl⟩ := mem_reduced.1 hr
    rw [hI.led.log hk]
    simp only [decide_eq_true_eq]
    rintro rfl
    exact hk h
  · intro h
    refine Classical.byContradiction fun hn0 => ?_
    have := h _ (mem_reduced.2 ⟨c, by have := hI.led.len; omega, hn0, rfl⟩)
    simp [hI.led.log hn0] at this
/-- What two spans have in common. -/
theorem meet_same {a b : List Nat} {n : Nat} (hn : n ≤ 16) (ha : ∀ x ∈ a, x < 2 ^ n) (hb : ∀ x ∈ b, x < 2 ^ n) (hal : a.length ≤ 24) (hbl : b.length ≤ 24) :
    nullM (reducedM (spanned (nullM a n ++ nullM b n)).at_) n = orthR (orthR a n ++ orthR b n) n := by
  rw [null_eq ha hal (by omega), null_eq hb hbl (by omega)]
  have lt : ∀ {l : List Nat}, (∀ x ∈ l, x < 2 ^ n) → ∀ x ∈ orthR l n, x < 2 ^ n := fun hl x hx => (((orthR_spec hl).2 x).1 (.of_mem hx)).1
  have hlt : ∀ x ∈ orthR a n ++ orthR b n, x < 2 ^ n := fun x hx => by
    rcases List.mem_append.1 hx with hx | hx
    · exact lt ha x hx
    · exact lt hb x hx
  have hlen : ∀ {l : List Nat}, (∀ x ∈ l, x < 2 ^ n) → l.length ≤ 24 → (orthR l n).length ≤ n := fun {l} hl hll => by
    rw [← null_eq hl hll (by omega)]
    unfold nullM
    rw [List.length_reverse]
    have := (null_inv hll (show n ≤ 40 by omega)).cnt
    rw [trans_len] at this
    omega
  have h1 := hlen ha hal
  have h2 := hlen hb hbl
  rw [reduced_eq (by omega) hlt (by simp; omega)]
  have hr := redR_spec hlt
  have hrl : ∀ x ∈ redR (orthR a n ++ orthR b n) n, x < 2 ^ n := redR_lt hlt
  have hr24 : (redR (orthR a n ++ orthR b n) n).length ≤ 24 := by
    rw [← reduced_eq (by omega) hlt (by simp; omega)]
    have hI := inv_spanned (red24 (show n ≤ 24 by omega) hlt) (by simp; omega)
    unfold reducedM
    rw [List.length_reverse, List.length_map]
    exact Nat.le_trans (List.length_filter_le _ _) (Nat.le_of_eq hI.led.len)
  rw [null_eq hrl hr24 (by omega)]
  refine (orthR_spec hrl).1.unique (orthR_spec hlt).1 fun x => ?_
  rw [(orthR_spec hrl).2, (orthR_spec hlt).2, orth_iff hr.2]
/-- Inverses. -/
theorem pow_of {r k : Nat} (h : ∀ j, r.testBit j = decide (k = j)) : r = 2 ^ k := by
  apply Nat.eq_of_testBit_eq
  intro j
  rw [h, Nat.testBit_two_pow]
theorem range_len {p : Nat → Bool} {n : Nat} (h : ((List.range n).filter p).length = n) : ∀ k, k < n → p k = true := by
  intro k hk
  have h1 := List.length_filter_eq_length_iff.1 (h.trans (List.length_range (n := n)).symm)
  exact h1 k (by simpa using hk)
theorem count_leads {A : List Sm} (h : A.length = 24) : (reducedM A).length = ((List.range 24).filter fun k => decide (rowAt A k ≠ sm0)).length := by
  have e : A = (List.range 24).map (rowAt A) := by
    refine List.ext_getElem? fun i => ?_
    by_cases hi : i < 24
    · rw [List.getElem?_map, List.getElem?_range hi]
      unfold rowAt
      show A[i]? = some (A.getD i sm0)
      rw [List.getD_eq_getElem?_getD, List.getElem?_eq_getElem (by omega)]; rfl
    · rw [List.getElem?_eq_none (by omega), List.getElem?_eq_none (by simp; omega)]
  unfold reducedM
  rw [List.length_reverse, List.length_map]
  conv => lhs; rw [e]
  rw [List.filter_map, List.length_map]
  rfl
theorem full_rows {l : List Nat} {n : Nat} (hl : ∀ x ∈ l, x < 2 ^ n) (hn : n ≤ 24) (hll : l.length = n) (hrel : (spanned l).rel = []) : ∀ k, k < n → (rowAt (spanned l).at_ k).row = 2 ^ k := by
  have hI := inv_spanned (red24 hn hl) (show l.length ≤ 40 by omega)
  have hc := hI.cnt
  rw [hrel] at hc
  simp at hc
  have hrow : ∀ j, (rowAt (spanned l).at_ j).row < 2 ^ n := fun j => ((hI.span _).2 (in_rows j)).lt hl
  have hhi : ∀ j, n ≤ j → rowAt (spanned l).at_ j = sm0 := fun j hj => Classical.byContradiction fun h0 => by
    have := (hI.led.bit h0).1
    rw [no_bit (hrow j) hj] at this; exact absurd this (by decide)
  have hlo : ∀ k, k < n → rowAt (spanned l).at_ k ≠ sm0 := by
    have h1 : ((List.range n).filter fun k => decide (rowAt (spanned l).at_ k ≠ sm0)).length = n := by
      rw [count_leads hI.led.len, show 24 = n + (24 - n) by omega, List.range_add, List.filter_append] at hc
      have h2 : ((List.range (24 - n)).map (n + ·)).filter (fun k => decide (rowAt (spanned l).at_ k ≠ sm0)) = [] := by
        rw [List.filter_eq_nil_iff]
        intro a ha
        simp only [List.mem_map] at ha
        obtain ⟨b, _, rfl⟩ := ha
        simp [hhi (n + b) (by omega)]
      rw [h2, List.append_nil] at hc
      omega
    intro k hk
    have := range_len h1 k hk
    simpa using this
  intro k hk
  refine pow_of fun j => ?_
  by_cases e : k = j
  · subst e; rw [(hI.led.bit (hlo k hk)).1]; simp
  · simp only [e, decide_false]
    by_cases hj : j < n
    · exact hI.led.alone k j (hlo j hj) e
    · exact no_bit (hrow k) (by omega)
theorem invert_none {l : List Nat} {n : Nat} (hl : ∀ x ∈ l, x < 2 ^ n) (hn : n ≤ 24) (hll : l.length = n) : (spanned l).rel = [] ↔ ¬ (redR l n).length < n := by
  have hI := inv_spanned (red24 hn hl) (show l.length ≤ 40 by omega)
  have hc := hI.cnt
  rw [reduced_eq hn hl (by omega)] at hc
  rw [← List.length_eq_zero_iff]
  omega
theorem invert_same {l : List Nat} {n : Nat} (hl : ∀ x ∈ l, x < 2 ^ n) (hn : n ≤ 24) (hll : l.length = n) (hrel : (spanned l).rel = []) {k : Nat} (hk : k < n) : solR (transposedM l n) n (2 ^ k) = some (rowAt (spanned l).at_ k).of := by
  have hI := inv_spanned (red24 hn hl) (show l.length ≤ 40 by omega)
  have hrow := full_rows hl hn hll hrel k hk
  obtain ⟨t1, t2⟩ := hI.tot k
  rw [hrow] at t1
  have hker : ∀ y, y < 2 ^ n → tot l y = 0 → y = 0 := fun y hy h0 => by
    have := (rel_span hI y).2 ⟨by rw [hll]; exact hy, h0⟩
    rw [hrel] at this
    have : ∀ {x}, InSp [] x → x = 0 := fun h => by
      induction h with
      | zero => rfl
      | add _ hr _ => simp at hr
    exact this ‹_›
  have htl := trans_lt (l := l) (m := n) (by omega) n
  have htt : ∀ y i, (tot l y).testBit i = dotB n ((transposedM l n).getD i 0) y := by
    intro y i
    have := tot_cols (transposedM l n) n y i
    rw [← this]
    have h2 := turned_twice hl
    rw [hll] at h2
    rw [h2]
  rcases solR_spec (l := transposedM l n) (n := n) (b := 2 ^ k) htl with ⟨x, h1, h2, _⟩ | ⟨_, h2⟩
  · rw [h1]
    congr 1
    have hx : tot l x = 2 ^ k := by
      apply Nat.eq_of_testBit_eq
      intro i
      rw [htt]
      by_cases hi : i < n
      · exact h2.2 i (by rw [trans_len]; exact hi)
      · rw [getD_none (by rw [trans_len]; omega), dotB_zeroL, Nat.testBit_two_pow]
        simp; omega
    have hz : tot l (x ^^^ (rowAt (spanned l).at_ k).of) = 0 := by
      unfold tot at hx t1 ⊢
      rw [totF_xor, hx, t1, Nat.xor_self]
    have h0 := hker _ (Nat.xor_lt_two_pow h2.1 (by rw [hll] at t2; exact t2)) hz
    have h3 : x ^^^ (rowAt (spanned l).at_ k).of ^^^ (rowAt (spanned l).at_ k).of = (rowAt (spanned l).at_ k).of := by rw [h0, Nat.zero_xor]
    rwa [Nat.xor_assoc, Nat.xor_self, Nat.xor_zero] at h3
  · refine absurd ⟨by rw [hll] at t2; exact t2, fun i hi => ?_⟩ (h2 (rowAt (spanned l).at_ k).of)
    rw [← htt, t1]
end Go.Proofs.YtpnancidgobehaaDoor
namespace Go.Proofs.YtpnancidgobehaaDoor
theorem xor_eq0 {x y : Nat} (h : x ^^^ y = 0) : x = y := by
  have := xor_cancel x y
  rw [h, Nat.xor_zero] at this
  exact this
/-- Rows of which no sum is 0. -/
def Ind (R : List Nat) : Prop := ∀ y, y < 2 ^ R.length → tot R y = 0 → y = 0
def allOf (R : List Nat) : List Nat := (List.range (2 ^ R.length)).map (tot R)
theorem tot_xor (l : List Nat) (x y : Nat) : tot l (x ^^^ y) = tot l x ^^^ tot l y := totF_xor l 0 x y
theorem Ind.inj {R : List Nat} (h : Ind R) {x y : Nat} (hx : x < 2 ^ R.length) (hy : y < 2 ^ R.length) (e : tot R x = tot R y) : x = y :=
  xor_eq0 (h (x ^^^ y) (Nat.xor_lt_two_pow hx hy) (by rw [tot_xor, e, Nat.xor_self]))
theorem map_nodup {α β : Type} {f : α → β} {l : List α} (hl : l.Nodup) (h : ∀ a ∈ l, ∀ b ∈ l, f a = f b → a = b) : (l.map f).Nodup := by
  unfold List.Nodup
  rw [List.pairwise_map]
  exact List.Pairwise.imp_of_mem (fun {a b} ha hb hn e => hn (h a ha b hb e)) hl
theorem Ind.nodup {R : List Nat} (h : Ind R) : (allOf R).Nodup :=
  map_nodup List.nodup_range fun a ha b hb e => h.inj (List.mem_range.1 ha) (List.mem_range.1 hb) e
theorem mem_allOf {R : List Nat} {x : Nat} : x ∈ allOf R ↔ InSp R x := by
  unfold allOf
  rw [List.mem_map]
  constructor
  · rintro ⟨y, _, rfl⟩; exact tot_in R y
  · intro hx
    obtain ⟨y, hy, e⟩ := in_tot hx
    exact ⟨y, List.mem_range.2 hy, e⟩
theorem allOf_len (R : List Nat) : (allOf R).length = 2 ^ R.length := by simp [allOf]
theorem same_len {l m : List Nat} (hl : l.Nodup) (hm : m.Nodup) (h : ∀ x, x ∈ l ↔ x ∈ m) : l.length = m.length :=
  ((List.perm_ext_iff_of_nodup hl hm).2 h).length_eq
theorem dim_eq {R S : List Nat} (hR : Ind R) (hS : Ind S) (h : ∀ x, InSp R x ↔ InSp S x) : R.length = S.length := by
  have := same_len hR.nodup hS.nodup (fun x => by rw [mem_allOf, mem_allOf]; exact h x)
  rw [allOf_len, allOf_len] at this
  exact (Nat.pow_right_inj (by omega)).1 this
theorem totF_sel {j : Nat} : ∀ {l : List Nat} {i k r : Nat}, l[k]? = some r → r.testBit j = true → (∀ m s, l[m]? = some s → m ≠ k → s.testBit j = false) → ∀ y, (totF l i y).testBit j = y.testBit (i + k)
  | [], _, _, _, h, _, _, _ => by simp at h
  | a :: l, i, 0, r, h, hr, ho, y => by
    simp at h; subst h
    unfold totF
    rw [Nat.testBit_xor]
    have h0 : (totF l (i + 1) y).testBit j = false := by
      have : ∀ (l : List Nat) (i : Nat), (∀ s ∈ l, s.testBit j = false) → (totF l i y).testBit j = false := by
        intro l
        induction l with
        | nil => intro i _; exact Nat.zero_testBit j
        | cons b l ih =>
          intro i hl
          unfold totF
          rw [Nat.testBit_xor, ih (i + 1) (fun s hs => hl s (by simp [hs]))]
          split
          · rw [hl b (by simp)]; rfl
          · rw [Nat.zero_testBit]; rfl
      refine this l (i + 1) fun s hs => ?_
      obtain ⟨m, hm⟩ := List.mem_iff_getElem?.1 hs
      exact ho (m + 1) s (by simpa using hm) (by omega)
    rw [h0]
    cases hb : y.testBit i <;> simp [hr, hb]
  | a :: l, i, k + 1, r, h, hr, ho, y => by
    unfold totF
    rw [Nat.testBit_xor, totF_sel (l := l) (i := i + 1) (k := k) (by simpa using h) hr (fun m s hm hn => ho (m + 1) s (by simpa using hm) (by omega)) y]
    have h0 := ho 0 a (by simp) (by omega)
    rw [show i + 1 + k = i + (k + 1) by omega]
    split
    · rw [h0]; simp
    · rw [Nat.zero_testBit]; simp
theorem ind_of {R : List Nat} (p : Nat → Nat) (h : ∀ k r : Nat, R[k]? = some r → r.testBit (p k) = true ∧ ∀ m s : Nat, R[m]? = some s → m ≠ k → s.testBit (p k) = false) : Ind R := by
  intro y hy h0
  refine Nat.eq_of_testBit_eq fun k => ?_
  rw [Nat.zero_testBit]
  by_cases hk : k < R.length
  · have hk' : R[k]? = some R[k] := List.getElem?_eq_getElem hk
    have := totF_sel (i := 0) hk' (h k _ hk').1 (h k _ hk').2 y
    rw [show totF R 0 y = 0 from h0, Nat.zero_testBit, Nat.zero_add] at this
    exact this.symm
  · exact no_bit hy (by omega)
theorem Red.nodup {R : List Nat} (h : Red R) : R.Nodup := h.fall.imp fun {a b} hab e => by subst e; exact Nat.lt_irrefl _ hab
theorem nodup_at {R : List Nat} (h : R.Nodup) {k m r : Nat} (hk : R[k]? = some r) (hm : R[m]? = some r) : k = m := by
  obtain ⟨a, ha⟩ := List.getElem?_eq_some_iff.1 hk
  obtain ⟨b, hb⟩ := List.getElem?_eq_some_iff.1 hm
  have hp := List.pairwise_iff_getElem.1 h
  rcases Nat.lt_trichotomy k m with hl | hl | hl
  · exact absurd (ha.trans hb.symm) (hp k m a b hl)
  · exact hl
  · exact absurd (hb.trans ha.symm) (hp m k b a hl)
theorem Red.ind {R : List Nat} (h : Red R) : Ind R := by
  refine ind_of (fun k => (R.getD k 0).log2) fun k r hk => ?_
  have e : R.getD k 0 = r := by rw [List.getD_eq_getElem?_getD, hk]; rfl
  simp only [e]
  have hr := List.mem_of_getElem? hk
  refine ⟨top_bit (h.nz r hr), fun m s hm hn => ?_⟩
  cases hb : s.testBit r.log2
  · rfl
  · have := h.alone r hr s (List.mem_of_getElem? hm) hb
    subst this
    exact absurd (nodup_at h.nodup hm hk) hn
/-- The columns that are no lead. -/
def freeCols (R : List Nat) (n : Nat) : List Nat := (List.range n).filter fun c => !(leadsM R).testBit c
theorem filter_nodup {α : Type} {l : List α} (p : α → Bool) (h : l.Nodup) : (l.filter p).Nodup := List.Pairwise.sublist List.filter_sublist h
theorem filter_both {α : Type} (p : α → Bool) : ∀ l : List α, (l.filter p).length + (l.filter fun x => !p x).length = l.length
  | [] => rfl
  | a :: l => by
    have := filter_both p l
    cases h : p a <;> simp [h] <;> omega
theorem free_len {R : List Nat} {n : Nat} (h : Red R) (hn : ∀ x ∈ R, x < 2 ^ n) : (freeCols R n).length + R.length = n := by
  have h1 := filter_both (fun c => (leadsM R).testBit c) (List.range n)
  have h2 : ((List.range n).filter fun c => (leadsM R).testBit c).length = (R.map Nat.log2).length := by
    refine same_len (filter_nodup _ List.nodup_range) (map_nodup h.nodup fun a ha b hb e => red_inj h ha hb e) fun x => ?_
    rw [List.mem_filter, List.mem_range, leads_bit, List.mem_map, List.any_eq_true]
    constructor
    · rintro ⟨_, r, hr, e⟩; exact ⟨r, hr, by simpa using e⟩
    · rintro ⟨r, hr, e⟩
      exact ⟨by rw [← e]; exact log_lt (h.nz r hr) (hn r hr), r, hr, by simpa using e⟩
  rw [List.length_map] at h2
  rw [List.length_range] at h1
  unfold freeCols
  omega
theorem out_ind {R : List Nat} {n : Nat} (hR : Red R) (hn : ∀ x ∈ R, x < 2 ^ n) : Ind (outM R n) := by
  have hf : ∀ k r : Nat, (outM R n)[k]? = some r → ∃ c, (freeCols R n)[k]? = some c ∧ xcM R c = r ∧ ∀ s ∈ R, s.log2 ≠ c := by
    intro k r hk
    unfold outM at hk
    rw [List.getElem?_map, Option.map_eq_some_iff] at hk
    obtain ⟨c, hc, e⟩ := hk
    refine ⟨c, hc, e, (free_iff hR hn c).1 ?_⟩
    have := (List.mem_filter.1 (List.mem_of_getElem? hc)).2
    simpa using this
  refine ind_of (fun k => (freeCols R n).getD k 0) fun k r hk => ?_
  obtain ⟨c, hc, rfl, hlc⟩ := hf k r hk
  have e : (freeCols R n).getD k 0 = c := by rw [List.getD_eq_getElem?_getD, hc]; rfl
  simp only [e]
  refine ⟨by rw [xc_free hR hn hlc]; simp, fun m s hm hne => ?_⟩
  obtain ⟨d, hd, rfl, hld⟩ := hf m s hm
  rw [xc_free hR hn hlc]
  have : d ≠ c := fun e => by
    subst e
    exact hne (nodup_at (filter_nodup _ List.nodup_range) hd hc)
  simpa using this
theorem rank_null {l : List Nat} {n : Nat} (hl : ∀ x ∈ l, x < 2 ^ n) : (orthR l n).length + (redR l n).length = n := by
  have h1 := redR_spec hl
  have h2 := orthR_spec hl
  have hlt := redR_lt hl
  have h3 : (orthR l n).length = (outM (redR l n) n).length := dim_eq h2.1.ind (out_ind h1.1 hlt) fun x => by
    rw [h2.2, out_span h1.1 hlt, orth_iff h1.2]
  have h4 := free_len h1.1 hlt
  have h5 : (outM (redR l n) n).length = (freeCols (redR l n) n).length := by simp [outM, freeCols]
  omega
theorem span_back {R S : List Nat} (hR : Ind R) (hs : ∀ x, InSp R x → InSp S x) (hl : S.length ≤ R.length) (x : Nat) (hx : InSp S x) : InSp R x := by
  refine Classical.byContradiction fun hn => ?_
  have h1 : (x :: allOf R).Nodup := List.nodup_cons.2 ⟨fun h => hn (mem_allOf.1 h), hR.nodup⟩
  have h2 := h1.length_le_of_subset (l₂ := allOf S) fun y hy => by
    rcases List.mem_cons.1 hy with rfl | hy
    · exact mem_allOf.2 hx
    · exact mem_allOf.2 (hs y (mem_allOf.1 hy))
  rw [List.length_cons, allOf_len, allOf_len] at h2
  have := Nat.pow_le_pow_right (n := 2) (by omega) hl
  omega
/-- What is orthogonal to all that is orthogonal is in the span. -/
theorem orth_orth {l : List Nat} {n : Nat} (hl : ∀ x ∈ l, x < 2 ^ n) (x : Nat) : Orth (orthR l n) n x ↔ InSp l x := by
  have h1 := redR_spec hl
  have h2 := orthR_spec hl
  have hlt : ∀ x ∈ orthR l n, x < 2 ^ n := fun x hx => ((h2.2 x).1 (.of_mem hx)).1
  have hin : ∀ x, InSp l x → Orth (orthR l n) n x := fun x h => by
    refine ⟨h.lt hl, fun r hr => ?_⟩
    have := (h2.2 r).1 (.of_mem hr)
    rw [dotB_comm]
    exact this.span h
  refine ⟨fun h => ?_, hin x⟩
  have h3 := orthR_spec hlt
  have h4 := rank_null hlt
  have h5 := rank_null hl
  have h6 : (redR (orthR l n) n).length = (orthR l n).length := by rw [(redR_spec hlt).1.unique h2.1 (redR_spec hlt).2]
  have h7 := span_back h1.1.ind (S := orthR (orthR l n) n) (fun x hx => (h3.2 x).2 (hin x ((h1.2 x).1 hx))) (by omega) x ((h3.2 x).2 h)
  exact (h1.2 x).1 h7
theorem redR_own {R : List Nat} {n : Nat} (h : Red R) (hl : ∀ x ∈ R, x < 2 ^ n) : redR R n = R := (redR_spec hl).1.unique h (redR_spec hl).2
theorem redR_eq {l m : List Nat} {n : Nat} (hl : ∀ x ∈ l, x < 2 ^ n) (hm : ∀ x ∈ m, x < 2 ^ n) (h : ∀ x, InSp l x ↔ InSp m x) : redR l n = redR m n :=
  (redR_spec hl).1.unique (redR_spec hm).1 fun x => by rw [(redR_spec hl).2, (redR_spec hm).2]; exact h x
theorem orthR_lt {l : List Nat} {n : Nat} (hl : ∀ x ∈ l, x < 2 ^ n) : ∀ x ∈ orthR l n, x < 2 ^ n := fun x hx => (((orthR_spec hl).2 x).1 (.of_mem hx)).1
theorem orth_twice {l : List Nat} {n : Nat} (hl : ∀ x ∈ l, x < 2 ^ n) : orthR (orthR l n) n = redR l n :=
  (orthR_spec (orthR_lt hl)).1.unique (redR_spec hl).1 fun x => by rw [(orthR_spec (orthR_lt hl)).2, orth_orth hl, (redR_spec hl).2]
/-- As many rows contradict one another as the rank is below their number. -/
theorem rel_rank {d : List Nat} {n : Nat} (hd : ∀ x ∈ d, x < 2 ^ n) (hn : n ≤ 24) (hl : d.length ≤ 40) : (redR d n).length + (spanned d).rel.length = d.length := by
  have := (inv_spanned (red24 hn hd) hl).cnt
  rw [reduced_eq hn hd hl] at this
  exact this
/-- A matrix that is turned has the same rank. -/
theorem rank_turned {l : List Nat} {n : Nat} (hl : ∀ x ∈ l, x < 2 ^ n) (hll : l.length ≤ 24) (hn : n ≤ 40) : (redR (transposedM l n) l.length).length = (redR l n).length := by
  have h1 := rel_rank (trans_lt (Nat.le_refl l.length) n) hll (by rw [trans_len]; exact hn)
  have h2 := rank_null hl
  rw [trans_len] at h1
  rw [← null_eq hl hll hn] at h2
  unfold nullM at h2
  rw [List.length_reverse] at h2
  omega
end Go.Proofs.YtpnancidgobehaaDoor
