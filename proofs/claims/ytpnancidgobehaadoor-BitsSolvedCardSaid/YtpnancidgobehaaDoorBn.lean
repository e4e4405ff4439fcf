
/- Plain maths: what is solved is the least number that solves; where nothing solves some rows contradict; which rows give a row. -/
import Derived.Test.YtpnancidgobehaaDoorBk
import Derived.Test.YtpnancidgobehaaDoorYk
set_option linter.all false
set_option maxRecDepth 100000
namespace Go.Proofs.YtpnancidgobehaaDoor
theorem lt_of_top {x y k : Nat} (hx : x.testBit k = false) (hy : y.testBit k = true) (h : ∀ j, k < j → x.testBit j = y.testBit j) : x < y := by
  have hq : x >>> (k + 1) = y >>> (k + 1) := Nat.eq_of_testBit_eq fun i => by
    rw [Nat.testBit_shiftRight, Nat.testBit_shiftRight]
    exact h _ (by omega)
  rw [Nat.shiftRight_eq_div_pow, Nat.shiftRight_eq_div_pow] at hq
  have h1 : x % 2 ^ (k + 1) < 2 ^ k := lt_of_bits (k + 1) (Nat.mod_lt _ (Nat.two_pow_pos _)) fun j h1 h2 => by
    have : j = k := by omega
    subst this
    rw [Nat.testBit_mod_two_pow, hx]
    simp
  have h2 : 2 ^ k ≤ y % 2 ^ (k + 1) := bit_lt (by rw [Nat.testBit_mod_two_pow, hy]; simp)
  have h3 := Nat.div_add_mod x (2 ^ (k + 1))
  have h4 := Nat.div_add_mod y (2 ^ (k + 1))
  rw [hq] at h3
  omega
theorem sol_least {l : List Nat} {n b x : Nat} (hx : Sol l n b x) (hl : Least l n x) {y : Nat} (hy : y < x) : ¬ Sol l n b y := by
  intro hs
  have hk : Orth l n (x ^^^ y) := ⟨Nat.xor_lt_two_pow hx.1 hs.1, fun r hr => by
    obtain ⟨i, hi, rfl⟩ := mem_getD hr
    rw [dotB_xorR, hx.2 i hi, hs.2 i hi]
    simp⟩
  have h0 : x ^^^ y ≠ 0 := fun e => by have := xor_eq0 e; omega
  have h1 := hl _ hk h0
  have h2 := top_bit h0
  rw [Nat.testBit_xor, h1] at h2
  have h3 : y.testBit (x ^^^ y).log2 = true := by simpa using h2
  have := lt_of_top h1 h3 fun j hj => by
    have h4 : (x ^^^ y).testBit j = false := by
      cases hb : (x ^^^ y).testBit j
      · rfl
      · have := bit_le hb; omega
    rw [Nat.testBit_xor] at h4
    revert h4
    cases x.testBit j <;> cases y.testBit j <;> simp
  omega
theorem bits_eq {n a b : Nat} (ha : a < 2 ^ n) (hb : b < 2 ^ n) (h : ∀ i, i < n → a.testBit i = b.testBit i) : a = b :=
  Nat.eq_of_testBit_eq fun i => by
    by_cases hi : i < n
    · exact h i hi
    · rw [no_bit ha (by omega), no_bit hb (by omega)]
theorem tot_lt {l : List Nat} {n : Nat} (hl : ∀ x ∈ l, x < 2 ^ n) (y : Nat) : tot l y < 2 ^ n := (tot_in l y).lt hl
theorem sol_cols {l : List Nat} {n b y : Nat} (hb : b < 2 ^ l.length) : Sol l n b y ↔ y < 2 ^ n ∧ tot (transposedM l n) y = b := by
  constructor
  · rintro ⟨h1, h2⟩
    refine ⟨h1, bits_eq (tot_lt (trans_lt (Nat.le_refl _) n) y) hb fun i hi => ?_⟩
    rw [tot_cols]
    exact h2 i hi
  · rintro ⟨h1, h2⟩
    refine ⟨h1, fun i _ => ?_⟩
    rw [← h2, tot_cols]
/-- Where nothing solves, some rows add up to nothing and their right sides do not. -/
theorem contra {l : List Nat} {n b : Nat} (hl : ∀ x ∈ l, x < 2 ^ n) (hb : b < 2 ^ l.length) (h : ∀ y, ¬ Sol l n b y) : ∃ z, z < 2 ^ l.length ∧ tot l z = 0 ∧ dotB l.length z b = true := by
  have hc := trans_lt (Nat.le_refl l.length) n
  have hni : ¬ InSp (transposedM l n) b := fun hi => by
    obtain ⟨y, hy, e⟩ := in_tot hi
    rw [trans_len] at hy
    exact h y ((sol_cols hb).2 ⟨hy, e⟩)
  rw [← orth_orth hc] at hni
  have : ∃ r ∈ orthR (transposedM l n) l.length, dotB l.length r b = true := Classical.byContradiction fun hn => hni ⟨hb, fun r hr => by
    cases hd : dotB l.length r b
    · rfl
    · exact absurd ⟨r, hr, hd⟩ hn⟩
  obtain ⟨r, hr, hd⟩ := this
  have ho := ((orthR_spec hc).2 r).1 (.of_mem hr)
  refine ⟨r, ho.1, ?_, hd⟩
  have := (cols_zero (transposedM l n) l.length r).2 ho.2
  rw [turned_twice hl] at this
  exact this
/-- Which rows give a row. -/
theorem which_spec {l : List Nat} {n row : Nat} (hl : ∀ x ∈ l, x < 2 ^ n) (hll : l.length ≤ 24) (hn : n ≤ 24) (hrow : row < 2 ^ n) :
    (∃ y, leastM l row = (y, 0) ∧ y < 2 ^ l.length ∧ tot l y = row ∧ ∀ z, z < y → tot l z ≠ row) ∨ (leastM l row = (0, 6) ∧ ∀ z, z < 2 ^ l.length → tot l z ≠ row) := by
  have hc := trans_lt (Nat.le_refl l.length) n
  have hw := which_same hl hll hn hrow
  have hsol : ∀ y, Sol (transposedM l n) l.length row y ↔ y < 2 ^ l.length ∧ tot l y = row := fun y => by
    rw [sol_cols (by rw [trans_len]; exact hrow), turned_twice hl]
  rcases solR_spec (l := transposedM l n) (n := l.length) (b := row) hc with ⟨y, h1, h2, h3⟩ | ⟨h1, h2⟩
  · rw [h1] at hw
    obtain ⟨h4, h5⟩ := (hsol y).1 h2
    refine .inl ⟨y, ?_, h4, h5, fun z hz e => sol_least h2 h3 hz ((hsol z).2 ⟨by omega, e⟩)⟩
    unfold leastM
    rw [hw]
    rfl
  · rw [h1] at hw
    refine .inr ⟨?_, fun z hz e => h2 z ((hsol z).2 ⟨hz, e⟩)⟩
    unfold leastM
    rw [hw]
    rfl
theorem solve_spec {l : List Nat} {n b : Nat} (hll : l.length ≤ 24) (hn : n ≤ 40) (hb : b < 2 ^ l.length) :
    (∃ x, leastM (transposedM l n) b = (x, 0) ∧ Sol l n b x ∧ ∀ y, y < x → ¬ Sol l n b y) ∨ (leastM (transposedM l n) b = (0, 6) ∧ ∀ x, ¬ Sol l n b x) := by
  rcases leastP_spec hll hn hb with ⟨x, h1, h2, h3⟩ | ⟨h1, h2⟩
  · refine .inl ⟨x, ?_, h2, fun y hy => sol_least h2 h3 hy⟩
    unfold leastM
    rw [h1]
    rfl
  · refine .inr ⟨?_, h2⟩
    unfold leastM
    rw [h1]
    rfl
theorem odd_weight {n r x : Nat} (hn : n ≤ 64) (hx : x < 2 ^ n) : weightM (r &&& x) % 2 = if dotB n r x then 1 else 0 := by
  have h : parB 64 (r &&& x) = dotB n r x := by rw [par_and, dotB_up hx hn]
  unfold parB at h
  have e : popF 64 (r &&& x) = weightM (r &&& x) := rfl
  rw [e] at h
  cases hd : dotB n r x
  · rw [hd] at h
    have := of_decide_eq_false h
    rw [if_neg (by decide)]
    omega
  · rw [hd] at h
    rw [if_pos rfl]
    exact of_decide_eq_true h
theorem image_bit {n x : Nat} (hn : n ≤ 64) (hx : x < 2 ^ n) : ∀ (l : List Nat) (i y j : Nat), (imageM l i x y).testBit j = (y.testBit j || (decide (i ≤ j) && dotB n (l.getD (j - i) 0) x))
  | [], i, y, j => by simp [imageM, dotB_zeroL]
  | r :: l, i, y, j => by
    unfold imageM
    rw [image_bit hn hx l (i + 1), Nat.testBit_or, odd_weight hn hx]
    have h1 : ((if dotB n r x = true then 1 else 0) <<< i).testBit j = (decide (j = i) && dotB n r x) := by
      cases dotB n r x
      · simp
      · rw [if_pos rfl, Nat.one_shiftLeft, Nat.testBit_two_pow]
        simp [eq_comm]
    rw [h1]
    by_cases hij : j = i
    · subst hij
      have h9 : ¬ j + 1 ≤ j := by omega
      simp [h9]
    · by_cases h2 : i ≤ j
      · have e : j - i = (j - (i + 1)) + 1 := by omega
        have h3 : i + 1 ≤ j := by omega
        rw [e]
        simp [hij, h2, h3]
      · have h3 : ¬ i + 1 ≤ j := by omega
        simp [hij, h2, h3]
theorem image_lt {x m : Nat} : ∀ (l : List Nat) (i y : Nat), y < 2 ^ m → i + l.length ≤ m → imageM l i x y < 2 ^ m
  | [], _, _, h, _ => h
  | r :: l, i, y, h, hl => by
    unfold imageM
    refine image_lt l (i + 1) _ (Nat.or_lt_two_pow h ?_) (by simp at hl; omega)
    have h1 : weightM (r &&& x) % 2 ≤ 1 := by omega
    rw [Nat.shiftLeft_eq]
    have h2 : 2 ^ i < 2 ^ m := Nat.pow_lt_pow_right (by omega) (by simp at hl; omega)
    have h3 : weightM (r &&& x) % 2 * 2 ^ i ≤ 1 * 2 ^ i := Nat.mul_le_mul_right _ h1
    omega
/-- What is solved is applied. -/
theorem sol_image {l : List Nat} {n b x : Nat} (hn : n ≤ 64) (hb : b < 2 ^ l.length) (h : Sol l n b x) : imageM l 0 x 0 = b :=
  bits_eq (image_lt l 0 0 (Nat.two_pow_pos _) (by omega)) hb fun i hi => by
    rw [image_bit hn h.1]
    simp [← h.2 i hi]
def solB (n b x : Nat) : List Nat → Nat → Bool
  | [], _ => true
  | r :: l, i => (dotB n r x == b.testBit i) && solB n b x l (i + 1)
theorem solB_drop {n b x : Nat} {l : List Nat} {k r : Nat} (h : l[k]? = some r) : solB n b x (l.drop k) k = ((dotB n r x == b.testBit k) && solB n b x (l.drop (k + 1)) (k + 1)) := by
  obtain ⟨hk, rfl⟩ := List.getElem?_eq_some_iff.1 h
  rw [List.drop_eq_getElem_cons hk]
  rfl
theorem solB_all {n b x : Nat} : ∀ (l : List Nat) (i : Nat), solB n b x l i = true → ∀ k, k < l.length → dotB n (l.getD k 0) x = b.testBit (i + k)
  | r :: l, i, h, 0, _ => by
    unfold solB at h
    simp at h
    simpa using h.1
  | r :: l, i, h, k + 1, hk => by
    unfold solB at h
    simp at h
    have := solB_all l (i + 1) h.2 k (by simpa using hk)
    rw [show i + (k + 1) = i + 1 + k by omega]
    simpa using this
theorem solB_not {l : List Nat} {n b x : Nat} (hx : x < 2 ^ n) (h : ¬ Sol l n b x) : solB n b x l 0 = false := by
  cases hb : solB n b x l 0
  · rfl
  · exact absurd ⟨hx, fun i hi => by have := solB_all l 0 hb i hi; rwa [Nat.zero_add] at this⟩ h
end Go.Proofs.YtpnancidgobehaaDoor
