
/- Plain maths: all members of a span, their weights, the lightest of a coset. -/
import Derived.Test.YtpnancidgobehaaDoorZb
import Derived.Test.YtpnancidgobehaaDoorVx
import Derived.Test.YtpnancidgobehaaDoorVy
set_option linter.all false
set_option maxRecDepth 100000
namespace Go.Proofs.YtpnancidgobehaaDoor
open Go
theorem odd_split {a b m q : Nat} (h : 2 ^ a * (2 * m + 1) = 2 ^ b * (2 * q + 1)) : a = b := by
  have key : ∀ {a b m q : Nat}, a < b → 2 ^ a * (2 * m + 1) = 2 ^ b * (2 * q + 1) → False := by
    intro a b m q hab h
    obtain ⟨d, rfl⟩ : ∃ d, b = a + (d + 1) := ⟨b - a - 1, by omega⟩
    rw [Nat.pow_add, Nat.mul_assoc] at h
    have h2 := Nat.eq_of_mul_eq_mul_left (Nat.two_pow_pos a) h
    rw [Nat.pow_succ, Nat.mul_assoc, Nat.mul_left_comm] at h2
    generalize 2 ^ d * (2 * q + 1) = z at h2
    omega
  rcases Nat.lt_trichotomy a b with hh | hh | hh
  · exact (key hh h).elim
  · exact hh
  · exact (key hh h.symm).elim
theorem ctz_eq {x c m : Nat} (h64 : x < 2 ^ 64) (h : x = 2 ^ c * (2 * m + 1)) : Lib.ctz 64 x = c := by
  have h0 : x ≠ 0 := by
    have h1 : 0 < 2 ^ c * (2 * m + 1) := Nat.mul_pos (Nat.two_pow_pos c) (by omega)
    omega
  obtain ⟨q, hq, _⟩ := Lib.ctzFrom_spec 64 x (by omega) h64
  unfold Lib.ctz
  rw [if_neg h0]
  exact odd_split (hq.symm.trans h)
theorem ctz_pow {k : Nat} (hk : k ≤ 24) : Lib.ctz 64 (2 ^ k) = k := ctz_eq (m := 0) (Nat.pow_lt_pow_right (by omega) (by omega)) (by simp)
theorem ctz_parts {k j : Nat} (hk : k ≤ 24) (h0 : 0 < j) (hj : j < 2 ^ k) : Lib.ctz 64 (2 ^ k + j) = Lib.ctz 64 j ∧ Lib.ctz 64 (2 ^ k - j) = Lib.ctz 64 j := by
  have h24 : 2 ^ k ≤ 2 ^ 24 := Nat.pow_le_pow_right (by omega) hk
  obtain ⟨m, hm, _⟩ := Lib.ctzFrom_spec 64 j h0 (by omega)
  have hc : Lib.ctz 64 j = Lib.ctzFrom 64 j := by unfold Lib.ctz; rw [if_neg (by omega)]
  rw [hc]
  have hlt : Lib.ctzFrom 64 j < k := by have := ctz_lt (L := k) (i := j) (by omega) hj hk; rwa [hc] at this
  generalize Lib.ctzFrom 64 j = c at *
  obtain ⟨d, rfl⟩ : ∃ d, k = c + (d + 1) := ⟨k - c - 1, by omega⟩
  have e : 2 ^ (c + (d + 1)) = 2 ^ c * (2 * 2 ^ d) := by rw [Nat.pow_add, Nat.pow_succ, Nat.mul_comm (2 ^ d) 2]
  have hmd : 2 * m + 1 < 2 * 2 ^ d := by
    rw [hm, e] at hj
    exact Nat.lt_of_mul_lt_mul_left hj
  constructor
  · refine ctz_eq (m := 2 ^ d + m) (by omega) ?_
    conv => lhs; rw [hm, e]
    rw [← Nat.mul_add]; congr 1; omega
  · refine ctz_eq (m := 2 ^ d - m - 1) (by omega) ?_
    conv => lhs; rw [hm, e]
    rw [← Nat.mul_sub]; congr 1; omega
theorem memM_snoc {R : List Nat} (r : Nat) (hR : R.length ≤ 23) : ∀ i, i < 2 ^ R.length → memM (R ++ [r]) i = memM R i
  | 0, _ => rfl
  | i + 1, h => by
    unfold memM
    rw [memM_snoc r hR i (by omega)]
    have := ctz_lt (L := R.length) (i := i + 1) (by omega) h (by omega)
    congr 1
    rw [List.getD_eq_getElem?_getD, List.getD_eq_getElem?_getD, List.getElem?_append_left this]
theorem memM_back {R : List Nat} (r : Nat) (hR : R.length ≤ 23) : ∀ j, j < 2 ^ R.length → memM (R ++ [r]) (2 ^ R.length + j) = memM R (2 ^ R.length - 1 - j) ^^^ r
  | 0, _ => by
    have hp := Nat.two_pow_pos R.length
    obtain ⟨q, hq⟩ : ∃ q, 2 ^ R.length = q + 1 := ⟨2 ^ R.length - 1, by omega⟩
    have hc := ctz_pow (k := R.length) (by omega)
    rw [hq] at hc
    rw [hq, Nat.add_zero, show q + 1 - 1 - 0 = q by omega]
    show memM (R ++ [r]) q ^^^ (R ++ [r]).getD (Lib.ctz 64 (q + 1)) 0 = _
    rw [hc, memM_snoc r hR q (by omega), List.getD_eq_getElem?_getD, List.getElem?_append_right (Nat.le_refl _)]
    simp
  | j + 1, h => by
    have ih := memM_back r hR j (by omega)
    obtain ⟨p1, p2⟩ := ctz_parts (k := R.length) (j := j + 1) (by omega) (by omega) h
    have hl := ctz_lt (L := R.length) (i := j + 1) (by omega) h (by omega)
    have e : 2 ^ R.length - 1 - j = (2 ^ R.length - 1 - (j + 1)) + 1 := by omega
    have e2 : 2 ^ R.length - (j + 1) = (2 ^ R.length - 1 - (j + 1)) + 1 := by omega
    rw [e] at ih
    rw [e2] at p2
    have hm : memM R ((2 ^ R.length - 1 - (j + 1)) + 1) = memM R (2 ^ R.length - 1 - (j + 1)) ^^^ R.getD (Lib.ctz 64 (j + 1)) 0 := by
      show memM R _ ^^^ R.getD _ 0 = _
      rw [p2]
    rw [← Nat.add_assoc]
    show memM (R ++ [r]) (2 ^ R.length + j) ^^^ (R ++ [r]).getD (Lib.ctz 64 (2 ^ R.length + j + 1)) 0 = _
    have hg : (R ++ [r]).getD (Lib.ctz 64 (j + 1)) 0 = R.getD (Lib.ctz 64 (j + 1)) 0 := by rw [List.getD_eq_getElem?_getD, List.getD_eq_getElem?_getD, List.getElem?_append_left hl]
    rw [ih, hm, Nat.add_assoc, p1, hg]
    generalize memM R (2 ^ R.length - 1 - (j + 1)) = a
    generalize R.getD (Lib.ctz 64 (j + 1)) 0 = b
    rw [Nat.xor_assoc, Nat.xor_assoc, Nat.xor_comm r b, xor_cancel]
def membersR (R : List Nat) : List Nat := R.foldl (fun out r => out ++ out.map (· ^^^ r)) [0]
theorem membersR_snoc (R : List Nat) (r : Nat) : membersR (R ++ [r]) = membersR R ++ (membersR R).map (· ^^^ r) := by
  unfold membersR
  rw [List.foldl_append, List.foldl_cons, List.foldl_nil]
theorem map_rev (f : Nat → Nat) (n : Nat) : (List.range n).map (fun j => f (n - 1 - j)) = ((List.range n).map f).reverse := by
  refine List.ext_getElem (by simp) fun i h1 h2 => ?_
  simp at h1
  simp
theorem mem_perm : ∀ (n : Nat) (R : List Nat), R.length = n → n ≤ 24 → ((List.range (2 ^ n)).map (memM R)).Perm (membersR R)
  | 0, R, h, _ => by
    rw [List.length_eq_zero_iff.1 h]
    exact List.Perm.refl _
  | n + 1, R, h, hn => by
    obtain ⟨q, r, rfl⟩ : ∃ q r, R = q ++ [r] := ⟨R.dropLast, R.getLast (by intro h0; simp [h0] at h), (List.dropLast_concat_getLast _).symm⟩
    have hq : q.length = n := by simpa using h
    have ih := mem_perm n q hq (by omega)
    rw [membersR_snoc, Nat.pow_succ, Nat.mul_two, List.range_add, List.map_append, List.map_map]
    have h1 : (List.range (2 ^ n)).map (memM (q ++ [r])) = (List.range (2 ^ n)).map (memM q) := List.map_congr_left fun i hi => memM_snoc r (by omega) i (by rw [hq]; simpa using hi)
    have h2 : (List.range (2 ^ n)).map (memM (q ++ [r]) ∘ (2 ^ n + ·)) = (((List.range (2 ^ n)).map (memM q)).map (· ^^^ r)).reverse := by
      rw [← List.map_reverse, ← map_rev, List.map_map]
      refine List.map_congr_left fun i hi => ?_
      have := memM_back r (show q.length ≤ 23 by omega) i (by rw [hq]; simpa using hi)
      rw [hq] at this
      exact this
    rw [h1, h2]
    exact ih.append ((List.reverse_perm _).trans (ih.map _))
theorem inc_comm (c : List Nat) (i j : Nat) : (c.set i (c.getD i 0 + 1)).set j ((c.set i (c.getD i 0 + 1)).getD j 0 + 1) = (c.set j (c.getD j 0 + 1)).set i ((c.set j (c.getD j 0 + 1)).getD i 0 + 1) := by
  by_cases e : i = j
  · subst e; rfl
  · have e' : ¬ j = i := fun h => e h.symm
    rw [List.getD_eq_getElem?_getD, List.getD_eq_getElem?_getD, List.getD_eq_getElem?_getD, List.getD_eq_getElem?_getD, List.getElem?_set_ne e, List.getElem?_set_ne e', List.set_comm _ _ e]
def weightsR (R : List Nat) (n : Nat) : List Nat := (membersR R).foldl (fun c x => c.set (weightM x) (c.getD (weightM x) 0 + 1)) (List.replicate (n + 1) 0)
theorem weights_same (R : List Nat) (n : Nat) (hR : R.length ≤ 24) : countL R n (List.range (2 ^ R.length)) = weightsR R n := by
  have hp := mem_perm R.length R rfl hR
  unfold countL weightsR
  have := hp.foldl_eq' (f := fun (c : List Nat) x => c.set (weightM x) (c.getD (weightM x) 0 + 1)) (fun x _ y _ z => inc_comm z _ _) (List.replicate (n + 1) 0)
  rw [← this, List.foldl_map]
def cosetR (R : List Nat) (x : Nat) : Nat := (membersR R).foldl (fun b m => if lighterM (x ^^^ m) b then x ^^^ m else b) x
theorem lighter_irr (x : Nat) : lighterM x x = false := by unfold lighterM; simp
theorem lighter_comm (z x y : Nat) : (if lighterM y (if lighterM x z then x else z) then y else (if lighterM x z then x else z)) = (if lighterM x (if lighterM y z then y else z) then x else (if lighterM y z then y else z)) := by
  unfold lighterM
  simp only [decide_eq_true_eq]
  by_cases h1 : weightM x < weightM z ∨ (weightM x = weightM z ∧ x < z) <;> by_cases h2 : weightM y < weightM z ∨ (weightM y = weightM z ∧ y < z) <;> simp only [h1, h2, if_true, if_false]
  · by_cases h3 : weightM y < weightM x ∨ (weightM y = weightM x ∧ y < x) <;> by_cases h4 : weightM x < weightM y ∨ (weightM x = weightM y ∧ x < y) <;> simp only [h3, h4, if_true, if_false] <;> omega
  · rw [if_neg (by omega)]
  · rw [if_neg (by omega)]
theorem coset_same (R : List Nat) (x : Nat) (hR : R.length ≤ 24) : bestL R x (List.range (2 ^ R.length)) = cosetR R x := by
  have hp := mem_perm R.length R rfl hR
  unfold bestL cosetR
  have := hp.foldl_eq' (f := fun (b : Nat) m => if lighterM (x ^^^ m) b then x ^^^ m else b) (fun a _ c _ z => lighter_comm z _ _) x
  rw [← this, List.foldl_map]
theorem members_span (R : List Nat) (x : Nat) : x ∈ membersR R ↔ InSp R x := by
  suffices h : ∀ (n : Nat) (R : List Nat) (x : Nat), R.length = n → (x ∈ membersR R ↔ InSp R x) from h _ R x rfl
  intro n
  induction n with
  | zero =>
    intro R x h
    rw [List.length_eq_zero_iff.1 h]
    constructor
    · intro hx; simp [membersR] at hx; rw [hx]; exact .zero
    · intro hx
      have : ∀ {y}, InSp [] y → y = 0 := fun h => by
        induction h with
        | zero => rfl
        | add _ hr _ => simp at hr
      rw [this hx]; simp [membersR]
  | succ n ih =>
    intro R x h
    obtain ⟨q, r, rfl⟩ : ∃ q r, R = q ++ [r] := ⟨R.dropLast, R.getLast (by intro h0; simp [h0] at h), (List.dropLast_concat_getLast _).symm⟩
    have ih := fun x => ih q x (by simpa using h)
    rw [membersR_snoc, List.mem_append, List.mem_map]
    have hup : ∀ {y}, InSp q y → InSp (q ++ [r]) y := fun hy => hy.sub fun a ha => .of_mem (by simp [ha])
    constructor
    · rintro (hx | ⟨y, hy, rfl⟩)
      · exact hup ((ih x).1 hx)
      · exact (hup ((ih y).1 hy)).add (by simp)
    · intro hx
      have key : ∀ {y}, InSp (q ++ [r]) y → InSp q y ∨ InSp q (y ^^^ r) := fun h => by
        induction h with
        | zero => exact .inl .zero
        | add _ hr ih =>
          rename_i a s _
          rcases List.mem_append.1 hr with hr | hr
          · rcases ih with h | h
            · exact .inl (h.add hr)
            · right
              rw [Nat.xor_assoc, Nat.xor_comm s r, ← Nat.xor_assoc]
              exact h.add hr
          · simp at hr; subst hr
            rcases ih with h | h
            · right
              rw [Nat.xor_assoc, Nat.xor_self, Nat.xor_zero]; exact h
            · exact .inl h
      rcases key hx with h | h
      · exact .inl ((ih x).2 h)
      · exact .inr ⟨_, (ih _).2 h, by rw [Nat.xor_assoc, Nat.xor_self, Nat.xor_zero]⟩
end Go.Proofs.YtpnancidgobehaaDoor
