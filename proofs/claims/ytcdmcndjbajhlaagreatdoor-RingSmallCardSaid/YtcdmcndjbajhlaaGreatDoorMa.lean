
/- Plain maths: a number and its least form, under sums and under conjugation. -/
import Derived.Test.YtcdmcndjbajhlaaGreatDoorQw
import Derived.Test.YtcdmcndjbajhlaaGreatDoorJs
set_option linter.all false
set_option maxRecDepth 100000
namespace Go.Proofs.YtcdmcndjbajhlaaGreatDoor

theorem up_even (x : Nm) : x.up.even = true := x.half_up.2
theorem up_half (x : Nm) : x.up.half = x := x.half_up.1
theorem half_up {x : Nm} (h : x.even = true) : x.half.up = x := by
  simp only [Nm.even, decide_eq_true_eq] at h
  apply Nm.ext5 <;> simp only [Nm.half, Nm.up] <;> omega
theorem up_zero (x : Nm) : x.up.zero = x.zero := by
  simp only [Nm.zero, Nm.up]
  exact decide_eq_decide.2 (by omega)
/-- Raised and taken back to its least form: the same. -/
theorem least_up {x : Nm} (h : 0 ≤ x.K) : x.up.least = x.least := by
  unfold Nm.least
  rw [up_zero]
  split
  · rfl
  · have e : x.up.K.toNat = x.K.toNat + 1 := by show (x.K + 1).toNat = _; omega
    rw [e, form, if_pos (up_even x), up_half]
theorem upN_K0 {n : Nat} {x : Nm} (h : 0 ≤ x.K) : 0 ≤ (upN n x).K := by rw [upN_K]; omega
theorem least_upN (n : Nat) {x : Nm} (h : 0 ≤ x.K) : (upN n x).least = x.least := by
  induction n generalizing x with
  | zero => rfl
  | succ n ih => rw [upN, ih (by show 0 ≤ x.K + 1; omega), least_up h]
theorem upN_add (m n : Nat) (x : Nm) : upN (m + n) x = upN n (upN m x) := by
  induction m generalizing x with
  | zero => rw [Nat.zero_add]; rfl
  | succ m ih => rw [Nat.succ_add, upN, upN, ih]
theorem upN_one (n : Nat) (x : Nm) : upN (n + 1) x = (upN n x).up := by rw [upN_add]; rfl
/-- A number is its form, raised. -/
theorem form_raised (n : Nat) (x : Nm) : ∃ m, m ≤ n ∧ x = upN m (form n x) := by
  induction n generalizing x with
  | zero => exact ⟨0, Nat.le_refl _, rfl⟩
  | succ n ih =>
    rw [form]
    split
    · rename_i he
      obtain ⟨m, h1, h2⟩ := ih x.half
      exact ⟨m + 1, by omega, by rw [upN_one, ← h2, half_up he]⟩
    · exact ⟨0, by omega, rfl⟩
theorem upN_nul (n : Nat) : upN n nul = ⟨0, 0, 0, 0, n⟩ := by
  induction n with
  | zero => rfl
  | succ n ih => rw [upN_one, ih]; apply Nm.ext5 <;> simp [Nm.up]
theorem least_raised {x : Nm} (h : 0 ≤ x.K) : ∃ m : Nat, (m : Int) ≤ x.K ∧ x = upN m x.least := by
  unfold Nm.least
  split
  · rename_i hz
    simp only [Nm.zero, decide_eq_true_eq] at hz
    refine ⟨x.K.toNat, by omega, ?_⟩
    rw [upN_nul]
    apply Nm.ext5 <;> dsimp only <;> omega
  · obtain ⟨m, h1, h2⟩ := form_raised x.K.toNat x
    exact ⟨m, by omega, h2⟩
theorem addN_comm (x y : Nm) : addN x y = addN y x := by
  unfold addN
  rw [Int.max_comm y.K x.K]
  apply Nm.ext5 <;> dsimp only <;> omega
def plusN (x y : Nm) (k : Int) : Nm := ⟨x.A + y.A, x.B + y.B, x.C + y.C, x.D + y.D, k⟩
theorem addN_plus (x y : Nm) : addN x y = plusN (liftN x (max x.K y.K)) (liftN y (max x.K y.K)) (max x.K y.K) := rfl
theorem plusN_up (x y : Nm) (k : Int) : plusN x.up y.up (k + 1) = (plusN x y k).up := by
  apply Nm.ext5 <;> simp only [plusN, Nm.up] <;> omega
theorem liftN_up {x : Nm} {k : Int} (h : x.K ≤ k) : liftN x (k + 1) = (liftN x k).up := by
  unfold liftN
  rw [if_neg (by omega)]
  have e : (k + 1 - x.K).toNat = (k - x.K).toNat + 1 := by omega
  rw [e, upN_one]
  split
  · have : (k - x.K).toNat = 0 := by omega
    rw [this]; rfl
  · rfl
theorem liftN_of_up {x : Nm} {k : Int} (h : x.K + 1 ≤ k) : liftN x.up k = liftN x k := by
  unfold liftN
  rw [if_neg (show ¬ k ≤ x.K by omega)]
  have e : (k - x.K).toNat = (k - x.K - 1).toNat + 1 := by omega
  rw [e, upN]
  have e2 : (k - x.up.K).toNat = (k - x.K - 1).toNat := by show (k - (x.K + 1)).toNat = _; omega
  split
  · rename_i h2
    have h3 : x.up.K = x.K + 1 := rfl
    have : (k - x.K - 1).toNat = 0 := by omega
    rw [this]; rfl
  · rw [e2]
/-- A sum with one part raised is the sum, or the sum raised. -/
theorem addN_up (x y : Nm) : addN x.up y = addN x y ∨ addN x.up y = (addN x y).up := by
  have hK : x.up.K = x.K + 1 := rfl
  rcases Int.lt_or_le x.K y.K with h | h
  · left
    rw [addN_plus, addN_plus]
    have e1 : max x.up.K y.K = y.K := by omega
    have e2 : max x.K y.K = y.K := by omega
    rw [e1, e2, liftN_of_up (by omega)]
  · right
    rw [addN_plus, addN_plus]
    have e1 : max x.up.K y.K = x.K + 1 := by omega
    have e2 : max x.K y.K = x.K := by omega
    rw [e1, e2, liftN_up h]
    have e3 : liftN x.up (x.K + 1) = x.up := by unfold liftN; rw [if_pos (by omega)]
    have e4 : liftN x x.K = x := by unfold liftN; rw [if_pos (by omega)]
    rw [e3, e4, plusN_up]
theorem addN_upN (n : Nat) (x y : Nm) : ∃ m, addN (upN n x) y = upN m (addN x y) := by
  induction n with
  | zero => exact ⟨0, rfl⟩
  | succ n ih =>
    obtain ⟨m, hm⟩ := ih
    rw [upN_one]
    rcases addN_up (upN n x) y with h | h
    · exact ⟨m, by rw [h, hm]⟩
    · exact ⟨m + 1, by rw [h, hm, upN_one]⟩
theorem least_K0 {x : Nm} (h : 0 ≤ x.K) : 0 ≤ x.least.K := by
  obtain ⟨m, h1, h2⟩ := least_raised h
  have := congrArg Nm.K h2
  rw [upN_K] at this
  omega
/-- The sum of two least forms comes to the same least form. -/
theorem least_addN {x y : Nm} (hx : 0 ≤ x.K) (hy : 0 ≤ y.K) : (addN x.least y.least).least = (addN x y).least := by
  obtain ⟨m, _, hm⟩ := least_raised hx
  obtain ⟨n, _, hn⟩ := least_raised hy
  have k1 := least_K0 hx
  have k2 := least_K0 hy
  obtain ⟨p, hp⟩ := addN_upN m x.least y
  obtain ⟨q, hq⟩ := addN_upN n y.least x.least
  have e1 : addN x y = upN p (addN x.least y) := by rw [← hm] at hp; exact hp
  have e2 : addN x.least y = upN q (addN x.least y.least) := by
    rw [addN_comm x.least y, addN_comm x.least y.least, ← hq, ← hn]
  have k3 : 0 ≤ (addN x.least y.least).K := by rw [addN_K]; omega
  rw [e1, e2, least_upN _ (upN_K0 k3), least_upN _ k3]
theorem fit_addN {x y : Nm} (hx : 0 ≤ x.K) (hy : 0 ≤ y.K) : fitN (addN x.least y.least) = fitN (addN x y) ∧ fitE (addN x.least y.least) = fitE (addN x y) := by
  unfold fitN fitE; rw [least_addN hx hy]; exact ⟨rfl, rfl⟩

theorem negN_up (x : Nm) : negN x.up = (negN x).up := by
  apply Nm.ext5 <;> simp only [negN, Nm.up] <;> omega
theorem conjN_even (x : Nm) : (conjN x).even = x.even := by
  simp only [Nm.even, conjN]
  exact decide_eq_decide.2 (by omega)
theorem conjN_half {x : Nm} (h : x.even = true) : (conjN x).half = conjN x.half := by
  simp only [Nm.even, decide_eq_true_eq] at h
  apply Nm.ext5 <;> simp only [conjN, Nm.half] <;> omega
theorem conjN_zero (x : Nm) : (conjN x).zero = x.zero := by
  simp only [Nm.zero, conjN]
  exact decide_eq_decide.2 (by omega)
theorem conjN_form (n : Nat) (x : Nm) : form n (conjN x) = conjN (form n x) := by
  induction n generalizing x with
  | zero => rfl
  | succ n ih =>
    rw [form, form, conjN_even]
    split
    · rename_i he
      rw [conjN_half he, ih]
    · rfl
theorem conjN_least (x : Nm) : (conjN x).least = conjN x.least := by
  unfold Nm.least
  rw [conjN_zero]
  split
  · rfl
  · rw [conjN_form]; rfl
theorem realN_iff (x : Nm) : realN x = true ↔ conjN x = x := by
  unfold realN eq4
  rw [decide_eq_true_eq]
  constructor
  · intro h; apply Nm.ext5 <;> simp only [conjN] <;> omega
  · intro h
    have h1 := congrArg Nm.B h
    have h2 := congrArg Nm.C h
    have h3 := congrArg Nm.D h
    simp only [conjN] at h1 h2 h3
    omega
theorem conjN_up (x : Nm) : conjN x.up = (conjN x).up := by
  apply Nm.ext5 <;> simp only [conjN, Nm.up] <;> omega
theorem conjN_upN (n : Nat) (x : Nm) : conjN (upN n x) = upN n (conjN x) := by
  induction n with
  | zero => rfl
  | succ n ih => rw [upN_one, upN_one, conjN_up, ih]
/-- Real by the least form, real outright. -/
theorem real_least {x : Nm} (h : 0 ≤ x.K) : eq5 x.least (conjN x).least = realN x := by
  obtain ⟨m, _, hm⟩ := least_raised h
  rw [Bool.eq_iff_iff, eq5_iff, realN_iff, conjN_least]
  constructor
  · intro hr
    rw [hm, conjN_upN, ← hr]
  · intro hr
    rw [← conjN_least, hr]
end Go.Proofs.YtcdmcndjbajhlaaGreatDoor
