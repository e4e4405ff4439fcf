
/- Plain maths: powers of w times a number; the first power by which two numbers differ, asked in two ways. -/
import Derived.Test.YtohadcaapmnlaaaDoorMa
import Derived.Test.YtohadcaapmnlaaaDoorPh
set_option linter.all false
set_option maxRecDepth 100000
namespace Go.Proofs.YtohadcaapmnlaaaDoor

/-- x times w. -/
def wN (x : Nm) : Nm := ⟨-x.D, x.A, x.B, x.C, x.K⟩
def wNn : Nat → Nm → Nm
  | 0, x => x
  | n + 1, x => wN (wNn n x)
theorem mulN_pw_succ (y : Nm) (n : Nat) : mulN y (pw (n + 1)) = wN (mulN y (pw n)) := by
  have h := pw_K n
  apply Nm.ext5 <;> simp only [mulN, pw, wN, Int.mul_neg, Int.add_zero] <;> omega
theorem mulN_pw (y : Nm) (n : Nat) : mulN y (pw n) = wNn n y := by
  induction n with
  | zero => apply Nm.ext5 <;> simp [mulN, pw, wNn]
  | succ n ih => rw [mulN_pw_succ, ih]; rfl
theorem wN_even (x : Nm) : (wN x).even = x.even := by
  simp only [Nm.even, wN]
  exact decide_eq_decide.2 (by omega)
theorem wN_half {x : Nm} (h : x.even = true) : (wN x).half = wN x.half := by
  simp only [Nm.even, decide_eq_true_eq] at h
  apply Nm.ext5 <;> simp only [wN, Nm.half] <;> omega
theorem wN_zero (x : Nm) : (wN x).zero = x.zero := by
  simp only [Nm.zero, wN]
  exact decide_eq_decide.2 (by omega)
theorem wN_form (n : Nat) (x : Nm) : form n (wN x) = wN (form n x) := by
  induction n generalizing x with
  | zero => rfl
  | succ n ih =>
    rw [form, form, wN_even]
    split
    · rename_i he
      rw [wN_half he, ih]
    · rfl
theorem wN_least (x : Nm) : (wN x).least = wN x.least := by
  unfold Nm.least
  rw [wN_zero]
  split
  · rfl
  · rw [wN_form]; rfl
theorem wNn_least (n : Nat) (x : Nm) : (wNn n x).least = wNn n x.least := by
  induction n with
  | zero => rfl
  | succ n ih => rw [wNn, wN_least, ih]; rfl
theorem wNn_K (n : Nat) (x : Nm) : (wNn n x).K = x.K := by
  induction n with
  | zero => rfl
  | succ n ih => rw [wNn]; exact ih
/-- Does power n lead from y to x? -/
def hitN (x y : Nm) (n : Nat) : Bool := eq5 x.least (mulN y (pw n)).least
theorem hit_least (x y : Nm) (n : Nat) : hitN x y n = (decide (x.least.K = y.least.K) && same4 x.least (mulN y.least (pw n))) := by
  unfold hitN
  rw [mulN_pw, wNn_least, mulN_pw]
  rw [Bool.eq_iff_iff, eq5_iff, Bool.and_eq_true, decide_eq_true_eq]
  have hk := wNn_K n y.least
  unfold same4 eq4
  rw [decide_eq_true_eq]
  constructor
  · intro h; rw [h]; exact ⟨hk, rfl, rfl, rfl, rfl⟩
  · rintro ⟨h0, h1, h2, h3, h4⟩; exact Nm.ext5 h1 h2 h3 h4 (by omega)
/-- The first power from n on, of m, or none. -/
def firstHit (x y : Nm) : Nat → Nat → Option Nat
  | 0, _ => none
  | m + 1, n => if hitN x y n = true then some n else firstHit x y m (n + 1)
theorem same4_iff (x y : Nm) : same4 x y = true ↔ x.A = y.A ∧ x.B = y.B ∧ x.C = y.C ∧ x.D = y.D := by
  unfold same4 eq4; rw [decide_eq_true_eq]
theorem lookN_append (r : Nm) (l : List (Nm × Int)) (p : Nm × Int) : lookN r (l ++ [p]) = (lookN r l).or (if same4 r p.1 = true then some p.2 else none) := by
  induction l with
  | nil => simp [lookN]
  | cons q l ih =>
    simp only [List.cons_append, lookN]
    split
    · simp
    · exact ih
theorem lookN_congr {r t : Nm} (h : same4 r t = true) (l : List (Nm × Int)) : lookN r l = lookN t l := by
  induction l with
  | nil => rfl
  | cons q l ih =>
    have e : same4 r q.1 = same4 t q.1 := by
      rw [Bool.eq_iff_iff, same4_iff, same4_iff]
      rw [same4_iff] at h
      omega
    simp only [lookN, e, ih]
theorem lookN_step (r s : Nm) (l : List (Nm × Int)) (x : Nat) : lookN r (stepF s l x) = (lookN r l).or (if same4 r (mulN s (pw x)) = true then some (x : Int) else none) := by
  unfold stepF
  split
  · rename_i h
    split
    · rename_i h2
      rw [lookN_congr h2, Option.isSome_iff_exists] at *
      obtain ⟨v, hv⟩ := h
      rw [hv]; rfl
    · simp
  · rw [lookN_append]
theorem lookN_firsts (r s : Nm) : ∀ (m n : Nat), (lookN r (firsts s (List.range n))).or ((List.range' n m).findSome? fun i => if same4 r (mulN s (pw i)) = true then some (i : Int) else none) = lookN r (firsts s (List.range (n + m)))
  | 0, n => by simp
  | m + 1, n => by
    have h := lookN_firsts r s m (n + 1)
    rw [show n + (m + 1) = n + 1 + m by omega, ← h, List.range_succ, firsts_push, lookN_step, List.range'_succ, List.findSome?_cons]
    cases lookN r (firsts s (List.range n)) <;> by_cases hq : same4 r (mulN s (pw n)) = true <;> simp [hq]
theorem firstHit_find (x y : Nm) : ∀ (m n : Nat), (firstHit x y m n).map (fun i : Nat => (i : Int)) = (List.range' n m).findSome? fun i => if hitN x y i = true then some (i : Int) else none
  | 0, n => rfl
  | m + 1, n => by
    rw [firstHit, List.range'_succ, List.findSome?_cons]
    split
    · simp
    · exact firstHit_find x y m (n + 1)
/-- What the reference's Phase answers, of right numbers. -/
def phaseR (x y : Nm) : Int × Int := match firstHit x y 8 0 with
  | some n => ((n : Int), 0)
  | none => (0, 6)
theorem phase_same (x y : Nm) : phaseN x.least y.least = phaseR x y := by
  have h1 := lookN_firsts x.least y.least 8 0
  have h2 := firstHit_find x y 8 0
  have h0 : firsts y.least (List.range 0) = [] := rfl
  rw [h0] at h1
  simp only [lookN, Option.none_or, Nat.zero_add] at h1
  unfold phaseN phaseR
  rw [← h1]
  by_cases hk : x.least.K = y.least.K
  · have e : (fun i => if hitN x y i = true then some (i : Int) else none) = fun i => if same4 x.least (mulN y.least (pw i)) = true then some (i : Int) else none := by
      funext i
      rw [hit_least, decide_eq_true hk, Bool.true_and]
    rw [e] at h2
    rw [← h2]
    cases firstHit x y 8 0 with
    | none => simp
    | some n => simp [hk]
  · have e : (fun i => if hitN x y i = true then some (i : Int) else none) = fun _ => none := by
      funext i
      rw [hit_least, decide_eq_false hk, Bool.false_and]
      rfl
    rw [e] at h2
    have h3 : firstHit x y 8 0 = none := by
      have : (List.range' 0 8).findSome? (fun _ : Nat => (none : Option Int)) = none := by simp
      rw [this] at h2
      cases hf : firstHit x y 8 0 with
      | none => rfl
      | some n => rw [hf] at h2; cases h2
    rw [h3]
    simp [hk]
theorem least_fine {y : Nm} (h : y.inb 1073741824 = true) (hK : 0 ≤ y.K ∧ y.K ≤ 60) : y.least.chk = 0 := by
  have h1 := least_inb (m := 1073741824) (by omega) h
  have h2 := least_K (x := y) hK.1
  unfold Nm.chk chk
  rw [if_neg (by omega)]
  exact if_pos h1
theorem chk_in {x : Nm} (h : x.chk = 0) : (0 ≤ x.K ∧ x.K ≤ 60) ∧ (-1073741824 ≤ x.A ∧ x.A ≤ 1073741824 ∧ -1073741824 ≤ x.B ∧ x.B ≤ 1073741824 ∧ -1073741824 ≤ x.C ∧ x.C ≤ 1073741824 ∧ -1073741824 ≤ x.D ∧ x.D ≤ 1073741824) := by
  have := chk_ok (A := x.A) (B := x.B) (C := x.C) (D := x.D) (K := x.K) h
  omega
end Go.Proofs.YtohadcaapmnlaaaDoor
