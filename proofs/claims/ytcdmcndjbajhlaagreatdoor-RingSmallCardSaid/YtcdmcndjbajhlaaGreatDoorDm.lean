
/- Plain maths: what a division of working numbers gives. -/
import Derived.Test.YtcdmcndjbajhlaaGreatDoorMa
set_option linter.all false
set_option maxRecDepth 100000
namespace Go.Proofs.YtcdmcndjbajhlaaGreatDoor

/-- The root of 2 is no fraction. -/
theorem no_root (n : Nat) : ∀ (P Q : Int), P.natAbs ≤ n → P * P = 2 * (Q * Q) → P = 0 := by
  induction n using Nat.strongRecOn with
  | _ n ih =>
  intro P Q hn h
  apply Classical.byContradiction
  intro h0
  have hev : ∀ a b : Int, a * a = 2 * b → ∃ c, a = 2 * c := by
    intro a b hab
    rcases Int.emod_two_eq a with e | e
    · exact ⟨a / 2, by omega⟩
    · exfalso
      have : (a * a) % 2 = 1 := by rw [Int.mul_emod, e]; rfl
      omega
  obtain ⟨p, rfl⟩ := hev P (Q * Q) h
  have h4 : ∀ a : Int, 2 * a * (2 * a) = 4 * (a * a) := fun a => by
    rw [Int.mul_assoc, Int.mul_left_comm a 2 a]; omega
  have h2 : Q * Q = 2 * (p * p) := by have := h4 p; omega
  obtain ⟨q, rfl⟩ := hev Q (p * p) h2
  have h3 : p * p = 2 * (q * q) := by have := h4 q; omega
  have := ih p.natAbs (by omega) p q (Nat.le_refl _) h3
  omega

def abN (x y : Nm) : Nm := mulN (mulN x (conjN y)) (dotN (normN y))
def bN (y : Nm) : Int := (mulN (normN y) (dotN (normN y))).A
def nP (y : Nm) : Int := y.A * y.A + y.B * y.B + y.C * y.C + y.D * y.D
def nQ (y : Nm) : Int := y.A * y.B + y.B * y.C + y.C * y.D - y.D * y.A

theorem norm_form (y : Nm) : normN y = ⟨nP y, nQ y, 0, -nQ y, y.K + y.K⟩ := by
  have h1 := Int.mul_comm y.A y.B
  have h2 := Int.mul_comm y.B y.C
  have h3 := Int.mul_comm y.C y.D
  have h4 := Int.mul_comm y.D y.A
  have h5 := Int.mul_comm y.A y.C
  have h6 := Int.mul_comm y.B y.D
  apply Nm.ext5 <;> simp only [normN, mulN, conjN, nP, nQ, Int.mul_neg] <;> omega
theorem dot_norm (y : Nm) : dotN (normN y) = ⟨nP y, -nQ y, 0, nQ y, y.K + y.K⟩ := by
  rw [norm_form]
  unfold dotN
  dsimp only
  rw [if_pos (by omega), Int.neg_neg]
theorem bN_eq (y : Nm) : bN y = nP y * nP y - 2 * (nQ y * nQ y) := by
  unfold bN
  rw [dot_norm, norm_form]
  simp only [mulN, Int.mul_neg, Int.neg_mul, Int.mul_zero, Int.zero_mul]
  omega
theorem bN_sq (y : Nm) : bN y = (y.A * y.A - y.C * y.C + 2 * (y.B * y.D)) * (y.A * y.A - y.C * y.C + 2 * (y.B * y.D)) + (2 * (y.A * y.C) - y.B * y.B + y.D * y.D) * (2 * (y.A * y.C) - y.B * y.B + y.D * y.D) := by
  rw [bN_eq]
  unfold nP nQ
  grind
theorem sq_nonneg (a : Int) : 0 ≤ a * a := by
  rcases Int.le_total 0 a with h | h
  · exact Int.mul_nonneg h h
  · have := Int.mul_nonneg (Int.neg_nonneg_of_nonpos h) (Int.neg_nonneg_of_nonpos h)
    rwa [Int.neg_mul_neg] at this
theorem sq_zero {a : Int} (h : a * a = 0) : a = 0 := by
  rcases Int.mul_eq_zero.1 h with h | h <;> exact h
theorem bN_nonneg (y : Nm) : 0 ≤ bN y := by
  rw [bN_sq]
  have h1 := sq_nonneg (y.A * y.A - y.C * y.C + 2 * (y.B * y.D))
  have h2 := sq_nonneg (2 * (y.A * y.C) - y.B * y.B + y.D * y.D)
  omega
theorem bN_zero (y : Nm) : bN y = 0 ↔ y.zero = true := by
  constructor
  · intro h
    rw [bN_eq] at h
    have hP := no_root _ (nP y) (nQ y) (Nat.le_refl _) (by omega)
    have h1 := sq_nonneg y.A
    have h2 := sq_nonneg y.B
    have h3 := sq_nonneg y.C
    have h4 := sq_nonneg y.D
    unfold nP at hP
    exact decide_eq_true ⟨sq_zero (by omega), sq_zero (by omega), sq_zero (by omega), sq_zero (by omega)⟩
  · intro h
    unfold Nm.zero at h
    rw [decide_eq_true_eq] at h
    obtain ⟨h1, h2, h3, h4⟩ := h
    rw [bN_eq]
    unfold nP nQ
    rw [h1, h2, h3, h4]
    decide

theorem strip_end {n : Nat} {o t : Int} (h : o % 2 ≠ 0) : strip n o t = (o, t) := by
  cases n with
  | zero => rfl
  | succ n => rw [strip, if_neg h]
theorem strip_even {n : Nat} {o t : Int} (h0 : 0 < o) (hn : o < 2 ^ n) (h : o % 2 = 0) : ∃ m, n = m + 1 ∧ strip n o t = strip m (o / 2) (t + 1) ∧ 0 < o / 2 ∧ o / 2 < 2 ^ m := by
  cases n with
  | zero =>
    have : (2 : Int) ^ 0 = 1 := rfl
    omega
  | succ m =>
    have : (2 : Int) ^ (m + 1) = 2 ^ m * 2 := Int.pow_succ _ _
    exact ⟨m, rfl, by rw [strip, if_pos h], by omega, by omega⟩
/-- What is stripped is odd and between 1 and what it was; the halves are few. -/
theorem strip_of : ∀ (n : Nat) (o t : Int), 0 < o → o < 2 ^ n → (strip n o t).1 % 2 ≠ 0 ∧ 0 < (strip n o t).1 ∧ (strip n o t).1 ≤ o ∧ t ≤ (strip n o t).2 ∧ (strip n o t).2 ≤ t + n
  | 0, o, t, h0, hn => by
    have : (2 : Int) ^ 0 = 1 := rfl
    omega
  | n + 1, o, t, h0, hn => by
    have h2 : (2 : Int) ^ (n + 1) = 2 ^ n * 2 := Int.pow_succ _ _
    by_cases h : o % 2 = 0
    · have := strip_of n (o / 2) (t + 1) (by omega) (by omega)
      rw [strip, if_pos h]
      omega
    · rw [strip, if_neg h]
      dsimp only
      omega

/-- Is the dividing done with integers? -/
def goes (x y : Nm) : Prop :=
  (abN x y).A.tmod (strip 64 (bN y) 0).1 = 0 ∧ (abN x y).B.tmod (strip 64 (bN y) 0).1 = 0 ∧ (abN x y).C.tmod (strip 64 (bN y) 0).1 = 0 ∧ (abN x y).D.tmod (strip 64 (bN y) 0).1 = 0
instance (x y : Nm) : Decidable (goes x y) := by unfold goes; infer_instance
def quoN (x y : Nm) : Nm := ⟨(abN x y).A.tdiv (strip 64 (bN y) 0).1, (abN x y).B.tdiv (strip 64 (bN y) 0).1, (abN x y).C.tdiv (strip 64 (bN y) 0).1, (abN x y).D.tdiv (strip 64 (bN y) 0).1, x.K - y.K + 2 * (strip 64 (bN y) 0).2⟩
/-- What settle gives, at any K above -60. -/
def settN (x : Nm) : Nm := if x.K < 0 then (if x.inb 1073741824 = true then fitN (liftN x 0) else nul) else fitN x
def settE (x : Nm) : Int := if x.K < 0 then (if x.inb 1073741824 = true then fitE (liftN x 0) else 8) else fitE x
/-- What Divide gives of two right numbers in least form. -/
def divN (x y : Nm) : Nm := if x.inb 4096 = true ∧ y.inb 4096 = true ∧ bN y ≠ 0 ∧ goes x y then settN (quoN x y) else nul
def divE (x y : Nm) : Int := if ¬ (x.inb 4096 = true ∧ y.inb 4096 = true) then 8 else if bN y ≠ 0 ∧ goes x y then settE (quoN x y) else 6

/-- As the reference reckons, with K = 0 in both. -/
theorem whole_ref (y : Nm) : normN ⟨y.A, y.B, y.C, y.D, 0⟩ = ⟨nP y, nQ y, 0, -nQ y, 0⟩ ∧ (mulN ⟨nP y, nQ y, 0, -nQ y, 0⟩ ⟨nP y, -nQ y, 0, nQ y, 0⟩).A = bN y := by
  constructor
  · rw [norm_form]; rfl
  · unfold bN; rw [dot_norm, norm_form]; rfl
theorem above_ref (x y : Nm) : mulN (mulN ⟨x.A, x.B, x.C, x.D, 0⟩ (conjN ⟨y.A, y.B, y.C, y.D, 0⟩)) ⟨nP y, -nQ y, 0, nQ y, 0⟩ = ⟨(abN x y).A, (abN x y).B, (abN x y).C, (abN x y).D, 0⟩ := by
  unfold abN
  rw [dot_norm]
  rfl

/-- Raising makes no coefficient fit that did not. -/
theorem inb_up {x : Nm} {m : Int} (h : x.up.inb m = true) : x.inb m = true := by
  unfold Nm.inb inb Nm.up at h
  rw [decide_eq_true_eq] at h
  dsimp only at h
  unfold Nm.inb inb
  exact decide_eq_true (by omega)
theorem inb_upN {m : Int} : ∀ (n : Nat) (x : Nm), (upN n x).inb m = true → x.inb m = true
  | 0, _, h => h
  | n + 1, x, h => inb_up (inb_upN n x.up h)
theorem inb_early {m : Int} {a b : Nat} {x : Nm} (h : (upN (a + b) x).inb m = true) : (upN a x).inb m = true := by
  rw [upN_add] at h
  exact inb_upN b _ h
theorem upN_zero : ∀ (n : Nat) (x : Nm), (upN n x).zero = x.zero
  | 0, _ => rfl
  | n + 1, x => (upN_zero n x.up).trans (up_zero x)

/-- What settle gives, told without least forms: raised to K = 0, or halved as long as that can be done. -/
theorem sett_low {x : Nm} (n : Nat) (hx : x.K = -n) (hn : 0 < n) (hz : x.zero = false) :
    settN x = (if (upN n x).inb 1073741824 = true then upN n x else nul) ∧ settE x = (if (upN n x).inb 1073741824 = true then 0 else 8) := by
  have hl : liftN x 0 = upN n x := by
    unfold liftN
    rw [if_neg (by omega)]
    congr 1
    omega
  have hK : (upN n x).K = 0 := by rw [upN_K]; omega
  have hle : (upN n x).least = upN n x := by
    unfold Nm.least
    rw [upN_zero, hz, hK]
    rfl
  have hch : (upN n x).chk = if (upN n x).inb 1073741824 = true then 0 else 8 := by
    unfold Nm.chk chk
    rw [if_neg (by omega)]
    rfl
  have hk : x.K < 0 := by omega
  unfold settN settE
  rw [if_pos hk, if_pos hk, hl]
  unfold fitN fitE
  rw [hle, hch]
  by_cases h : (upN n x).inb 1073741824 = true
  · rw [if_pos (inb_upN n x h), if_pos (inb_upN n x h), if_pos h, if_pos h]
    exact ⟨rfl, rfl⟩
  · rw [if_neg h, if_neg h]
    constructor <;> split <;> rfl
theorem sett_high {x : Nm} (hK : 0 ≤ x.K) (hz : x.zero = false) :
    settN x = (if (form x.K.toNat x).chk = 0 then form x.K.toNat x else nul) ∧ settE x = (if (form x.K.toNat x).chk = 0 then 0 else 8) := by
  have hle : x.least = form x.K.toNat x := by unfold Nm.least; rw [hz]; rfl
  have hk : ¬ x.K < 0 := by omega
  unfold settN settE
  rw [if_neg hk, if_neg hk]
  unfold fitN fitE
  rw [hle]
  exact ⟨rfl, rfl⟩
theorem sett_zero {x : Nm} (hz : x.zero = true) : settN x = nul ∧ settE x = 0 := by
  have key : ∀ y : Nm, y.zero = true → fitN y = nul ∧ fitE y = 0 := by
    intro y hy
    have hle : y.least = nul := by unfold Nm.least; rw [if_pos hy]
    unfold fitN fitE
    rw [hle]
    exact ⟨rfl, rfl⟩
  have hlz : (liftN x 0).zero = true := by
    unfold liftN
    split
    · exact hz
    · rw [upN_zero]; exact hz
  have hin : x.inb 1073741824 = true := by
    unfold Nm.zero at hz
    rw [decide_eq_true_eq] at hz
    unfold Nm.inb inb
    exact decide_eq_true (by omega)
  unfold settN settE
  rw [if_pos hin, if_pos hin, (key _ hlz).1, (key _ hlz).2, (key _ hz).1, (key _ hz).2]
  constructor <;> split <;> rfl
end Go.Proofs.YtcdmcndjbajhlaaGreatDoor
