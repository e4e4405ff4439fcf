
/- What RingDivided asks of the ring: what is divided, and multiplied again, is as it was. -/
import Derived.Test.YtcdmcndjbajhlaaGreatDoorJg
import Derived.Test.YtcdmcndjbajhlaaGreatDoorJw
set_option linter.all false
set_option maxRecDepth 100000
namespace Go.Proofs.YtcdmcndjbajhlaaGreatDoor
open Go.RowKit

/-- The coefficients, times c. -/
def scal (c : Int) (x : Nm) : Nm := ⟨c * x.A, c * x.B, c * x.C, c * x.D, x.K⟩
theorem scal_up (c : Int) (x : Nm) : (scal c x).up = scal c x.up := by
  apply Nm.ext5 <;> simp only [scal, Nm.up] <;> grind
theorem scal_upN (c : Int) (n : Nat) (x : Nm) : upN n (scal c x) = scal c (upN n x) := by
  induction n with
  | zero => rfl
  | succ n ih => rw [upN_one, upN_one, ih, scal_up]
theorem scal_mulN (c : Int) (x y : Nm) : mulN (scal c x) y = scal c (mulN x y) := by
  apply Nm.ext5 <;> simp only [scal, mulN] <;> grind
theorem scal_scal (c d : Int) (x : Nm) : scal c (scal d x) = scal (c * d) x := by
  apply Nm.ext5 <;> simp only [scal] <;> grind
theorem scal_inj {c : Int} (hc : c ≠ 0) {x y : Nm} (h : scal c x = scal c y) : x = y := by
  have h1 := congrArg Nm.A h
  have h2 := congrArg Nm.B h
  have h3 := congrArg Nm.C h
  have h4 := congrArg Nm.D h
  have h5 := congrArg Nm.K h
  exact Nm.ext5 (Int.eq_of_mul_eq_mul_left hc h1) (Int.eq_of_mul_eq_mul_left hc h2) (Int.eq_of_mul_eq_mul_left hc h3) (Int.eq_of_mul_eq_mul_left hc h4) h5
/-- With another K. -/
def atK (x : Nm) (k : Int) : Nm := ⟨x.A, x.B, x.C, x.D, k⟩
theorem scal_shl (t : Nat) (x : Nm) : atK (scal (2 ^ t) x) (x.K + 2 * t) = upN (2 * t) x := by
  rw [upN_even]
  apply Nm.ext5 <;> simp only [scal, shlN, atK, Int.mul_comm]
theorem atK_up (x : Nm) (k : Int) : (atK x k).up = atK x.up (k + 1) := rfl
theorem atK_upN (n : Nat) (x : Nm) (k : Int) : upN n (atK x k) = atK (upN n x) (k + n) := by
  induction n with
  | zero => simp [upN, atK]
  | succ n ih =>
    rw [upN_one, upN_one, ih, atK_up]
    congr 1
    omega
theorem atK_self (x : Nm) {k : Int} (h : x.K = k) : atK x k = x := by subst h; rfl
theorem atK_mulN (x y : Nm) (k : Int) : mulN (atK x k) y = atK (mulN x y) (k + y.K) := rfl

/-- y times what makes an integer of it. -/
theorem bN_mul (y : Nm) : mulN y (mulN (conjN y) (dotN (normN y))) = ⟨bN y, 0, 0, 0, 4 * y.K⟩ := by
  rw [← mulN_assoc]
  show mulN (normN y) (dotN (normN y)) = _
  have hb := bN_eq y
  rw [dot_norm, norm_form]
  apply Nm.ext5 <;> simp only [mulN] <;> grind
theorem abN_eq (x y : Nm) : abN x y = mulN x (mulN (conjN y) (dotN (normN y))) := mulN_assoc _ _ _
theorem mulN_int (x : Nm) (b k : Int) : mulN x ⟨b, 0, 0, 0, k⟩ = atK (scal b x) (x.K + k) := by
  apply Nm.ext5 <;> simp only [mulN, scal, atK] <;> grind
theorem strip_mul : ∀ (n : Nat) (o : Int) (t : Nat), ∃ s : Nat, (strip n o t).2 = (t : Int) + s ∧ (strip n o t).1 * 2 ^ s = o
  | 0, o, t => ⟨0, by simp [strip], by simp [strip]⟩
  | n + 1, o, t => by
    by_cases h : o % 2 = 0
    · obtain ⟨s, h1, h2⟩ := strip_mul n (o / 2) (t + 1)
      rw [strip, if_pos h]
      have e : ((t + 1 : Nat) : Int) = (t : Int) + 1 := by omega
      rw [e] at h1 h2
      refine ⟨s + 1, by rw [h1]; omega, ?_⟩
      rw [Int.pow_succ, ← Int.mul_assoc, h2]
      omega
    · rw [strip, if_neg h]
      exact ⟨0, by simp, by simp⟩
theorem odd_dvd {o : Int} (ho : o % 2 ≠ 0) : ∀ (j : Nat) (a : Int), o ∣ a * 2 ^ j → o ∣ a
  | 0, a, h => by simpa using h
  | j + 1, a, h => by
    rw [Int.pow_succ, ← Int.mul_assoc] at h
    refine odd_dvd ho j a ?_
    generalize a * 2 ^ j = c at h
    obtain ⟨d, hd⟩ := h
    have h1 : d % 2 = 0 := by
      rcases Int.emod_two_eq d with h2 | h2
      · exact h2
      · exfalso
        have h3 : (o * d) % 2 = 1 := by rw [Int.mul_emod, h2]; omega
        omega
    refine ⟨d / 2, ?_⟩
    have h4 : d = 2 * (d / 2) := by omega
    rw [h4] at hd
    have h5 : c * 2 = (o * (d / 2)) * 2 := by rw [hd]; grind
    omega

/-- The whole part: odd, and how many halves. -/
theorem bN_parts {y : Nm} (hy : y.le 4096) (h0 : bN y ≠ 0) : ∃ (o : Int) (t : Nat), strip 64 (bN y) 0 = (o, (t : Int)) ∧ o * 2 ^ t = bN y ∧ o % 2 ≠ 0 ∧ 0 < o := by
  have h1 := bN_nonneg y
  have h2 := bN_le hy
  have h3 : (18014398509481984 : Int) < 2 ^ 64 := by decide
  have h := strip_of 64 (bN y) 0 (by omega) (by omega)
  obtain ⟨s, h4, h5⟩ := strip_mul 64 (bN y) 0
  refine ⟨(strip 64 (bN y) 0).1, s, ?_, h5, h.1, h.2.1⟩
  have h6 : (strip 64 (bN y) 0).2 = (s : Int) := by
    have : ((0 : Nat) : Int) = 0 := rfl
    rw [this] at h4
    omega
  rw [← h6]
theorem goes_iff {x y : Nm} {o t : Int} (hs : strip 64 (bN y) 0 = (o, t)) : goes x y ↔ o ∣ (abN x y).A ∧ o ∣ (abN x y).B ∧ o ∣ (abN x y).C ∧ o ∣ (abN x y).D := by
  unfold goes
  rw [hs]
  dsimp only
  rw [Int.dvd_iff_tmod_eq_zero, Int.dvd_iff_tmod_eq_zero, Int.dvd_iff_tmod_eq_zero, Int.dvd_iff_tmod_eq_zero]
theorem quo_scal {x y : Nm} {o t : Int} (hs : strip 64 (bN y) 0 = (o, t)) (hg : goes x y) : scal o (atK (quoN x y) (abN x y).K) = abN x y := by
  rw [goes_iff hs] at hg
  unfold quoN
  rw [hs]
  apply Nm.ext5 <;> simp only [scal, atK]
  · exact Int.mul_tdiv_cancel' hg.1
  · exact Int.mul_tdiv_cancel' hg.2.1
  · exact Int.mul_tdiv_cancel' hg.2.2.1
  · exact Int.mul_tdiv_cancel' hg.2.2.2
theorem abN_K (x y : Nm) : (abN x y).K = x.K + 3 * y.K := by
  rw [abN_eq, mulN_K, mulN_K, dotN_K']
  show x.K + (y.K + (y.K + y.K)) = _
  omega
theorem quoN_K' {x y : Nm} {o t : Int} (hs : strip 64 (bN y) 0 = (o, t)) : (quoN x y).K = x.K - y.K + 2 * t := by
  unfold quoN; rw [hs]
/-- What divides, multiplied again. -/
theorem quo_mul {x y : Nm} (hy : y.le 4096) (h0 : bN y ≠ 0) (hg : goes x y) : Sv (mulN (quoN x y) y) x := by
  obtain ⟨o, t, hs, hb, ho, hp⟩ := bN_parts hy h0
  have h1 := quo_scal hs hg
  have h2 : scal o (mulN (atK (quoN x y) (abN x y).K) y) = scal o (scal (2 ^ t) (atK x (x.K + 4 * y.K))) := by
    rw [← scal_mulN, h1, abN_eq, mulN_assoc, mulN_comm _ y, bN_mul, mulN_int, scal_scal, hb]
    rfl
  have h3 := scal_inj (by omega) h2
  rw [atK_mulN] at h3
  refine ⟨0, 2 * t, ?_⟩
  rw [← scal_shl]
  have hA := congrArg Nm.A h3
  have hB := congrArg Nm.B h3
  have hC := congrArg Nm.C h3
  have hD := congrArg Nm.D h3
  have hK := quoN_K' (x := x) hs
  refine Nm.ext5 hA hB hC hD ?_
  show (quoN x y).K + y.K = x.K + 2 * t
  omega
/-- What is a product is divided. -/
theorem quo_of {x y z : Nm} (hy : y.le 4096) (h0 : bN y ≠ 0) (hz : Sv x (mulN z y)) : goes x y ∧ Sv (quoN x y) z := by
  obtain ⟨o, t, hs, hb, ho, hp⟩ := bN_parts hy h0
  obtain ⟨m0, n0, hmn⟩ := hz
  obtain ⟨j, n, hj⟩ : ∃ j n, upN (2 * j) x = upN n (mulN z y) := by
    rcases Nat.mod_two_eq_zero_or_one m0 with e | e
    · exact ⟨m0 / 2, n0, by rw [show 2 * (m0 / 2) = m0 by omega]; exact hmn⟩
    · exact ⟨(m0 + 1) / 2, n0 + 1, by rw [show 2 * ((m0 + 1) / 2) = m0 + 1 by omega, upN_one, upN_one, hmn]⟩
  have h1 : upN (2 * j) (abN x y) = scal (bN y) (upN n (atK z (z.K + 4 * y.K))) := by
    rw [abN_eq, ← mulN_upN, hj, mulN_upN, mulN_assoc, bN_mul, mulN_int, ← scal_upN]
    rfl
  have hd : ∀ (a u : Int), a * 2 ^ j = bN y * u → o ∣ a := fun a u h => odd_dvd ho j a ⟨2 ^ t * u, by rw [h, ← hb, Int.mul_assoc]⟩
  have hg : goes x y := by
    rw [goes_iff hs]
    rw [upN_even] at h1
    exact ⟨hd _ _ (congrArg Nm.A h1), hd _ _ (congrArg Nm.B h1), hd _ _ (congrArg Nm.C h1), hd _ _ (congrArg Nm.D h1)⟩
  refine ⟨hg, 2 * j, 2 * t + n, ?_⟩
  have h2 := quo_scal hs hg
  have h3 : scal o (upN (2 * j) (atK (quoN x y) (abN x y).K)) = scal o (scal (2 ^ t) (upN n (atK z (z.K + 4 * y.K)))) := by
    rw [← scal_upN, h2, h1, scal_scal, hb]
  have h4 := scal_inj (by omega) h3
  rw [atK_upN, atK_upN] at h4
  rw [Nat.add_comm (2 * t) n, upN_add n (2 * t), ← scal_shl t]
  have hA := congrArg Nm.A h4
  have hB := congrArg Nm.B h4
  have hC := congrArg Nm.C h4
  have hD := congrArg Nm.D h4
  have hK := quoN_K' (x := x) hs
  have hK2 := congrArg Nm.K h1
  rw [upN_K, abN_K] at hK2
  have hK3 : (scal (bN y) (upN n (atK z (z.K + 4 * y.K)))).K = z.K + 4 * y.K + n := by
    show (upN n (atK z (z.K + 4 * y.K))).K = _
    rw [upN_K]; rfl
  rw [hK3] at hK2
  refine Nm.ext5 hA hB hC hD ?_
  show (upN (2 * j) (quoN x y)).K = (upN n z).K + 2 * t
  rw [upN_K, upN_K, hK]
  omega
theorem up_inj {x y : Nm} (h : x.up = y.up) : x = y := by rw [← up_half x, h, up_half]
theorem upN_inj {x y : Nm} : ∀ n, upN n x = upN n y → x = y
  | 0, h => h
  | n + 1, h => by rw [upN_one, upN_one] at h; exact upN_inj n (up_inj h)
theorem inb_upN' {m : Int} (n : Nat) (x : Nm) (h : (upN n x).inb m = true) : x.inb m = true := inb_upN n x h
/-- What settles, of the value of a right number. -/
theorem sett_sv {q z : Nm} (hz : Okay z) (hs : Sv q z) : settN q = z.least ∧ settE q = 0 := by
  unfold settN settE
  by_cases h : q.K < 0
  · rw [if_pos h, if_pos h]
    have hi : q.inb 1073741824 = true := by
      obtain ⟨m, n, hmn⟩ := hs
      have hK := congrArg Nm.K hmn
      rw [upN_K, upN_K] at hK
      have := hz.lo
      obtain ⟨d, rfl⟩ : ∃ d, m = d + n := ⟨m - n, by omega⟩
      rw [upN_add] at hmn
      have h2 := upN_inj n hmn
      exact inb_upN' d q (by rw [h2]; exact le_inb.1 hz.le)
    rw [if_pos hi, if_pos hi]
    exact fit_sv (by rw [lift_K (by omega)]; omega) hz ((sv_lift q 0).trans hs)
  · rw [if_neg h, if_neg h]
    exact fit_sv (by omega) hz hs
theorem div_tells {x y z : Nm} {e : Int} (hx : Okay x) (hy : Okay y) (h : divN x.least y.least = z ∧ divE x.least y.least = e) : Tells 36 #[x.v, y.v] (.tuple #[z.v, .int .i64 e]) :=
  Tells.of (Divide_any x.A x.B x.C x.D x.K y.A y.B y.C y.D y.K) (by
    have ec : chk2 x y = 0 := hx.chk2 hy
    have ex : (⟨x.A, x.B, x.C, x.D, x.K⟩ : Nm) = x := rfl
    have ey : (⟨y.A, y.B, y.C, y.D, y.K⟩ : Nm) = y := rfl
    rw [ex, ey]
    unfold DivN DivE
    rw [if_pos ec, if_pos ec, h.1, h.2])
theorem zero_least {y : Nm} (h : 0 ≤ y.K) : y.least.zero = y.zero := by
  obtain ⟨m, _, hm⟩ := least_raised h
  have := zero_upN m y.least
  rw [← hm] at this
  exact this.symm
theorem in4096 {x : Nm} {M k : Int} (h : Fine x M k) (h0 : 0 ≤ M) (hM : M ≤ 4096) : x.least.inb 4096 = true := le_inb.1 (le_mono (h.least h0).le hM)
/-- Nothing is divided by 0. -/
theorem div_none {x y : Nm} (hx : Fine x 12 6) (hy : Fine y 12 9) (hz : y.zero = true) : Tells 36 #[x.v, y.v] (.tuple #[nul.v, .int .i64 6]) := by
  refine div_tells hx.okay hy.okay ?_
  have e : bN y.least = 0 := (bN_zero _).2 ((zero_least hy.lo).trans hz)
  have h1 : ¬ (x.least.inb 4096 = true ∧ y.least.inb 4096 = true ∧ bN y.least ≠ 0 ∧ goes x.least y.least) := fun h => h.2.2.1 e
  have h2 : ¬ ¬ (x.least.inb 4096 = true ∧ y.least.inb 4096 = true) := fun h => h ⟨in4096 hx (by omega) (by omega), in4096 hy (by omega) (by omega)⟩
  have h3 : ¬ (bN y.least ≠ 0 ∧ goes x.least y.least) := fun h => h.1 e
  unfold divN divE
  rw [if_neg h1, if_neg h2, if_neg h3]
  exact ⟨rfl, rfl⟩
theorem bN_pos {y : Nm} (hy : 0 ≤ y.K) (h : y.zero = false) : bN y.least ≠ 0 := fun hc => by
  rw [(zero_least hy).symm.trans ((bN_zero _).1 hc)] at h
  cases h
/-- A product divided by one of its factors. -/
theorem div_back {x y : Nm} (hx : Fine x 12 6) (hy : Fine y 12 6) (hz : y.zero = false) : Tells 36 #[(mulN x y).least.v, y.v] (two x.least) := by
  have fa : Fine (mulN x y) 576 12 := hx.mul hy _ _ rfl rfl
  refine div_tells fa.okay.least hy.okay ?_
  have hb := bN_pos hy.lo hz
  have i1 := in4096 hy (by omega) (by omega)
  have i2 := in4096 fa (by omega) (by omega)
  rw [least_twice fa.lo]
  obtain ⟨hg, hq⟩ := quo_of (x := (mulN x y).least) (z := x) (in_le i1) hb ((sv_least fa.lo).trans ((Sv.refl x).mul (sv_least hy.lo).symm))
  have hs := sett_sv hx.okay hq
  have n2 : ¬ ¬ ((mulN x y).least.inb 4096 = true ∧ y.least.inb 4096 = true) := fun h => h ⟨i2, i1⟩
  unfold divN divE
  rw [if_pos ⟨i2, i1, hb, hg⟩, if_neg n2, if_pos ⟨hb, hg⟩]
  exact hs
theorem tdiv_fine {a o M : Int} (h : -M ≤ a ∧ a ≤ M) : -M ≤ a.tdiv o ∧ a.tdiv o ≤ M := tdiv_le h
/-- What is divided, and multiplied again. -/
theorem div_mul {x y : Nm} (hx : Fine x 12 6) (hy : Fine y 12 6) : (∃ z : Nm, Tells 36 #[x.v, y.v] (.tuple #[z.v, .int .i64 6])) ∨ ∃ z : Nm, Tells 36 #[x.v, y.v] (two z) ∧ Tells 32 #[z.v, y.v] (two x.least) := by
  have i1 := in4096 hx (by omega) (by omega)
  have i2 := in4096 hy (by omega) (by omega)
  have n2 : ¬ ¬ (x.least.inb 4096 = true ∧ y.least.inb 4096 = true) := fun h => h ⟨i1, i2⟩
  by_cases hg : bN y.least ≠ 0 ∧ goes x.least y.least
  · right
    obtain ⟨hb, hg⟩ := hg
    obtain ⟨o, t, hs, hbt, ho, hp⟩ := bN_parts (in_le i2) hb
    have fX := hx.least (by omega)
    have fY := hy.least (by omega)
    -- the bounds of the quotient
    have fN : Fine (normN y.least) 576 12 := fY.mul fY.conj _ _ rfl rfl
    have fA : Fine (abN x.least y.least) 1327104 24 := (fX.mul fY.conj 576 12 rfl rfl).mul fN.dot _ _ rfl rfl
    have hbn : bN y.least ≤ 1327104 := ((fN.mul fN.dot 1327104 24 rfl rfl).le).1.2
    have ht : t ≤ 20 := by
      rcases Nat.lt_or_ge 20 t with h | h
      · exfalso
        have h1 := pow2_le (j := 21) (n := t) h
        have h2 : (2 : Int) ^ 21 = 2097152 := by decide
        have h3 : 1 * (2 : Int) ^ t ≤ o * 2 ^ t := Int.mul_le_mul_of_nonneg_right (by omega) (by have := pow2_pos t; omega)
        omega
      · exact h
    have hK := quoN_K' (x := x.least) hs
    have lQ : (quoN x.least y.least).le 1327104 := by
      obtain ⟨h1, h2, h3, h4⟩ := fA.le
      exact ⟨tdiv_le h1, tdiv_le h2, tdiv_le h3, tdiv_le h4⟩
    have k1 := fX.lo
    have k2 := fX.hi
    have k3 := fY.lo
    have k4 := fY.hi
    obtain ⟨z, hz, hqz⟩ : ∃ z, Okay z ∧ Sv (quoN x.least y.least) z := by
      by_cases h : (quoN x.least y.least).K < 0
      · refine ⟨liftN (quoN x.least y.least) 0, ⟨?_, by rw [lift_K (by omega)]; omega, by rw [lift_K (by omega)]; omega⟩, (sv_lift _ _).symm⟩
        rw [lift_eq (by omega)]
        refine le_mono (upN_le' _ lQ) ?_
        have h1 := pow2_le (j := (0 - (quoN x.least y.least).K).toNat) (n := 6) (by omega)
        have h2 : (2 : Int) ^ 6 = 64 := by decide
        have h3 : (1327104 : Int) * 2 ^ (0 - (quoN x.least y.least).K).toNat ≤ 1327104 * 2 ^ 6 := Int.mul_le_mul_of_nonneg_left h1 (by omega)
        omega
      · exact ⟨_, ⟨le_mono lQ (by omega), by omega, by omega⟩, Sv.refl _⟩
    have hsett := sett_sv hz hqz
    refine ⟨z.least, ?_, ?_⟩
    · refine div_tells hx.okay hy.okay ?_
      unfold divN divE
      rw [if_pos ⟨i1, i2, hb, hg⟩, if_neg n2, if_pos ⟨hb, hg⟩]
      exact hsett
    · refine mul_tells hz.least hy.okay hx.okay ?_
      refine ((((sv_least hz.lo).trans hqz.symm).mul (sv_least hy.lo).symm).trans (quo_mul (in_le i2) hb hg)).trans (sv_least hx.lo)
  · left
    refine ⟨nul, div_tells hx.okay hy.okay ?_⟩
    have h1 : ¬ (x.least.inb 4096 = true ∧ y.least.inb 4096 = true ∧ bN y.least ≠ 0 ∧ goes x.least y.least) := fun h => hg h.2.2
    unfold divN divE
    rw [if_neg h1, if_neg n2, if_neg hg]
    exact ⟨rfl, rfl⟩
/-- What RingDivided asks of the ring. -/
structure DivT (x y a lx : Nm) (z : Bool) : Prop where
  h1 : Tells 32 #[x.v, y.v] (two a)
  h2 : Tells 31 #[x.v] (two lx)
  h3 : ∀ k : Int, 0 ≤ k → k < 9 → Tells 36 #[x.v, nv 0 0 0 0 k] (.tuple #[nul.v, .int .i64 6])
  h4 : Tells 40 #[y.v, nul.v] (.tuple #[.bool z, .int .i64 0])
  h5 : z = false → Tells 36 #[a.v, y.v] (two lx)
  h6 : (∃ c : Nm, Tells 36 #[x.v, y.v] (.tuple #[c.v, .int .i64 6])) ∨ ∃ c : Nm, Tells 36 #[x.v, y.v] (two c) ∧ Tells 32 #[c.v, y.v] (two lx)
theorem z12 : (-12 : Int) ≤ 0 ∧ (0 : Int) ≤ 12 := by decide
theorem div_all {x y : Nm} (hx : Fine x 12 6) (hy : Fine y 12 6) : DivT x y (mulN x y).least x.least y.zero := {
  h1 := mul_tells hx.okay hy.okay (Fine.okay (hx.mul hy 576 12 rfl rfl)) (Sv.refl _)
  h2 := least_tells hx.okay
  h3 := fun k h0 h1 => div_none (y := ⟨0, 0, 0, 0, k⟩) hx ⟨⟨z12, z12, z12, z12⟩, h0, by show k ≤ 9; omega⟩ rfl
  h4 := by
    have h := same_tells hy.okay okay_nul
    have e : nul.least = nul := by rfl
    rw [e, least_nul hy.lo] at h
    exact h
  h5 := fun hz => div_back hx hy hz
  h6 := div_mul hx hy }
end Go.Proofs.YtcdmcndjbajhlaaGreatDoor
