/- Plain maths: when a + b r is below 0, r the root of 2; it is so of a number and of the number raised, and of what is below 0 the sum is below 0. -/
import Derived.Test.YtcdmcndjbajhlaaGreatDoorMa
import Derived.Test.YtcdmcndjbajhlaaGreatDoorDm
set_option linter.all false
set_option maxRecDepth 100000
namespace Go.Proofs.YtcdmcndjbajhlaaGreatDoor

/-- Of the same value: raised they are the same. -/
def Sv (x y : Nm) : Prop := ∃ m n, upN m x = upN n y
theorem Sv.refl (x : Nm) : Sv x x := ⟨0, 0, rfl⟩
theorem Sv.symm {x y : Nm} : Sv x y → Sv y x := fun ⟨m, n, h⟩ => ⟨n, m, h.symm⟩
theorem upN_swap (m n : Nat) (x : Nm) : upN m (upN n x) = upN n (upN m x) := by
  rw [← upN_add, ← upN_add, Nat.add_comm]
theorem Sv.trans {x y z : Nm} : Sv x y → Sv y z → Sv x z := by
  rintro ⟨m, n, h⟩ ⟨p, q, k⟩
  refine ⟨m + p, q + n, ?_⟩
  rw [upN_add, upN_add, h, upN_swap, k]
theorem Sv.of_eq {x y : Nm} (h : x = y) : Sv x y := h ▸ Sv.refl x
theorem Sv.upN (n : Nat) (x : Nm) : Sv (upN n x) x := ⟨0, n, rfl⟩
theorem Sv.least {x y : Nm} (hx : 0 ≤ x.K) (hy : 0 ≤ y.K) : Sv x y → x.least = y.least := by
  rintro ⟨m, n, h⟩
  rw [← least_upN m hx, ← least_upN n hy, h]
theorem sv_least {x : Nm} (h : 0 ≤ x.K) : Sv x.least x := by
  obtain ⟨m, _, hm⟩ := least_raised h
  exact ⟨m, 0, hm.symm⟩
theorem Sv.of_least {x y : Nm} (hx : 0 ≤ x.K) (hy : 0 ≤ y.K) (h : x.least = y.least) : Sv x y :=
  (sv_least hx).symm.trans (h ▸ sv_least hy)

theorem mulN_comm (x y : Nm) : mulN x y = mulN y x := by
  apply Nm.ext5 <;> simp only [mulN] <;> grind
theorem mulN_assoc (x y z : Nm) : mulN (mulN x y) z = mulN x (mulN y z) := by
  apply Nm.ext5 <;> simp only [mulN] <;> grind
theorem mulN_up (x y : Nm) : mulN x.up y = (mulN x y).up := by
  apply Nm.ext5 <;> simp only [mulN, Nm.up] <;> grind
theorem mulN_upN (n : Nat) (x y : Nm) : mulN (upN n x) y = upN n (mulN x y) := by
  induction n with
  | zero => rfl
  | succ n ih => rw [upN_one, upN_one, mulN_up, ih]
theorem mulN_K (x y : Nm) : (mulN x y).K = x.K + y.K := rfl
theorem Sv.mul1 {x x' : Nm} (y : Nm) : Sv x x' → Sv (mulN x y) (mulN x' y) := by
  rintro ⟨m, n, h⟩
  exact ⟨m, n, by rw [← mulN_upN, ← mulN_upN, h]⟩
theorem Sv.mul {x x' y y' : Nm} (h : Sv x x') (k : Sv y y') : Sv (mulN x y) (mulN x' y') := by
  refine (h.mul1 y).trans ?_
  rw [mulN_comm x' y, mulN_comm x' y']
  exact k.mul1 x'
theorem Sv.add1 {x x' : Nm} (y : Nm) : Sv x x' → Sv (addN x y) (addN x' y) := by
  rintro ⟨m, n, h⟩
  obtain ⟨a, ha⟩ := addN_upN m x y
  obtain ⟨b, hb⟩ := addN_upN n x' y
  exact ⟨a, b, by rw [← ha, ← hb, h]⟩
theorem Sv.add {x x' y y' : Nm} (h : Sv x x') (k : Sv y y') : Sv (addN x y) (addN x' y') := by
  refine (h.add1 y).trans ?_
  rw [addN_comm x' y, addN_comm x' y']
  exact k.add1 x'
theorem negN_upN (n : Nat) (x : Nm) : negN (upN n x) = upN n (negN x) := by
  induction n with
  | zero => rfl
  | succ n ih => rw [upN_one, upN_one, negN_up, ih]
theorem Sv.neg {x x' : Nm} : Sv x x' → Sv (negN x) (negN x') := by
  rintro ⟨m, n, h⟩
  exact ⟨m, n, by rw [← negN_upN, ← negN_upN, h]⟩
theorem Sv.sub {x x' y y' : Nm} (h : Sv x x') (k : Sv y y') : Sv (subN x y) (subN x' y') := h.add k.neg
theorem Sv.conj {x x' : Nm} : Sv x x' → Sv (conjN x) (conjN x') := by
  rintro ⟨m, n, h⟩
  exact ⟨m, n, by rw [← conjN_upN, ← conjN_upN, h]⟩
theorem dotN_up (x : Nm) : dotN x.up = (dotN x).up := by
  have hK : x.up.K = x.K + 1 := rfl
  unfold dotN
  rw [hK]
  by_cases h : x.K % 2 = 0
  · rw [if_pos h, if_neg (by omega)]
    apply Nm.ext5 <;> simp only [Nm.up] <;> omega
  · rw [if_neg h, if_pos (by omega)]
    apply Nm.ext5 <;> simp only [Nm.up] <;> omega
theorem dotN_upN (n : Nat) (x : Nm) : dotN (upN n x) = upN n (dotN x) := by
  induction n with
  | zero => rfl
  | succ n ih => rw [upN_one, upN_one, dotN_up, ih]
theorem Sv.dot {x x' : Nm} : Sv x x' → Sv (dotN x) (dotN x') := by
  rintro ⟨m, n, h⟩
  exact ⟨m, n, by rw [← dotN_upN, ← dotN_upN, h]⟩
theorem Sv.norm {x x' : Nm} (h : Sv x x') : Sv (normN x) (normN x') := h.mul h.conj

theorem lift_eq {x : Nm} {k : Int} (h : x.K ≤ k) : liftN x k = upN (k - x.K).toNat x := by
  unfold liftN
  split
  · rename_i h2
    have : (k - x.K).toNat = 0 := by omega
    rw [this]; rfl
  · rfl
theorem sv_lift (x : Nm) (k : Int) : Sv (liftN x k) x := by
  unfold liftN
  split
  · exact Sv.refl x
  · exact Sv.upN _ x
theorem lift_K {x : Nm} {k : Int} (h : x.K ≤ k) : (liftN x k).K = k := by
  rw [lift_eq h, upN_K]; omega
theorem lift_lift {x : Nm} {j k : Int} (h : x.K ≤ j) (h2 : j ≤ k) : liftN (liftN x j) k = liftN x k := by
  have hj := lift_K h
  rw [lift_eq (x := liftN x j) (by omega), hj, lift_eq h, lift_eq (by omega : x.K ≤ k), ← upN_add]
  congr 1
  omega
theorem plusN_upN (n : Nat) (u v : Nm) (j : Int) : upN n (plusN u v j) = plusN (upN n u) (upN n v) (j + n) := by
  induction n with
  | zero => apply Nm.ext5 <;> simp [upN, plusN]
  | succ n ih =>
    rw [upN_one, upN_one, upN_one, ih, ← plusN_up]
    apply Nm.ext5 <;> simp only [plusN] <;> omega
theorem plusN_lift {u v : Nm} {j k : Int} (hu : u.K = j) (hv : v.K = j) (h : j ≤ k) : liftN (plusN u v j) k = plusN (liftN u k) (liftN v k) k := by
  have hp : (plusN u v j).K = j := rfl
  rw [lift_eq (by omega), lift_eq (by omega : u.K ≤ k), lift_eq (by omega : v.K ≤ k), hp, hu, hv, plusN_upN]
  congr 1
  omega
theorem addN_lift {x y : Nm} {k : Int} (hx : x.K ≤ k) (hy : y.K ≤ k) : liftN (addN x y) k = plusN (liftN x k) (liftN y k) k := by
  rw [addN_plus, plusN_lift (lift_K (by omega)) (lift_K (by omega)) (by omega), lift_lift (by omega) (by omega), lift_lift (by omega) (by omega)]
theorem addN_assoc (x y z : Nm) : addN (addN x y) z = addN x (addN y z) := by
  obtain ⟨k, hk⟩ : ∃ k, k = max (max x.K y.K) z.K := ⟨_, rfl⟩
  have e1 : max (addN x y).K z.K = k := hk.symm
  have e2 : max x.K (addN y z).K = k := by rw [addN_K]; omega
  rw [addN_plus (addN x y) z, addN_plus x (addN y z), e1, e2, addN_lift (by omega) (by omega), addN_lift (by omega) (by omega)]
  apply Nm.ext5 <;> simp only [plusN] <;> omega
theorem mulN_plus (u v z : Nm) (j : Int) (hu : u.K = j) (hv : v.K = j) : mulN (plusN u v j) z = plusN (mulN u z) (mulN v z) (j + z.K) := by
  apply Nm.ext5 <;> simp only [mulN, plusN] <;> grind
theorem mulN_lift {x z : Nm} {k : Int} (h : x.K ≤ k) : mulN (liftN x k) z = liftN (mulN x z) (k + z.K) := by
  rw [lift_eq h, mulN_upN, lift_eq (by rw [mulN_K]; omega), mulN_K]
  congr 1
  omega
theorem mulN_addN (x y z : Nm) : mulN (addN x y) z = addN (mulN x z) (mulN y z) := by
  have e : max (mulN x z).K (mulN y z).K = max x.K y.K + z.K := by rw [mulN_K, mulN_K]; omega
  rw [addN_plus, addN_plus, e, mulN_plus _ _ _ _ (lift_K (by omega)) (lift_K (by omega)), mulN_lift (by omega), mulN_lift (by omega)]
theorem liftN_nul {k : Int} (h : 0 ≤ k) : liftN nul k = ⟨0, 0, 0, 0, k⟩ := by
  rw [lift_eq (show nul.K ≤ k from h), upN_nul]
  apply Nm.ext5 <;> simp <;> omega
theorem addN_nul {x : Nm} (h : 0 ≤ x.K) : addN x nul = x := by
  have e : max x.K nul.K = x.K := by show max x.K 0 = _; omega
  rw [addN_plus, e, liftN_nul h]
  have e4 : liftN x x.K = x := by unfold liftN; rw [if_pos (by omega)]
  rw [e4]
  apply Nm.ext5 <;> simp [plusN]
theorem nul_addN {x : Nm} (h : 0 ≤ x.K) : addN nul x = x := by rw [addN_comm, addN_nul h]
theorem sv_zero {k : Int} (h : 0 ≤ k) : Sv ⟨0, 0, 0, 0, k⟩ nul := by
  refine ⟨0, k.toNat, ?_⟩
  rw [upN_nul]
  apply Nm.ext5 <;> simp [upN] <;> omega
theorem subN_self {x : Nm} (h : 0 ≤ x.K) : Sv (subN x x) nul := by
  refine Sv.trans (Sv.of_eq ?_) (sv_zero h)
  unfold subN
  have e : max x.K (negN x).K = x.K := by show max x.K x.K = _; omega
  rw [addN_plus, e]
  have e4 : liftN x x.K = x := by unfold liftN; rw [if_pos (by omega)]
  have e5 : liftN (negN x) x.K = negN x := by unfold liftN; rw [if_pos (by show x.K ≤ x.K; omega)]
  rw [e4, e5]
  apply Nm.ext5 <;> simp only [plusN, negN] <;> omega
theorem addN_subN {x y : Nm} (hx : 0 ≤ x.K) (hy : 0 ≤ y.K) : Sv (subN (addN x y) y) x := by
  unfold subN
  rw [addN_assoc]
  exact ((Sv.refl x).add (subN_self hy)).trans (Sv.of_eq (addN_nul hx))
theorem negN_plus (u v : Nm) (j : Int) : negN (plusN u v j) = plusN (negN u) (negN v) j := by
  apply Nm.ext5 <;> simp only [negN, plusN] <;> omega
theorem negN_lift (x : Nm) (k : Int) : negN (liftN x k) = liftN (negN x) k := by
  unfold liftN
  have : (negN x).K = x.K := rfl
  rw [this]
  split
  · rfl
  · rw [negN_upN]
theorem negN_addN (x y : Nm) : negN (addN x y) = addN (negN x) (negN y) := by
  rw [addN_plus, addN_plus, negN_plus, negN_lift, negN_lift]; rfl
theorem conjN_plus (u v : Nm) (j : Int) : conjN (plusN u v j) = plusN (conjN u) (conjN v) j := by
  apply Nm.ext5 <;> simp only [conjN, plusN] <;> omega
theorem conjN_lift (x : Nm) (k : Int) : conjN (liftN x k) = liftN (conjN x) k := by
  unfold liftN
  have : (conjN x).K = x.K := rfl
  rw [this]
  split
  · rfl
  · rw [conjN_upN]
theorem conjN_addN (x y : Nm) : conjN (addN x y) = addN (conjN x) (conjN y) := by
  rw [addN_plus, addN_plus, conjN_plus, conjN_lift, conjN_lift]; rfl
theorem conjN_negN (x : Nm) : conjN (negN x) = negN (conjN x) := by
  apply Nm.ext5 <;> simp only [conjN, negN]
theorem conjN_mulN (x y : Nm) : conjN (mulN x y) = mulN (conjN x) (conjN y) := by
  apply Nm.ext5 <;> simp only [conjN, mulN] <;> grind
theorem conjN_conjN (x : Nm) : conjN (conjN x) = x := by
  apply Nm.ext5 <;> simp only [conjN] <;> omega
theorem dotN_K' (x : Nm) : (dotN x).K = x.K := by unfold dotN; split <;> rfl
theorem dotN_plus (u v : Nm) (j : Int) (hu : u.K = j) (hv : v.K = j) : dotN (plusN u v j) = plusN (dotN u) (dotN v) j := by
  have hp : (plusN u v j).K = j := rfl
  unfold dotN
  rw [hu, hv, hp]
  by_cases h : j % 2 = 0
  · rw [if_pos h, if_pos h, if_pos h]
    apply Nm.ext5 <;> simp only [plusN] <;> omega
  · rw [if_neg h, if_neg h, if_neg h]
    apply Nm.ext5 <;> simp only [plusN] <;> omega
theorem dotN_lift (x : Nm) (k : Int) : dotN (liftN x k) = liftN (dotN x) k := by
  unfold liftN
  rw [dotN_K']
  split
  · rfl
  · rw [dotN_upN]
theorem dotN_addN (x y : Nm) : dotN (addN x y) = addN (dotN x) (dotN y) := by
  rw [addN_plus, addN_plus, dotN_plus _ _ _ (lift_K (by omega)) (lift_K (by omega)), dotN_lift, dotN_lift, dotN_K', dotN_K']
theorem dotN_negN (x : Nm) : dotN (negN x) = negN (dotN x) := by
  unfold dotN
  have : (negN x).K = x.K := rfl
  rw [this]
  split <;> (apply Nm.ext5 <;> simp only [negN])
theorem dotN_mulN (x y : Nm) : dotN (mulN x y) = mulN (dotN x) (dotN y) := by
  unfold dotN
  rw [mulN_K]
  by_cases h : x.K % 2 = 0 <;> by_cases k : y.K % 2 = 0
  · rw [if_pos h, if_pos k, if_pos (by omega)]
    apply Nm.ext5 <;> simp only [mulN] <;> grind
  · rw [if_pos h, if_neg k, if_neg (by omega)]
    apply Nm.ext5 <;> simp only [mulN] <;> grind
  · rw [if_neg h, if_pos k, if_neg (by omega)]
    apply Nm.ext5 <;> simp only [mulN] <;> grind
  · rw [if_neg h, if_neg k, if_pos (by omega)]
    apply Nm.ext5 <;> simp only [mulN] <;> grind
theorem dotN_dotN (x : Nm) : dotN (dotN x) = x := by
  unfold dotN
  by_cases h : x.K % 2 = 0
  · rw [if_pos h, if_pos h]; apply Nm.ext5 <;> dsimp only <;> omega
  · rw [if_neg h, if_neg h]; apply Nm.ext5 <;> dsimp only <;> omega
theorem dotN_conjN (x : Nm) : dotN (conjN x) = conjN (dotN x) := by
  unfold dotN
  have : (conjN x).K = x.K := rfl
  rw [this]
  split <;> (apply Nm.ext5 <;> simp only [conjN] <;> omega)
theorem normN_mulN (x y : Nm) : normN (mulN x y) = mulN (normN x) (normN y) := by
  unfold normN
  rw [conjN_mulN, mulN_assoc, mulN_assoc, ← mulN_assoc y, mulN_comm y (conjN x), mulN_assoc]

/-- A number with coefficients up to M and a K from 0 to k. -/
structure Fine (x : Nm) (M k : Int) : Prop where
  le : x.le M
  lo : 0 ≤ x.K
  hi : x.K ≤ k
theorem Fine.mono {x : Nm} {M N k l : Int} (h : Fine x M k) (h1 : M ≤ N) (h2 : k ≤ l) : Fine x N l :=
  ⟨le_mono h.le h1, h.lo, Int.le_trans h.hi h2⟩
theorem le_inb {x : Nm} {m : Int} : x.le m ↔ x.inb m = true := by
  unfold Nm.le Nm.inb YtcdmcndjbajhlaaGreatDoor.inb
  rw [decide_eq_true_eq]
  omega
theorem inb_least {x : Nm} {m : Int} (h0 : 0 ≤ m) (h : x.inb m = true) : x.least.inb m = true := by
  unfold Nm.least
  split
  · exact decide_eq_true (by dsimp only [nul]; omega)
  · exact form_in _ _ h
theorem K_least {x : Nm} (h : 0 ≤ x.K) : 0 ≤ x.least.K ∧ x.least.K ≤ x.K := by
  unfold Nm.least
  split
  · exact ⟨by show (0 : Int) ≤ 0; omega, h⟩
  · exact form_K _ _ (by omega)
theorem Fine.least {x : Nm} {M k : Int} (h : Fine x M k) (hM : 0 ≤ M) : Fine x.least M k := by
  have h2 := K_least h.lo
  exact ⟨le_inb.2 (inb_least hM (le_inb.1 h.le)), h2.1, by have := h.hi; omega⟩
theorem Fine.chk {x : Nm} {M k : Int} (h : Fine x M k) (hM : M ≤ 1073741824) (hk : k ≤ 60) : x.chk = 0 := by
  unfold Nm.chk YtcdmcndjbajhlaaGreatDoor.chk
  have := h.lo
  have := h.hi
  rw [if_neg (by omega)]
  exact if_pos (le_inb.1 (le_mono h.le hM))
theorem upN_le' {x : Nm} {M : Int} (n : Nat) (h : x.le M) : (upN n x).le (M * 2 ^ n) := by
  induction n with
  | zero => simpa [upN] using h
  | succ n ih =>
    rw [upN_one]
    have h2 := up_le ih
    rw [show M * 2 ^ (n + 1) = 2 * (M * 2 ^ n) by rw [Int.pow_succ]; grind]
    exact h2
theorem liftN_le' {x : Nm} {M k : Int} (hM : 0 ≤ M) (h : Fine x M k) (n : Nat) (hn : (n : Int) = k) (j : Int) (hj : j ≤ k) : (liftN x j).le (M * 2 ^ n) := by
  unfold liftN
  split
  · have := pow2_pos n
    refine le_mono h.le ?_
    have h3 : M * 1 ≤ M * 2 ^ n := Int.mul_le_mul_of_nonneg_left (by omega) hM
    omega
  · refine le_mono (upN_le' _ h.le) ?_
    have h1 := h.lo
    have h2 := pow2_le (j := (j - x.K).toNat) (n := n) (by omega)
    exact Int.mul_le_mul_of_nonneg_left h2 hM
theorem Fine.add {x y : Nm} {M N k : Int} (hx : Fine x M k) (hy : Fine y N k) (n : Nat) (hn : (n : Int) = k) (hM : 0 ≤ M) (hN : 0 ≤ N) (P : Int) (hP : M * 2 ^ n + N * 2 ^ n = P) : Fine (addN x y) P k := by
  have h1 := hx.lo
  have h2 := hy.lo
  have h3 := hx.hi
  have h4 := hy.hi
  have l1 := liftN_le' hM hx n hn (max x.K y.K) (by omega)
  have l2 := liftN_le' hN hy n hn (max x.K y.K) (by omega)
  refine ⟨?_, by rw [addN_K]; omega, by rw [addN_K]; omega⟩
  generalize M * 2 ^ n = a at *
  generalize N * 2 ^ n = b at *
  subst hP
  rw [addN_plus]
  unfold Nm.le plusN at *
  dsimp only
  omega
theorem Fine.neg {x : Nm} {M k : Int} (h : Fine x M k) : Fine (negN x) M k := ⟨negN_le h.le, h.lo, h.hi⟩
theorem Fine.sub {x y : Nm} {M N k : Int} (hx : Fine x M k) (hy : Fine y N k) (n : Nat) (hn : (n : Int) = k) (hM : 0 ≤ M) (hN : 0 ≤ N) (P : Int) (hP : M * 2 ^ n + N * 2 ^ n = P) : Fine (subN x y) P k :=
  hx.add hy.neg n hn hM hN P hP
theorem Fine.mul {x y : Nm} {M N k l : Int} (hx : Fine x M k) (hy : Fine y N l) (P j : Int) (hP : 4 * (M * N) = P) (hj : k + l = j) : Fine (mulN x y) P j := by
  have h1 := hx.lo
  have h2 := hy.lo
  have h3 := hx.hi
  have h4 := hy.hi
  refine ⟨hP ▸ mulN_le hx.le hy.le, ?_, ?_⟩ <;> rw [mulN_K] <;> omega
theorem Fine.conj {x : Nm} {M k : Int} (h : Fine x M k) : Fine (conjN x) M k :=
  ⟨by have := h.le; unfold Nm.le conjN at *; dsimp only; omega, h.lo, h.hi⟩
theorem Fine.dot {x : Nm} {M k : Int} (h : Fine x M k) : Fine (dotN x) M k := by
  refine ⟨?_, by rw [dotN_K']; exact h.lo, by rw [dotN_K']; exact h.hi⟩
  have := h.le
  unfold dotN
  split <;> (unfold Nm.le at *; dsimp only; omega)
theorem Fine.fit {x : Nm} {M k : Int} (h : Fine x M k) (h0 : 0 ≤ M) (hM : M ≤ 1073741824) (hk : k ≤ 60) : fitN x = x.least ∧ fitE x = 0 := by
  have := (h.least h0).chk hM hk
  unfold fitN fitE
  rw [if_pos this, if_pos this]
  exact ⟨rfl, rfl⟩
/-- A call of two right numbers, whose result is right. -/
theorem joint_fine {x y z : Nm} {M k M1 k1 M2 k2 : Int} (hx : Fine x M1 k1) (hy : Fine y M2 k2) (h : Fine z M k) (h1 : M1 ≤ 1073741824) (h2 : k1 ≤ 60) (h3 : M2 ≤ 1073741824) (h4 : k2 ≤ 60) (h0 : 0 ≤ M) (hM : M ≤ 1073741824) (hk : k ≤ 60) :
    jointN x y z = z.least ∧ jointE x y z = 0 := by
  have e : chk2 x y = 0 := by unfold chk2; rw [if_pos (hx.chk h1 h2)]; exact hy.chk h3 h4
  unfold jointN jointE
  rw [if_pos e, if_pos e]
  exact h.fit h0 hM hk
theorem alone_fine {x z : Nm} {M k M1 k1 : Int} (hx : Fine x M1 k1) (h : Fine z M k) (h1 : M1 ≤ 1073741824) (h2 : k1 ≤ 60) (h0 : 0 ≤ M) (hM : M ≤ 1073741824) (hk : k ≤ 60) :
    aloneN x z = z.least ∧ aloneE x z = 0 := by
  have e : x.chk = 0 := hx.chk h1 h2
  unfold aloneN aloneE
  rw [if_pos e, if_pos e]
  exact h.fit h0 hM hk
end Go.Proofs.YtcdmcndjbajhlaaGreatDoor
namespace Go.Proofs.YtcdmcndjbajhlaaGreatDoor

theorem below0_iff (a b : Int) : below0N a b = true ↔ (a < 0 ∧ 0 < b ∧ 2 * (b * b) < a * a) ∨ (0 < a ∧ b < 0 ∧ a * a < 2 * (b * b)) ∨ (a ≤ 0 ∧ b ≤ 0 ∧ (a < 0 ∨ b < 0)) := by
  unfold below0N
  have e : 2 * b * b = 2 * (b * b) := Int.mul_assoc 2 b b
  rw [e]
  generalize a * a = p
  generalize b * b = q
  split
  · rw [decide_eq_true_eq]; omega
  · split
    · rw [decide_eq_true_eq]; omega
    · rw [decide_eq_true_eq]; omega
theorem below0_up (a b : Int) : below0N (2 * b) a = below0N a b := by
  rw [Bool.eq_iff_iff, below0_iff, below0_iff]
  have e : 2 * b * (2 * b) = 4 * (b * b) := by grind
  rw [e]
  generalize a * a = p
  generalize b * b = q
  omega
/-- A number that is its own conjugate. -/
def Rl (x : Nm) : Prop := x.C = 0 ∧ x.D = -x.B
theorem Rl.real {x : Nm} : realN x = true ↔ Rl x := by
  unfold realN eq4 Rl
  rw [decide_eq_true_eq]
  omega
theorem Rl.up {x : Nm} (h : Rl x) : Rl x.up ∧ below0N x.up.A x.up.B = below0N x.A x.B := by
  unfold Rl Nm.up at *
  dsimp only at *
  refine ⟨by omega, ?_⟩
  rw [show x.B - x.D = 2 * x.B by omega, show x.A + x.C = x.A by omega]
  exact below0_up _ _
theorem Rl.upN {x : Nm} (n : Nat) (h : Rl x) : Rl (upN n x) ∧ below0N (upN n x).A (upN n x).B = below0N x.A x.B := by
  induction n with
  | zero => exact ⟨h, rfl⟩
  | succ n ih =>
    rw [upN_one]
    obtain ⟨h1, h2⟩ := ih
    obtain ⟨h3, h4⟩ := h1.up
    exact ⟨h3, h4.trans h2⟩
theorem Rl.down {x : Nm} (h : Rl x.up) : Rl x := by
  unfold Rl Nm.up at *
  dsimp only at *
  omega
theorem Rl.downN {x : Nm} (n : Nat) (h : Rl (Go.Proofs.YtcdmcndjbajhlaaGreatDoor.upN n x)) : Rl x := by
  induction n with
  | zero => exact h
  | succ n ih => rw [upN_one] at h; exact ih h.down
theorem Rl.least {x : Nm} (hK : 0 ≤ x.K) (h : Rl x) : Rl x.least ∧ below0N x.least.A x.least.B = below0N x.A x.B := by
  obtain ⟨m, _, hm⟩ := least_raised hK
  have h2 : Rl (Go.Proofs.YtcdmcndjbajhlaaGreatDoor.upN m x.least) := by rw [← hm]; exact h
  have h3 := h2.downN
  refine ⟨h3, ?_⟩
  have := (h3.upN m).2
  rw [← hm] at this
  exact this.symm

theorem no_root' {a b : Int} (h : a * a = 2 * (b * b)) : a = 0 ∧ b = 0 := by
  have h1 := no_root a.natAbs a b (Nat.le_refl _) h
  subst h1
  refine ⟨rfl, ?_⟩
  have h2 := sq_nonneg b
  exact sq_zero (by omega)
theorem below0_neg {a b : Int} (h : ¬ (a = 0 ∧ b = 0)) : below0N (-a) (-b) = !below0N a b := by
  have hn : a * a ≠ 2 * (b * b) := fun hc => h (no_root' hc)
  rw [Bool.eq_iff_iff, Bool.not_eq_true', ← Bool.not_eq_true, below0_iff, below0_iff, Int.neg_mul_neg, Int.neg_mul_neg]
  generalize a * a = p at *
  generalize b * b = q at *
  omega
theorem sq_lt {x y : Int} (hx : 0 ≤ x) (hy : 0 ≤ y) (h : x * x < y * y) : x < y := by
  rcases Int.lt_or_le x y with h1 | h1
  · exact h1
  · have := Int.mul_le_mul h1 h1 hy hx
    omega
/-- Two pairs of integers whose quotient is near the root of 2: 1855077841^2 + 1 = 2 * 1311738121^2, 4478554083^2 - 1 = 2 * 3166815962^2. -/
theorem below0_lin {a b : Int} (hb : -1000000000 ≤ b ∧ b ≤ 1000000000) (h : below0N a b = true) : a * 1311738121 + b * 1855077841 < 0 ∧ a * 3166815962 + b * 4478554083 < 0 := by
  rw [below0_iff] at h
  have hq : b * b ≤ 1000000000000000000 := (prod_bd (M := 1000000000) (N := 1000000000) hb hb).2
  have q0 := sq_nonneg b
  rcases h with ⟨h1, h2, h3⟩ | ⟨h1, h2, h3⟩ | ⟨h1, h2, h3⟩
  · have e1 : b * 1855077841 < -a * 1311738121 := sq_lt (by omega) (by omega) (by
      have e1 : b * 1855077841 * (b * 1855077841) = 3441313796169221281 * (b * b) := by grind
      have e2 : -a * 1311738121 * (-a * 1311738121) = 1720656898084610641 * (a * a) := by grind
      rw [e1, e2]; omega)
    have e2 : b * 4478554083 < -a * 3166815962 := sq_lt (by omega) (by omega) (by
      have e1 : b * 4478554083 * (b * 4478554083) = 20057446674355970889 * (b * b) := by grind
      have e2 : -a * 3166815962 * (-a * 3166815962) = 10028723337177985444 * (a * a) := by grind
      rw [e1, e2]; omega)
    omega
  · have e1 : a * 1311738121 < -b * 1855077841 := sq_lt (by omega) (by omega) (by
      have e1 : -b * 1855077841 * (-b * 1855077841) = 3441313796169221281 * (b * b) := by grind
      have e2 : a * 1311738121 * (a * 1311738121) = 1720656898084610641 * (a * a) := by grind
      rw [e1, e2]; omega)
    have e2 : a * 3166815962 < -b * 4478554083 := sq_lt (by omega) (by omega) (by
      have e1 : -b * 4478554083 * (-b * 4478554083) = 20057446674355970889 * (b * b) := by grind
      have e2 : a * 3166815962 * (a * 3166815962) = 10028723337177985444 * (a * a) := by grind
      rw [e1, e2]; omega)
    omega
  · omega
/-- What is below 0, put together, is below 0. -/
theorem below0_add {a b c d : Int} (hb : -500000000 ≤ b ∧ b ≤ 500000000) (hd : -500000000 ≤ d ∧ d ≤ 500000000) (h : below0N a b = true) (k : below0N c d = true) : below0N (a + c) (b + d) = true := by
  have l1 := below0_lin (by omega) h
  have l2 := below0_lin (by omega) k
  by_cases h0 : a + c = 0 ∧ b + d = 0
  · have e1 := h0.1
    have e2 := h0.2
    omega
  · have h1 := below0_neg h0
    cases hq : below0N (a + c) (b + d) with
    | true => rfl
    | false =>
      rw [hq] at h1
      have l3 := below0_lin (a := -(a + c)) (b := -(b + d)) (by omega) h1
      omega
end Go.Proofs.YtcdmcndjbajhlaaGreatDoor
