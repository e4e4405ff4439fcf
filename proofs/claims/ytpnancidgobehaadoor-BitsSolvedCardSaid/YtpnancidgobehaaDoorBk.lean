
/- Plain maths: the lightest member of a coset, sums of rows by the bits of a number, weights, right rows. -/
import Derived.Test.YtpnancidgobehaaDoorBg
import Derived.Test.YtpnancidgobehaaDoorBh
import Derived.Test.YtpnancidgobehaaDoorVp
import Derived.Test.YtpnancidgobehaaDoorZb
set_option linter.all false
set_option maxRecDepth 100000
namespace Go.Proofs.YtpnancidgobehaaDoor
theorem xorL_tot : ∀ (l : List Nat) (i y s : Nat), xorL (chosenM l i y) s = s ^^^ totF l i y
  | [], i, y, s => by simp [chosenM, xorL, totF]
  | r :: l, i, y, s => by
    unfold chosenM totF
    cases h : y.testBit i
    · simp [xorL_tot l]
    · simp [xorL, xorL_tot l, Nat.xor_assoc]
theorem prod_tot (l : List Nat) (y : Nat) : prodM l y = tot l y := by
  unfold prodM
  rw [xorL_tot, Nat.zero_xor]
theorem popF_up (k n x : Nat) (h : x < 2 ^ k) : popF (k + n) x = popF k x := by
  have := popF_split k n 0 x h
  rw [Nat.mul_zero, Nat.zero_add, popF_zero, Nat.add_zero] at this
  exact this
theorem weight62 {x : Nat} (h : x < 2 ^ 62) : popF 62 x = weightM x := (popF_up 62 2 x h).symm
theorem nats_of (l : List Nat) : nats (casts l) = l := by unfold nats casts; rw [List.map_map]; exact (List.map_congr_left fun x _ => Int.toNat_natCast x).trans (List.map_id l)
theorem fits_right {x n : Nat} (h : x < 2 ^ n) : fitsM (x : Int) n = true := by
  unfold fitsM
  exact decide_eq_true ⟨by omega, by exact_mod_cast h⟩
theorem check_right {l : List Nat} {n : Nat} (h1 : 1 ≤ n) (hn : n ≤ 16) (hll : l.length ≤ 24) (hl : ∀ x ∈ l, x < 2 ^ n) : checkM (casts l) (n : Int) = 0 := by
  unfold checkM
  rw [if_neg (by omega), casts_len, if_neg (by omega), if_pos]
  unfold allM casts
  rw [List.all_map, List.all_eq_true]
  intro x hx
  exact fits_right (hl x hx)
theorem checkWith_right {l : List Nat} {n x : Nat} (h1 : 1 ≤ n) (hn : n ≤ 16) (hll : l.length ≤ 24) (hl : ∀ x ∈ l, x < 2 ^ n) (hx : x < 2 ^ n) : checkedWithM (casts l) (n : Int) (x : Int) = 0 := by
  unfold checkedWithM
  rw [if_pos (check_right h1 hn hll hl), if_pos (fits_right (by simpa using hx))]
theorem lighter_not {x y : Nat} : lighterM x y = false ↔ ¬ (weightM x < weightM y ∨ (weightM x = weightM y ∧ x < y)) := by
  unfold lighterM
  exact decide_eq_false_iff_not
theorem lighter_is {x y : Nat} : lighterM x y = true ↔ (weightM x < weightM y ∨ (weightM x = weightM y ∧ x < y)) := by
  unfold lighterM
  exact decide_eq_true_iff
theorem best_fold (lt : Nat → Nat → Bool) (hirr : ∀ x, lt x x = false) (htr : ∀ x y z, lt x y = true → lt y z = true → lt x z = true) (htr2 : ∀ x y z, lt x y = false → lt y z = false → lt x z = false) (x : Nat) (L : List Nat) : ∀ (b c : Nat), L.foldl (fun b m => if lt (x ^^^ m) b then x ^^^ m else b) b = c → (c = b ∨ ∃ m ∈ L, c = x ^^^ m) ∧ lt b c = false ∧ ∀ m ∈ L, lt (x ^^^ m) c = false := by
  induction L with
  | nil =>
    intro b c h
    rw [List.foldl_nil] at h
    subst h
    exact ⟨.inl rfl, hirr b, fun m h => absurd h (by simp)⟩
  | cons m L ih =>
    intro b c h
    rw [List.foldl_cons] at h
    obtain ⟨h1, h2, h3⟩ := ih _ c h
    cases hl : lt (x ^^^ m) b
    · rw [hl, if_neg (by decide)] at h1 h2
      refine ⟨?_, h2, ?_⟩
      · rcases h1 with h1 | ⟨m', hm, h1⟩
        · exact .inl h1
        · exact .inr ⟨m', by simp [hm], h1⟩
      · intro m' hm
        rcases List.mem_cons.1 hm with rfl | hm
        · exact htr2 _ _ _ hl h2
        · exact h3 m' hm
    · rw [hl, if_pos rfl] at h1 h2
      refine ⟨?_, ?_, ?_⟩
      · rcases h1 with h1 | ⟨m', hm, h1⟩
        · exact .inr ⟨m, by simp, h1⟩
        · exact .inr ⟨m', by simp [hm], h1⟩
      · cases hbc : lt b c
        · rfl
        · rw [htr _ _ _ hl hbc] at h2; cases h2
      · intro m' hm
        rcases List.mem_cons.1 hm with rfl | hm
        · exact h2
        · exact h3 m' hm
/-- The lightest member is in the coset, and none is lighter. -/
theorem coset_spec (R : List Nat) (x c : Nat) (h : cosetR R x = c) : InSp R (x ^^^ c) ∧ ∀ m, InSp R m → lighterM (x ^^^ m) c = false := by
  obtain ⟨h1, h2, h3⟩ := best_fold lighterM lighter_irr (fun x y z h1 h2 => by have := lighter_is.1 h1; have := lighter_is.1 h2; exact lighter_is.2 (by omega)) (fun x y z h1 h2 => by have := lighter_not.1 h1; have := lighter_not.1 h2; exact lighter_not.2 (by omega)) x (membersR R) x c h
  constructor
  · rcases h1 with rfl | ⟨m, hm, rfl⟩
    · rw [Nat.xor_self]; exact .zero
    · rw [xor_cancel]; exact (members_span R m).1 hm
  · intro m hm
    exact h3 m ((members_span R m).2 hm)
theorem lighter_eq {x y : Nat} (h1 : lighterM x y = false) (h2 : lighterM y x = false) : x = y := by
  have := lighter_not.1 h1
  have := lighter_not.1 h2
  omega
theorem weight_zero : weightM 0 = 0 := popF_zero 64
structure Lit (l : List Nat) (n x own c d z : Nat) : Prop where
  lt : c < 2 ^ n
  other : d = c
  none : z = 0
  inn : InSp l (x ^^^ c)
  least : ∀ y, lighterM (x ^^^ tot l y) c = false
theorem light_facts {l : List Nat} {n x k : Nat} (hl : ∀ x ∈ l, x < 2 ^ n) (hn : n ≤ 16) (hll : l.length ≤ 24) (hx : x < 2 ^ n) (R : List Nat) (hR : R = redR l n) :
    Lit l n x (tot l k) (cosetR R x) (cosetR R (x ^^^ tot l k)) (cosetR R (tot l k)) := by
  subst hR
  obtain ⟨h1, h2⟩ := redR_spec hl
  obtain ⟨a1, a2⟩ := coset_spec (redR l n) x _ rfl
  obtain ⟨b1, b2⟩ := coset_spec (redR l n) (x ^^^ tot l k) _ rfl
  obtain ⟨c1, c2⟩ := coset_spec (redR l n) (tot l k) _ rfl
  generalize cosetR (redR l n) x = c at *
  generalize cosetR (redR l n) (x ^^^ tot l k) = d at *
  generalize cosetR (redR l n) (tot l k) = z at *
  have ho : InSp (redR l n) (tot l k) := (h2 _).2 (tot_in l k)
  have hc : c = x ^^^ (x ^^^ c) := (xor_cancel x c).symm
  refine ⟨?_, ?_, ?_, (h2 _).1 a1, fun y => a2 _ ((h2 _).2 (tot_in l y))⟩
  · rw [hc]; exact Nat.xor_lt_two_pow hx (((h2 _).1 a1).lt hl)
  · refine lighter_eq ?_ ?_
    · have := a2 (tot l k ^^^ (x ^^^ tot l k ^^^ d)) (ho.xor b1)
      rwa [← Nat.xor_assoc, xor_cancel] at this
    · have := b2 (tot l k ^^^ (x ^^^ c)) (ho.xor a1)
      rwa [← Nat.xor_assoc, Nat.xor_assoc x, Nat.xor_self, Nat.xor_zero, xor_cancel] at this
  · have := lighter_not.1 (c2 _ ho)
    rw [Nat.xor_self, weight_zero] at this
    omega
end Go.Proofs.YtpnancidgobehaaDoor
