
/- Rows of bits: how many bits of a number are 1, by the masks of the library. -/
import Derived.Test.YtpnancidgobehaaDoorZm
set_option linter.all false
set_option maxRecDepth 100000
namespace Go.Proofs.YtpnancidgobehaaDoor

/-- How many of the n lowest bits are 1. -/
def popF : Nat → Nat → Nat
  | 0, _ => 0
  | n + 1, x => x % 2 + popF n (x / 2)
theorem popF_succ (n x : Nat) : popF (n + 1) x = x % 2 + popF n (x / 2) := rfl
def rep (m : Nat) : Nat → Nat
  | 0 => 0
  | n + 1 => 256 * rep m n + m
theorem mask_split {h l M m s : Nat} (hl : l < 256) (hs : s ≤ 8) (hm : m < 2 ^ (8 - s)) : ((256 * h + l) >>> s) &&& (256 * M + m) = 256 * ((h >>> s) &&& M) + ((l >>> s) &&& m) := by
  have hm8 : m < 2 ^ 8 := Nat.lt_of_lt_of_le hm (Nat.pow_le_pow_right (by omega) (by omega))
  have hl8 : l < 2 ^ 8 := by omega
  have hr8 : (l >>> s) &&& m < 2 ^ 8 := Nat.and_lt_two_pow _ hm8
  apply Nat.eq_of_testBit_eq
  intro i
  rw [show (256 : Nat) = 2 ^ 8 from rfl]
  rw [Nat.testBit_and, Nat.testBit_shiftRight, Nat.testBit_two_pow_mul_add _ hl8, Nat.testBit_two_pow_mul_add _ hm8, Nat.testBit_two_pow_mul_add _ hr8]
  by_cases hi : i < 8
  · rw [if_pos hi, if_pos hi, Nat.testBit_and, Nat.testBit_shiftRight]
    by_cases hsi : s + i < 8
    · rw [if_pos hsi]
    · rw [if_neg hsi]
      have hmi : m.testBit i = false := Nat.testBit_lt_two_pow (Nat.lt_of_lt_of_le hm (Nat.pow_le_pow_right (by omega) (by omega)))
      rw [hmi, Bool.and_false, Bool.and_false]
  · rw [if_neg hi, if_neg hi, if_neg (by omega), Nat.testBit_and, Nat.testBit_shiftRight, show s + i - 8 = s + (i - 8) by omega]
theorem mask_split0 {h l M m : Nat} (hl : l < 256) (hm : m < 256) : (256 * h + l) &&& (256 * M + m) = 256 * (h &&& M) + (l &&& m) := by
  have := mask_split (h := h) (l := l) (M := M) (m := m) (s := 0) hl (by omega) (by simpa using hm)
  simpa using this
theorem rep_succ (m n : Nat) : rep m (n + 1) = 256 * rep m n + m := rfl
def st1 (n x : Nat) : Nat := ((x >>> 1) &&& rep 85 n) + (x &&& rep 85 n)
def st2 (n x : Nat) : Nat := ((x >>> 2) &&& rep 51 n) + (x &&& rep 51 n)
def st3 (n x : Nat) : Nat := ((x >>> 4) + x) &&& rep 15 n
def by1 (l : Nat) : Nat := ((l >>> 1) &&& 85) + (l &&& 85)
def by2 (l : Nat) : Nat := ((l >>> 2) &&& 51) + (l &&& 51)
theorem st1_next {h l n : Nat} (hl : l < 256) : st1 (n + 1) (256 * h + l) = 256 * st1 n h + by1 l := by
  unfold st1 by1
  rw [rep_succ, mask_split hl (by omega) (by decide), mask_split0 hl (by decide)]
  omega
theorem st2_next {h l n : Nat} (hl : l < 256) : st2 (n + 1) (256 * h + l) = 256 * st2 n h + by2 l := by
  unfold st2 by2
  rw [rep_succ, mask_split hl (by omega) (by decide), mask_split0 hl (by decide)]
  omega
theorem by_all : ∀ l : Fin 256, by1 l.1 < 256 ∧ by2 (by1 l.1) % 16 ≤ 4 ∧ by2 (by1 l.1) / 16 ≤ 4 ∧ by2 (by1 l.1) / 16 + by2 (by1 l.1) % 16 = popF 8 l.1 := by decide +kernel
theorem st3_next {h l n : Nat} (hl0 : l % 16 ≤ 4) (hl1 : l / 16 ≤ 4) (hh : h % 16 ≤ 4) : st3 (n + 1) (256 * h + l) = 256 * st3 n h + (l / 16 + l % 16) := by
  have e : ((256 * h + l) >>> 4) + (256 * h + l) = 256 * ((h >>> 4) + h) + (16 * (h % 16 + l / 16) + (l / 16 + l % 16)) := by
    rw [Nat.shiftRight_eq_div_pow, Nat.shiftRight_eq_div_pow]
    omega
  unfold st3
  rw [rep_succ, e, mask_split0 (by omega) (by decide)]
  have : (16 * (h % 16 + l / 16) + (l / 16 + l % 16)) &&& 15 = (16 * (h % 16 + l / 16) + (l / 16 + l % 16)) % 16 := Nat.and_two_pow_sub_one_eq_mod _ 4
  rw [this]
  omega
def digs : Nat → Nat → Nat
  | 0, _ => 0
  | n + 1, x => 256 * digs n (x / 256) + popF 8 (x % 256)
theorem st_all : ∀ (n x : Nat), x < 256 ^ n → st2 n (st1 n x) % 16 ≤ 4 ∧ st3 n (st2 n (st1 n x)) = digs n x
  | 0, x, h => by
    have : x = 0 := by simpa using h
    subst this
    decide
  | n + 1, x, h => by
    have hx : x = 256 * (x / 256) + x % 256 := by omega
    have hlt : x / 256 < 256 ^ n := by
      rw [Nat.pow_succ] at h
      exact Nat.div_lt_of_lt_mul (by rwa [Nat.mul_comm])
    obtain ⟨h1, h2⟩ := st_all n (x / 256) hlt
    obtain ⟨b1, b2, b3, b4⟩ := by_all ⟨x % 256, Nat.mod_lt _ (by decide)⟩
    dsimp only at b1 b2 b3 b4
    rw [hx, st1_next (Nat.mod_lt _ (by decide)), st2_next b1]
    refine ⟨by omega, ?_⟩
    rw [st3_next b2 b3 h1, h2, b4, ← hx]
    rfl
theorem popF_split : ∀ (k n h l : Nat), l < 2 ^ k → popF (k + n) (2 ^ k * h + l) = popF k l + popF n h
  | 0, n, h, l, hl => by
    have : l = 0 := by simpa using hl
    subst this
    simp [popF]
  | k + 1, n, h, l, hl => by
    have e : k + 1 + n = (k + n) + 1 := by omega
    have h1 : (2 ^ (k + 1) * h + l) % 2 = l % 2 := by
      rw [Nat.pow_succ, Nat.mul_comm (2 ^ k) 2, Nat.mul_assoc]
      omega
    have h2 : (2 ^ (k + 1) * h + l) / 2 = 2 ^ k * h + l / 2 := by
      rw [Nat.pow_succ, Nat.mul_comm (2 ^ k) 2, Nat.mul_assoc]
      omega
    have hl2 : l / 2 < 2 ^ k := by rw [Nat.pow_succ] at hl; omega
    rw [e, popF_succ, popF_succ, h1, h2, popF_split k n h (l / 2) hl2]
    omega
theorem popF_zero (k : Nat) : popF k 0 = 0 := by
  induction k with
  | zero => rfl
  | succ k ih => rw [popF_succ, Nat.zero_mod, Nat.zero_div, ih]
theorem popF_le : ∀ (n x : Nat), popF n x ≤ n
  | 0, _ => by simp [popF]
  | n + 1, x => by
    unfold popF
    have := popF_le n (x / 2)
    omega
theorem byte_split (n x : Nat) : popF (8 + n) x = popF 8 (x % 256) + popF n (x / 256) := by
  have := popF_split 8 n (x / 256) (x % 256) (Nat.mod_lt _ (by decide))
  rw [← this]
  congr 1
  show x = 256 * (x / 256) + x % 256
  omega
/-- The library's count, from the third step on. -/
def tail64 (s : Nat) : Nat :=
  let a := s + s / 256
  let b := a + a / 65536
  let c := b + b / 4294967296
  c % 128
theorem tail_sum (p0 p1 p2 p3 p4 p5 p6 p7 : Nat) (l0 : p0 ≤ 8) (l1 : p1 ≤ 8) (l2 : p2 ≤ 8) (l3 : p3 ≤ 8) (l4 : p4 ≤ 8) (l5 : p5 ≤ 8) (l6 : p6 ≤ 8) (l7 : p7 ≤ 8) :
    tail64 (256 * (256 * (256 * (256 * (256 * (256 * (256 * p7 + p6) + p5) + p4) + p3) + p2) + p1) + p0) = p0 + (p1 + (p2 + (p3 + (p4 + (p5 + (p6 + p7)))))) := by
  obtain ⟨r6, h6⟩ : ∃ r, r = 256 * p7 + p6 := ⟨_, rfl⟩
  obtain ⟨r5, h5⟩ : ∃ r, r = 256 * r6 + p5 := ⟨_, rfl⟩
  obtain ⟨r4, h4⟩ : ∃ r, r = 256 * r5 + p4 := ⟨_, rfl⟩
  obtain ⟨r3, h3⟩ : ∃ r, r = 256 * r4 + p3 := ⟨_, rfl⟩
  obtain ⟨r2, h2⟩ : ∃ r, r = 256 * r3 + p2 := ⟨_, rfl⟩
  obtain ⟨r1, h1⟩ : ∃ r, r = 256 * r2 + p1 := ⟨_, rfl⟩
  unfold tail64
  rw [← h6, ← h5, ← h4, ← h3, ← h2, ← h1]
  dsimp only
  have d1 : (256 * r1 + p0) / 256 = r1 := by omega
  rw [d1]
  have e1 : 256 * r1 + p0 + r1 = 65536 * (r2 + r3) + (256 * (p1 + p2) + (p0 + p1)) := by omega
  have d2 : (256 * r1 + p0 + r1) / 65536 = r2 + r3 := by rw [e1]; omega
  rw [d2, e1]
  have e2 : 65536 * (r2 + r3) + (256 * (p1 + p2) + (p0 + p1)) + (r2 + r3) = 4294967296 * (r4 + r5) + 65536 * (r4 + r5) + 65536 * (256 * (p3 + p4) + (p2 + p3)) + 256 * (p3 + p4) + (p2 + p3) + (256 * (p1 + p2) + (p0 + p1)) := by omega
  have e3 : r4 + r5 = 65536 * (r6 + p7) + (256 * (p5 + p6) + (p4 + p5)) := by omega
  have d3 : (65536 * (r2 + r3) + (256 * (p1 + p2) + (p0 + p1)) + (r2 + r3)) / 4294967296 = r4 + r5 + (r6 + p7) := by
    rw [e2]
    omega
  rw [d3, e2]
  clear e1 e2 d1 d2 d3 h1 h2 h3
  omega
theorem tail_digs (x : Nat) : tail64 (digs 8 x) = popF 64 x := by
  have e : popF 64 x = popF 8 (x % 256) + (popF 8 (x / 256 % 256) + (popF 8 (x / 256 / 256 % 256) + (popF 8 (x / 256 / 256 / 256 % 256) + (popF 8 (x / 256 / 256 / 256 / 256 % 256) + (popF 8 (x / 256 / 256 / 256 / 256 / 256 % 256) + (popF 8 (x / 256 / 256 / 256 / 256 / 256 / 256 % 256) + (popF 8 (x / 256 / 256 / 256 / 256 / 256 / 256 / 256 % 256) + popF 0 (x / 256 / 256 / 256 / 256 / 256 / 256 / 256 / 256)))))))) := by
    rw [← byte_split 0, ← byte_split 8, ← byte_split 16, ← byte_split 24, ← byte_split 32, ← byte_split 40, ← byte_split 48, ← byte_split 56]
  rw [e]
  have := tail_sum _ _ _ _ _ _ _ _ (popF_le 8 (x % 256)) (popF_le 8 (x / 256 % 256)) (popF_le 8 (x / 256 / 256 % 256)) (popF_le 8 (x / 256 / 256 / 256 % 256)) (popF_le 8 (x / 256 / 256 / 256 / 256 % 256)) (popF_le 8 (x / 256 / 256 / 256 / 256 / 256 % 256)) (popF_le 8 (x / 256 / 256 / 256 / 256 / 256 / 256 % 256)) (popF_le 8 (x / 256 / 256 / 256 / 256 / 256 / 256 / 256 % 256))
  simpa [digs, popF] using this
theorem digs_le : ∀ (n x : Nat), digs n x ≤ 8 * rep 1 n
  | 0, x => by simp [digs, rep]
  | n + 1, x => by
    unfold digs rep
    have := digs_le n (x / 256)
    have := popF_le 8 (x % 256)
    omega
theorem pop64 {x : Nat} (hx : x < 18446744073709551616) : tail64 (st3 8 (st2 8 (st1 8 x))) = popF 64 x := by
  rw [(st_all 8 x (by rw [show (256 : Nat) ^ 8 = 18446744073709551616 from by decide]; exact hx)).2, tail_digs]
end Go.Proofs.YtpnancidgobehaaDoor
