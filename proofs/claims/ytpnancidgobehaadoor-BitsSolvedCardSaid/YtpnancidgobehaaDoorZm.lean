/- Helpers of the walks: what a call leaves, laws of min and max of five integers, parities. -/
import Derived.WalkKit
import Derived.Test.YtpnancidgobehaaDoorProg
import Derived.WalkLawsBesides
import Derived.WalkSpells
import Derived.Lib.Hide
import Derived.Outline
import Derived.BigQuiet
import Derived.Deep.QuietTactic
import Derived.StillTailTactics
set_option linter.all false
set_option maxRecDepth 100000
namespace Go.Proofs.YtpnancidgobehaaDoor
open Go.RowKit

theorem wrap_i64_mod2 (n : Int) : (IntKind.i64.wrap n) % 2 = n % 2 := by
  rw [IntKind.wrap_i64]; omega
theorem bits_and1 (x : Int) : Go.bits .and .i64 x 1 = x % 2 := by
  show IntKind.i64.wrap ((BitVec.ofInt 64 x &&& BitVec.ofInt 64 1).toNat : Int) = _
  have h : BitVec.ofInt 64 (1:Int) = 1#64 := by decide
  rw [h, BitVec.toNat_and]
  have : (1#64).toNat = 1 := by decide
  rw [this, Nat.and_one_is_mod, BitVec.toNat_ofInt, IntKind.wrap_i64]
  omega
theorem bits_xor_par (x y : Int) : (Go.bits .xor .i64 x y) % 2 = (x + y) % 2 := by
  show (IntKind.i64.wrap ((BitVec.ofInt 64 x ^^^ BitVec.ofInt 64 y).toNat : Int)) % 2 = _
  rw [wrap_i64_mod2, BitVec.toNat_xor]
  have h : ∀ a b : Nat, (a ^^^ b) % 2 = (a + b) % 2 := by
    intro a b
    have h1 := Nat.xor_mod_two_pow (a := a) (b := b) (n := 1)
    simp only [Nat.pow_one] at h1
    rw [h1]
    rcases Nat.mod_two_eq_zero_or_one a with ha | ha <;> rcases Nat.mod_two_eq_zero_or_one b with hb | hb <;> rw [ha, hb] <;> simp <;> omega
  have h2 := h (BitVec.ofInt 64 x).toNat (BitVec.ofInt 64 y).toNat
  rw [BitVec.toNat_ofInt, BitVec.toNat_ofInt] at *
  omega

/-- A number. -/
structure Nm where
  A : Int
  B : Int
  C : Int
  D : Int
  K : Int

theorem Nm.ext5 {x y : Nm} (h1 : x.A = y.A) (h2 : x.B = y.B) (h3 : x.C = y.C) (h4 : x.D = y.D) (h5 : x.K = y.K) : x = y := by
  cases x; cases y; simp_all

abbrev nv (A B C D K : Int) : Value := .agg #[.int .i64 A, .int .i64 B, .int .i64 C, .int .i64 D, .int .i64 K]
abbrev Nm.v (x : Nm) : Value := nv x.A x.B x.C x.D x.K

def inb (A B C D m : Int) : Bool := decide (-m ≤ A ∧ A ≤ m ∧ -m ≤ B ∧ B ≤ m ∧ -m ≤ C ∧ C ≤ m ∧ -m ≤ D ∧ D ≤ m)
def Nm.inb (x : Nm) (m : Int) : Bool := YtpnancidgobehaaDoor.inb x.A x.B x.C x.D m
/-- The error of a number, as an integer. -/
def chk (A B C D K : Int) : Int := if K < 0 ∨ 60 < K then 3 else if inb A B C D 1073741824 = true then 0 else 8
def Nm.chk (x : Nm) : Int := YtpnancidgobehaaDoor.chk x.A x.B x.C x.D x.K
theorem chk_ok {A B C D K : Int} (h : chk A B C D K = 0) : 0 ≤ K ∧ K ≤ 60 ∧ -1073741824 ≤ A ∧ A ≤ 1073741824 ∧ -1073741824 ≤ B ∧ B ≤ 1073741824 ∧ -1073741824 ≤ C ∧ C ≤ 1073741824 ∧ -1073741824 ≤ D ∧ D ≤ 1073741824 := by
  unfold chk at h
  split at h
  · omega
  · split at h
    · rename_i h1 h2
      simp only [inb, decide_eq_true_eq] at h2
      omega
    · omega

def Nm.even (x : Nm) : Bool := decide ((x.A + x.C) % 2 = 0 ∧ (x.B + x.D) % 2 = 0)
def Nm.half (x : Nm) : Nm := ⟨x.B / 2 - x.D / 2, x.A / 2 + x.C / 2 + x.A % 2, x.B / 2 + x.D / 2 + x.B % 2, x.C / 2 - x.A / 2, x.K - 1⟩
def Nm.up (x : Nm) : Nm := ⟨x.B - x.D, x.A + x.C, x.B + x.D, x.C - x.A, x.K + 1⟩
def Nm.zero (x : Nm) : Bool := decide (x.A = 0 ∧ x.B = 0 ∧ x.C = 0 ∧ x.D = 0)
abbrev nul : Nm := ⟨0, 0, 0, 0, 0⟩
def form : Nat → Nm → Nm
  | 0, x => x
  | n + 1, x => if x.even = true then form n x.half else x
def Nm.least (x : Nm) : Nm := if x.zero = true then nul else form x.K.toNat x

/-- All coefficients are at most 2^62 and at least its negative. -/
def Nm.wide (x : Nm) : Prop := (-4611686018427387904 ≤ x.A ∧ x.A ≤ 4611686018427387904) ∧ (-4611686018427387904 ≤ x.B ∧ x.B ≤ 4611686018427387904) ∧ (-4611686018427387904 ≤ x.C ∧ x.C ≤ 4611686018427387904) ∧ (-4611686018427387904 ≤ x.D ∧ x.D ≤ 4611686018427387904)
theorem Nm.wide_half {x : Nm} (h : x.wide) (he : x.even = true) : x.half.wide := by
  simp only [Nm.even, decide_eq_true_eq] at he
  unfold Nm.wide Nm.half at *
  dsimp only at *
  omega

theorem Nm.half_up (x : Nm) : x.up.half = x ∧ x.up.even = true := by
  constructor
  · apply Nm.ext5 <;> simp only [Nm.half, Nm.up] <;> omega
  · exact decide_eq_true (by dsimp only [Nm.up]; omega)
theorem Nm.up_half {x : Nm} (h : x.even = true) : x.half.up = x := by
  simp only [Nm.even, decide_eq_true_eq] at h
  apply Nm.ext5 <;> simp only [Nm.half, Nm.up] <;> omega
theorem Nm.zero_up (x : Nm) : x.up.zero = x.zero := by
  simp only [Nm.zero, Nm.up]
  congr 1
  apply propext
  constructor <;> intro h <;> omega

theorem Nm.least_up (x : Nm) (h : 0 ≤ x.K) : x.up.least = x.least := by
  unfold Nm.least
  rw [Nm.zero_up]
  split
  · rfl
  · have hk : x.up.K.toNat = x.K.toNat + 1 := by simp only [Nm.up]; omega
    rw [hk, form, if_pos x.half_up.2, x.half_up.1]

theorem form_K : ∀ (n : Nat) (x : Nm), n ≤ x.K → 0 ≤ (form n x).K ∧ (form n x).K ≤ x.K
  | 0, x, h => by simp only [form]; omega
  | n + 1, x, h => by
    simp only [form]
    split
    · have hk : x.half.K = x.K - 1 := rfl
      have := form_K n x.half (by rw [hk]; omega)
      rw [hk] at this
      omega
    · omega
/-- Halving keeps coefficients within a bound. -/
theorem Nm.half_in {x : Nm} {m : Int} (he : x.even = true) (h : x.inb m = true) : x.half.inb m = true := by
  simp only [Nm.even, decide_eq_true_eq] at he
  simp only [Nm.inb, YtpnancidgobehaaDoor.inb, decide_eq_true_eq] at h
  exact decide_eq_true (by dsimp only [Nm.half]; omega)
theorem form_in {m : Int} : ∀ (n : Nat) (x : Nm), x.inb m = true → (form n x).inb m = true
  | 0, x, h => h
  | n + 1, x, h => by
    simp only [form]
    split
    · rename_i he
      exact form_in n _ (Nm.half_in he h)
    · exact h

/-- The product, multiplied out. -/
def mulN (x y : Nm) : Nm := ⟨x.A * y.A - x.B * y.D - x.C * y.C - x.D * y.B, x.A * y.B + x.B * y.A - x.C * y.D - x.D * y.C, x.A * y.C + x.B * y.B + x.C * y.A - x.D * y.D, x.A * y.D + x.B * y.C + x.C * y.B + x.D * y.A, x.K + y.K⟩
theorem prod_bd {a b M N : Int} (ha : -M ≤ a ∧ a ≤ M) (hb : -N ≤ b ∧ b ≤ N) : -(M * N) ≤ a * b ∧ a * b ≤ M * N := by
  have hM : 0 ≤ M := by omega
  have hN : 0 ≤ N := by omega
  have h1 : a.natAbs ≤ M.natAbs := by omega
  have h2 : b.natAbs ≤ N.natAbs := by omega
  have h3 : (a * b).natAbs ≤ (M * N).natAbs := by rw [Int.natAbs_mul, Int.natAbs_mul]; exact Nat.mul_le_mul h1 h2
  have h4 : 0 ≤ M * N := Int.mul_nonneg hM hN
  omega
/-- All coefficients are at most M and at least its negative. -/
def Nm.le (x : Nm) (M : Int) : Prop := (-M ≤ x.A ∧ x.A ≤ M) ∧ (-M ≤ x.B ∧ x.B ≤ M) ∧ (-M ≤ x.C ∧ x.C ≤ M) ∧ (-M ≤ x.D ∧ x.D ≤ M)
theorem mulN_le {x y : Nm} {M N : Int} (hx : x.le M) (hy : y.le N) : (mulN x y).le (4 * (M * N)) := by
  obtain ⟨a1, a2, a3, a4⟩ := hx
  obtain ⟨b1, b2, b3, b4⟩ := hy
  have := prod_bd a1 b1
  have := prod_bd a1 b2
  have := prod_bd a1 b3
  have := prod_bd a1 b4
  have := prod_bd a2 b1
  have := prod_bd a2 b2
  have := prod_bd a2 b3
  have := prod_bd a2 b4
  have := prod_bd a3 b1
  have := prod_bd a3 b2
  have := prod_bd a3 b3
  have := prod_bd a3 b4
  have := prod_bd a4 b1
  have := prod_bd a4 b2
  have := prod_bd a4 b3
  have := prod_bd a4 b4
  unfold Nm.le mulN
  dsimp only
  omega
def negN (x : Nm) : Nm := ⟨-x.A, -x.B, -x.C, -x.D, x.K⟩
def conjN (x : Nm) : Nm := ⟨x.A, -x.D, -x.C, -x.B, x.K⟩
def dotN (x : Nm) : Nm := if x.K % 2 = 0 then ⟨x.A, -x.B, x.C, -x.D, x.K⟩ else ⟨-x.A, x.B, -x.C, x.D, x.K⟩
def normN (x : Nm) : Nm := mulN x (conjN x)

def upN : Nat → Nm → Nm
  | 0, x => x
  | n + 1, x => upN n x.up
def shlN (j : Nat) (x : Nm) : Nm := ⟨x.A * 2 ^ j, x.B * 2 ^ j, x.C * 2 ^ j, x.D * 2 ^ j, x.K + 2 * j⟩
theorem up_up (x : Nm) : x.up.up = shlN 1 x := by
  apply Nm.ext5 <;> simp only [Nm.up, shlN, Int.pow_one] <;> omega
theorem shlN_shlN (i j : Nat) (x : Nm) : shlN i (shlN j x) = shlN (i + j) x := by
  apply Nm.ext5 <;> simp only [shlN]
  · rw [Int.mul_assoc, ← Int.pow_add, Nat.add_comm]
  · rw [Int.mul_assoc, ← Int.pow_add, Nat.add_comm]
  · rw [Int.mul_assoc, ← Int.pow_add, Nat.add_comm]
  · rw [Int.mul_assoc, ← Int.pow_add, Nat.add_comm]
  · omega
theorem upN_even (j : Nat) (x : Nm) : upN (2 * j) x = shlN j x := by
  induction j generalizing x with
  | zero => apply Nm.ext5 <;> simp [upN, shlN]
  | succ j ih =>
    have e : 2 * (j + 1) = 2 * j + 1 + 1 := by omega
    rw [e, upN, upN, ih, up_up, shlN_shlN]
theorem upN_odd (j : Nat) (x : Nm) : upN (2 * j + 1) x = shlN j x.up := by
  rw [upN, upN_even]
theorem upN_K (n : Nat) (x : Nm) : (upN n x).K = x.K + n := by
  induction n generalizing x with
  | zero => simp [upN]
  | succ n ih => rw [upN, ih]; simp only [Nm.up]; omega
def liftN (x : Nm) (k : Int) : Nm := if k ≤ x.K then x else upN (k - x.K).toNat x
theorem pow2_le {j n : Nat} (h : j ≤ n) : (2 : Int) ^ j ≤ 2 ^ n := by
  have h1 : (2 : Nat) ^ j ≤ 2 ^ n := Nat.pow_le_pow_right (by omega) h
  have h2 : ((2 ^ j : Nat) : Int) ≤ ((2 ^ n : Nat) : Int) := Int.ofNat_le.2 h1
  simpa using h2
theorem pow2_pos (j : Nat) : (0 : Int) < 2 ^ j := by
  have h1 : 0 < (2 : Nat) ^ j := Nat.pow_pos (by omega)
  have h2 : ((0 : Nat) : Int) < ((2 ^ j : Nat) : Int) := Int.ofNat_lt.2 h1
  simpa using h2
theorem mul_pow_bd {a M : Int} {j : Nat} (h : -M ≤ a ∧ a ≤ M) : -(M * 2 ^ j) ≤ a * 2 ^ j ∧ a * 2 ^ j ≤ M * 2 ^ j := by
  have hp := pow2_pos j
  exact prod_bd h ⟨by omega, Int.le_refl _⟩
theorem shlN_le {x : Nm} {M : Int} (j : Nat) (h : x.le M) : (shlN j x).le (M * 2 ^ j) :=
  ⟨mul_pow_bd h.1, mul_pow_bd h.2.1, mul_pow_bd h.2.2.1, mul_pow_bd h.2.2.2⟩
theorem up_le {x : Nm} {M : Int} (h : x.le M) : x.up.le (2 * M) := by
  unfold Nm.le Nm.up at *
  dsimp only at *
  omega
theorem le_mono {x : Nm} {M N : Int} (h : x.le M) (hMN : M ≤ N) : x.le N := by
  unfold Nm.le at *
  omega
/-- A right number, lifted by at most 60, has coefficients up to 2^60. -/
theorem upN_le {x : Nm} (n : Nat) (hn : n ≤ 60) (h : x.le 1073741824) : (upN n x).le 1152921504606846976 := by
  rcases Nat.mod_two_eq_zero_or_one n with e | e
  · have e2 : n = 2 * (n / 2) := by omega
    rw [e2, upN_even]
    refine le_mono (shlN_le _ h) ?_
    have h1 := pow2_le (j := n / 2) (n := 30) (by omega)
    have h2 : (2 : Int) ^ 30 = 1073741824 := by decide
    rw [h2] at h1
    have hp := pow2_pos (n / 2)
    exact (prod_bd (a := 1073741824) (b := 2 ^ (n / 2)) (M := 1073741824) (N := 1073741824) ⟨by omega, by omega⟩ ⟨by omega, h1⟩).2
  · have e2 : n = 2 * (n / 2) + 1 := by omega
    rw [e2, upN_odd]
    refine le_mono (shlN_le _ (up_le h)) ?_
    have h1 := pow2_le (j := n / 2) (n := 29) (by omega)
    have h2 : (2 : Int) ^ 29 = 536870912 := by decide
    rw [h2] at h1
    have hp := pow2_pos (n / 2)
    exact (prod_bd (a := 2 * 1073741824) (b := 2 ^ (n / 2)) (M := 2147483648) (N := 536870912) ⟨by omega, by omega⟩ ⟨by omega, h1⟩).2
theorem liftN_le {x : Nm} {k : Int} (hk : k - x.K ≤ 60) (h : x.le 1073741824) : (liftN x k).le 1152921504606846976 := by
  unfold liftN
  split
  · exact le_mono h (by omega)
  · exact upN_le _ (by omega) h
def addN (x y : Nm) : Nm := ⟨(liftN x (max x.K y.K)).A + (liftN y (max x.K y.K)).A, (liftN x (max x.K y.K)).B + (liftN y (max x.K y.K)).B, (liftN x (max x.K y.K)).C + (liftN y (max x.K y.K)).C, (liftN x (max x.K y.K)).D + (liftN y (max x.K y.K)).D, max x.K y.K⟩

/-- What settle makes of a number whose K is not below 0. -/
def fitN (x : Nm) : Nm := if x.least.chk = 0 then x.least else nul
def fitE (x : Nm) : Int := if x.least.chk = 0 then 0 else 8
theorem le_wide {x : Nm} {M : Int} (h : x.le M) (hM : M ≤ 4611686018427387904) : x.wide := by
  unfold Nm.le Nm.wide at *
  omega

/-- The odd part, and how many halves: at most n. -/
def strip : Nat → Int → Int → Int × Int
  | 0, o, t => (o, t)
  | n + 1, o, t => if o % 2 = 0 then strip n (o / 2) (t + 1) else (o, t)
end Go.Proofs.YtpnancidgobehaaDoor
namespace Go.Proofs.YtpnancidgobehaaDoor
open Go.RowKit

/-- The call returned v; below what was there before nothing has changed. -/
def Gives (v : Value) (w : World) (e : Ending) (w' : World) : Prop := e = .returned v ∧ Below w.heap.size w w'

theorem bcell {W w1 : World} (hb : Below W.heap.size W w1) : (∀ b o, b < W.heap.size → w1.cell? ⟨b, o, none⟩ = W.cell? ⟨b, o, none⟩) ∧ (∀ b o, b < W.heap.size → w1.frozen? ⟨b, o, none⟩ = W.frozen? ⟨b, o, none⟩) :=
  ⟨fun b o h => hb.cell (p := ⟨b, o, none⟩) h, fun b o h => hb.frozen (p := ⟨b, o, none⟩) h⟩
theorem below_via {w W w1 : World} (hb : Below W.heap.size W w1) (hW : Below w.heap.size w W) : Below w.heap.size w w1 := hW.trans (hb.mono hW.size)
theorem below_al {w0 w : World} (h : Below w0.heap.size w0 w) (o : Obj) : Below w0.heap.size w0 (w.alloc o) := h.alloc h.size o
theorem below_dN {B : Nat} {w0 w : World} (h : Below B w0 w) (n : Nat) : Below B w0 (w.drewN n) := ⟨h.os, h.tape, h.output, h.size, h.block⟩

/-- The function numbered f is one with a body: its call enters it. -/
def Enters (f : FuncId) : Prop := ∀ (args : Array Value) (w : World), (callFunc f args).run Tryd.prog w = .ok (.enter f args) w
theorem enters_of {f : FuncId} (h : ((Tryd.prog.funcs[f]?).map fun fn => (fn.name == "runtime.NumGoroutine", fn.body.isNone)) = some (false, false)) : Enters f := by
  intro args w
  cases hq : Tryd.prog.funcs[f]? with
  | none => simp [hq] at h
  | some fn =>
    simp only [hq, Option.map_some, Option.some.injEq, Prod.mk.injEq] at h
    obtain ⟨h1, h2⟩ := h
    have h3 : (program.run Tryd.prog w) = .ok Tryd.prog w := rfl
    have h1' : ¬ fn.name = "runtime.NumGoroutine" := by simpa using h1
    have h2' : ¬ fn.body = none := by intro hn; rw [hn] at h2; simp at h2
    simp [callFunc, Sem.run_bind, h3, hq, h1', h2']
def eq4 (a0 a1 a2 a3 b0 b1 b2 b3 : Int) : Bool := decide (a0 = b0 ∧ a1 = b1 ∧ a2 = b2 ∧ a3 = b3)
theorem run_equalIn_arr4 {P : Program} (w : World) (d : Nat) {t e : TypeId} (ht : P.underlying t = some (.array 4 e)) (he : P.underlying e = some (.int .i64)) (hi : (P.info? e).map (·.size) = some 1) (a0 a1 a2 a3 b0 b1 b2 b3 : Int) :
    (Op.equalIn (d + 2) t (.agg #[.int .i64 a0, .int .i64 a1, .int .i64 a2, .int .i64 a3]) (.agg #[.int .i64 b0, .int .i64 b1, .int .i64 b2, .int .i64 b3])).run P w = .ok (eq4 a0 a1 a2 a3 b0 b1 b2 b3) w := by
  cases hq : P.info? e with
  | none => simp [hq] at hi
  | some i =>
    have hs : i.size = 1 := by simpa [hq] using hi
    have hagg : ∀ w, (isAgg e).run P w = .ok false w := by
      intro w; unfold isAgg
      rw [Sem.run_bind, run_underlying he w]
      simp
    have hsz : ∀ w, (sizeOf e).run P w = .ok 1 w := by intro w; simp [sizeOf, typeInfo, hq, hs]
    have hp : ∀ (cs : Array Value) (o : Nat) (v : Value) w, cs[o]? = some v → (part e cs o).run P w = .ok v w := by
      intro cs o v w h
      simp [part, hagg, h]
    have hint : ∀ (x y : Int) w, (Op.equalIn (d + 1) e (.int .i64 x) (.int .i64 y)).run P w = .ok (x == y) w := by
      intro x y w
      simp [Op.equalIn, run_underlying he]
    rw [Op.equalIn]
    simp only [Sem.run_bind, run_underlying ht, Result.andThen_ok]
    simp [hsz, Std.Legacy.Range.forIn_eq_forIn_range', Std.Legacy.Range.size, List.range', hp, hint, eq4]
    by_cases h0 : a0 = b0 <;> by_cases h1 : a1 = b1 <;> by_cases h2 : a2 = b2 <;> by_cases h3 : a3 = b3 <;> simp [h0, h1, h2, h3]
def min2i (x y : Int) : Int := if y < x then y else x
def max2i (x y : Int) : Int := if x < y then y else x
def lo5 (a b c d e : Int) : Int := min2i (min2i (min2i (min2i a b) c) d) e
def hi5 (a b c d e : Int) : Int := max2i (max2i (max2i (max2i a b) c) d) e
theorem run_min_int5 {P : Program} {w : World} (ts : Array TypeId) (t : TypeId) (k k1 k2 k3 k4 : IntKind) (x y z u v : Int) : (Builtin.min_ ts t #[.int k x, .int k1 y, .int k2 z, .int k3 u, .int k4 v]).run P w = .ok (.int k (lo5 x y z u v)) w := by
  simp [Builtin.min_, Builtin.min2]; rfl
theorem run_max_int5 {P : Program} {w : World} (ts : Array TypeId) (t : TypeId) (k k1 k2 k3 k4 : IntKind) (x y z u v : Int) : (Builtin.max_ ts t #[.int k x, .int k1 y, .int k2 z, .int k3 u, .int k4 v]).run P w = .ok (.int k (hi5 x y z u v)) w := by
  simp [Builtin.max_, Builtin.max2]; rfl
theorem lo5_eq (A B C D m : Int) : lo5 (-m) A B C D = -m ↔ -m ≤ A ∧ -m ≤ B ∧ -m ≤ C ∧ -m ≤ D := by
  unfold lo5 min2i
  constructor
  · intro h; (repeat' split at h) <;> omega
  · intro h; (repeat' split) <;> omega
theorem hi5_eq (A B C D m : Int) : hi5 m A B C D = m ↔ A ≤ m ∧ B ≤ m ∧ C ≤ m ∧ D ≤ m := by
  unfold hi5 max2i
  constructor
  · intro h; (repeat' split at h) <;> omega
  · intro h; (repeat' split) <;> omega

/-- Block b holds the five cells of a number. -/
def Box (w : World) (b T : Nat) (x : Nm) : Prop := w.heap[b]? = some (.cells #[.int .i64 x.A, .int .i64 x.B, .int .i64 x.C, .int .i64 x.D, .int .i64 x.K] T (0, 0))
/-- Only block b may have changed. -/
structure Only (b : Nat) (w w' : World) : Prop where
  os : w'.os = w.os
  tape : w'.tape = w.tape
  output : w'.output = w.output
  size : w'.heap.size = w.heap.size
  block : ∀ k, k ≠ b → w'.heap[k]? = w.heap[k]?
theorem Only.refl (b : Nat) (w : World) : Only b w w := ⟨rfl, rfl, rfl, rfl, fun _ _ => rfl⟩
theorem Only.trans {b : Nat} {w w1 w2 : World} (h : Only b w w1) (k : Only b w1 w2) : Only b w w2 :=
  ⟨k.os.trans h.os, k.tape.trans h.tape, k.output.trans h.output, k.size.trans h.size, fun i hi => (k.block i hi).trans (h.block i hi)⟩
theorem Only.dN {b : Nat} {w w1 : World} (h : Only b w w1) (n : Nat) : Only b w (w1.drewN n) := ⟨h.os, h.tape, h.output, h.size, h.block⟩
theorem Only.drew {b : Nat} {w w1 : World} (h : Only b w w1) : Only b w w1.drew := ⟨h.os, h.tape, h.output, h.size, h.block⟩
theorem Only.set {b : Nat} {w w1 : World} (h : Only b w w1) (o : Nat) (v : Value) : Only b w (w1.setCell ⟨b, o, none⟩ v) :=
  ⟨h.os, h.tape, h.output, by rw [← h.size]; simp [World.setCell], fun k hk => by rw [Below.heap_setCell _ _ _ _ hk]; exact h.block k hk⟩
theorem Only.below {b B : Nat} {w w' : World} (h : Only b w w') (hb : B ≤ b) : Below B w w' :=
  ⟨h.os, h.tape, h.output, by rw [h.size]; exact Nat.le_refl _, fun k hk => h.block k (by omega)⟩
theorem heap_set {w : World} {b o : Nat} {cs : Array Value} {T : TypeId} {v : Value} (h : w.heap[b]? = some (.cells cs T (0, 0))) :
    (w.setCell ⟨b, o, none⟩ v).heap[b]? = some (.cells (cs.setIfInBounds o v) T (0, 0)) := by
  have hlt : b < w.heap.size := by
    rcases Nat.lt_or_ge b w.heap.size with h' | h'
    · exact h'
    · simp [Array.getElem?_eq_none h'] at h
  have h' : w.heap[b] = .cells cs T (0, 0) := by simpa [Array.getElem?_eq_getElem hlt] using h
  show (w.heap.modify b _)[b]? = _
  rw [Array.getElem?_eq_getElem (by simpa using hlt), Array.getElem_modify_self, h']
  rfl
theorem Box.cell {w : World} {b T : Nat} {x : Nm} (h : Box w b T x) :
    w.cell? ⟨b, 0, none⟩ = some (.int .i64 x.A) ∧ w.cell? ⟨b, 1, none⟩ = some (.int .i64 x.B) ∧ w.cell? ⟨b, 2, none⟩ = some (.int .i64 x.C) ∧ w.cell? ⟨b, 3, none⟩ = some (.int .i64 x.D) ∧ w.cell? ⟨b, 4, none⟩ = some (.int .i64 x.K) := by
  unfold Box at h
  simp [World.cell?, h]
theorem Box.free {w : World} {b T : Nat} {x : Nm} (h : Box w b T x) :
    w.frozen? ⟨b, 0, none⟩ = false ∧ w.frozen? ⟨b, 1, none⟩ = false ∧ w.frozen? ⟨b, 2, none⟩ = false ∧ w.frozen? ⟨b, 3, none⟩ = false ∧ w.frozen? ⟨b, 4, none⟩ = false := by
  unfold Box at h
  simp [World.frozen?, h]
theorem Box.lt {w : World} {b T : Nat} {x : Nm} (h : Box w b T x) : b < w.heap.size := by
  rcases Nat.lt_or_ge b w.heap.size with h' | h'
  · exact h'
  · simp [Box, Array.getElem?_eq_none h'] at h
theorem Box.only {w w' : World} {b c T : Nat} {x : Nm} (h : Box w b T x) (ho : Only c w w') (hn : b ≠ c) : Box w' b T x := by
  unfold Box; rw [ho.block b hn]; exact h
theorem Box.below {w w' : World} {b B T : Nat} {x : Nm} (h : Box w b T x) (ho : Below B w w') (hn : b < B) : Box w' b T x := by
  unfold Box; rw [ho.block b hn]; exact h
theorem Box.dN {w : World} {b T : Nat} {x : Nm} (h : Box w b T x) (n : Nat) : Box (w.drewN n) b T x := h
theorem Box.drew {w : World} {b T : Nat} {x : Nm} (h : Box w b T x) : Box w.drew b T x := h
theorem wr_sub (x y : Int) : wrap64 (wrap64 x - wrap64 y) = wrap64 (x - y) := by unfold wrap64; omega
theorem wr_add (x y : Int) : wrap64 (wrap64 x + wrap64 y) = wrap64 (x + y) := by unfold wrap64; omega
theorem wr_in {n : Int} (h : -9223372036854775808 ≤ n ∧ n ≤ 9223372036854775807) : wrap64 n = n := by unfold wrap64; omega
end Go.Proofs.YtpnancidgobehaaDoor
