
/- Helpers of the walks: what a call leaves, laws of min and max of five integers, parities. -/
import Derived.Test.YtjalpolciofphaaDoorProg
import Derived.Test.YtjalpolciofphaaDoorMath
import Derived.WalkLawsBesides
import Derived.WalkSpells
import Derived.Lib.Hide
import Derived.Outline
import Derived.BigQuiet
import Derived.Deep.QuietTactic
import Derived.StillTailTactics
set_option linter.all false
namespace Go.Proofs.YtjalpolciofphaaDoor
open Go.RowKit

/-- The call returned v; below what was there before nothing has changed. -/
def Gives (v : Value) (w : World) (e : Ending) (w' : World) : Prop := e = .returned v ∧ Below w.heap.size w w'

theorem bcell {W w1 : World} (hb : Below W.heap.size W w1) : (∀ b o, b < W.heap.size → w1.cell? ⟨b, o, none⟩ = W.cell? ⟨b, o, none⟩) ∧ (∀ b o, b < W.heap.size → w1.frozen? ⟨b, o, none⟩ = W.frozen? ⟨b, o, none⟩) :=
  ⟨fun b o h => hb.cell (p := ⟨b, o, none⟩) h, fun b o h => hb.frozen (p := ⟨b, o, none⟩) h⟩
theorem below_via {w W w1 : World} (hb : Below W.heap.size W w1) (hW : Below w.heap.size w W) : Below w.heap.size w w1 := hW.trans (hb.mono hW.size)
theorem below_al {w0 w : World} (h : Below w0.heap.size w0 w) (o : Obj) : Below w0.heap.size w0 (w.alloc o) := h.alloc h.size o
theorem below_dN {B : Nat} {w0 w : World} (h : Below B w0 w) (n : Nat) : Below B w0 (w.drewN n) := ⟨h.os, h.tape, h.output, h.size, h.block⟩

/-- The function numbered f is one with a body: its call enters it. -/
def Enters (f : FuncId) : Prop := ∀ (args : Array Value) (w : World), (callFunc f args).run Tryd.prog w = .ok (.enter f args) w
theorem enters_of {f : FuncId} (h : ((Tryd.prog.funcs[f]?).map fun fn => (fn.name == "runtime.NumGoroutine", fn.body.isNone)) = some (false, false)) : Enters f := by
  intro args w
  cases hq : Tryd.prog.funcs[f]? with
  | none => simp [hq] at h
  | some fn =>
    simp only [hq, Option.map_some, Option.some.injEq, Prod.mk.injEq] at h
    obtain ⟨h1, h2⟩ := h
    have h3 : (program.run Tryd.prog w) = .ok Tryd.prog w := rfl
    have h1' : ¬ fn.name = "runtime.NumGoroutine" := by simpa using h1
    have h2' : ¬ fn.body = none := by intro hn; rw [hn] at h2; simp at h2
    simp [callFunc, Sem.run_bind, h3, hq, h1', h2']
def eq4 (a0 a1 a2 a3 b0 b1 b2 b3 : Int) : Bool := decide (a0 = b0 ∧ a1 = b1 ∧ a2 = b2 ∧ a3 = b3)
theorem run_equalIn_arr4 {P : Program} (w : World) (d : Nat) {t e : TypeId} (ht : P.underlying t = some (.array 4 e)) (he : P.underlying e = some (.int .i64)) (hi : (P.info? e).map (·.size) = some 1) (a0 a1 a2 a3 b0 b1 b2 b3 : Int) :
    (Op.equalIn (d + 2) t (.agg #[.int .i64 a0, .int .i64 a1, .int .i64 a2, .int .i64 a3]) (.agg #[.int .i64 b0, .int .i64 b1, .int .i64 b2, .int .i64 b3])).run P w = .ok (eq4 a0 a1 a2 a3 b0 b1 b2 b3) w := by
  cases hq : P.info? e with
  | none => simp [hq] at hi
  | some i =>
    have hs : i.size = 1 := by simpa [hq] using hi
    have hagg : ∀ w, (isAgg e).run P w = .ok false w := by
      intro w; unfold isAgg
      rw [Sem.run_bind, run_underlying he w]
      simp
    have hsz : ∀ w, (sizeOf e).run P w = .ok 1 w := by intro w; simp [sizeOf, typeInfo, hq, hs]
    have hp : ∀ (cs : Array Value) (o : Nat) (v : Value) w, cs[o]? = some v → (part e cs o).run P w = .ok v w := by
      intro cs o v w h
      simp [part, hagg, h]
    have hint : ∀ (x y : Int) w, (Op.equalIn (d + 1) e (.int .i64 x) (.int .i64 y)).run P w = .ok (x == y) w := by
      intro x y w
      simp [Op.equalIn, run_underlying he]
    rw [Op.equalIn]
    simp only [Sem.run_bind, run_underlying ht, Result.andThen_ok]
    simp [hsz, Std.Legacy.Range.forIn_eq_forIn_range', Std.Legacy.Range.size, List.range', hp, hint, eq4]
    by_cases h0 : a0 = b0 <;> by_cases h1 : a1 = b1 <;> by_cases h2 : a2 = b2 <;> by_cases h3 : a3 = b3 <;> simp [h0, h1, h2, h3]
/-- Two arrays of four integers are compared number by number. -/
theorem run_eql_arr4 (w : World) (a0 a1 a2 a3 b0 b1 b2 b3 : Int) :
    (Op.equalIn 10000 60 (.agg #[.int .i64 a0, .int .i64 a1, .int .i64 a2, .int .i64 a3]) (.agg #[.int .i64 b0, .int .i64 b1, .int .i64 b2, .int .i64 b3])).run Tryd.prog w = .ok (eq4 a0 a1 a2 a3 b0 b1 b2 b3) w :=
  run_equalIn_arr4 w 9998 (e := 3) (by kernel_rfl) (by kernel_rfl) (by kernel_rfl) _ _ _ _ _ _ _ _

/-- The number inside a number at work. -/
theorem run_field_num (w : World) (A B C D K : Int) :
    (Instr.field 51 (.agg #[.int .i64 A, .int .i64 B, .int .i64 C, .int .i64 D, .int .i64 K]) 0).run Tryd.prog w = .ok (.agg #[.int .i64 A, .int .i64 B, .int .i64 C, .int .i64 D, .int .i64 K]) w := by
  kernel_rfl

def min2i (x y : Int) : Int := if y < x then y else x
def max2i (x y : Int) : Int := if x < y then y else x
def lo5 (a b c d e : Int) : Int := min2i (min2i (min2i (min2i a b) c) d) e
def hi5 (a b c d e : Int) : Int := max2i (max2i (max2i (max2i a b) c) d) e
theorem run_min_int5 {P : Program} {w : World} (ts : Array TypeId) (t : TypeId) (k k1 k2 k3 k4 : IntKind) (x y z u v : Int) : (Builtin.min_ ts t #[.int k x, .int k1 y, .int k2 z, .int k3 u, .int k4 v]).run P w = .ok (.int k (lo5 x y z u v)) w := by
  simp [Builtin.min_, Builtin.min2]; rfl
theorem run_max_int5 {P : Program} {w : World} (ts : Array TypeId) (t : TypeId) (k k1 k2 k3 k4 : IntKind) (x y z u v : Int) : (Builtin.max_ ts t #[.int k x, .int k1 y, .int k2 z, .int k3 u, .int k4 v]).run P w = .ok (.int k (hi5 x y z u v)) w := by
  simp [Builtin.max_, Builtin.max2]; rfl
theorem lo5_eq (A B C D m : Int) : lo5 (-m) A B C D = -m ↔ -m ≤ A ∧ -m ≤ B ∧ -m ≤ C ∧ -m ≤ D := by
  unfold lo5 min2i
  constructor
  · intro h; (repeat' split at h) <;> omega
  · intro h; (repeat' split) <;> omega
theorem hi5_eq (A B C D m : Int) : hi5 m A B C D = m ↔ A ≤ m ∧ B ≤ m ∧ C ≤ m ∧ D ≤ m := by
  unfold hi5 max2i
  constructor
  · intro h; (repeat' split at h) <;> omega
  · intro h; (repeat' split) <;> omega

/-- Block b holds the five cells of a number. -/
def Box (w : World) (b T : Nat) (x : Nm) : Prop := w.heap[b]? = some (.cells #[.int .i64 x.A, .int .i64 x.B, .int .i64 x.C, .int .i64 x.D, .int .i64 x.K] T (0, 0))
/-- Only block b may have changed. -/
structure Only (b : Nat) (w w' : World) : Prop where
  os : w'.os = w.os
  tape : w'.tape = w.tape
  output : w'.output = w.output
  size : w'.heap.size = w.heap.size
  block : ∀ k, k ≠ b → w'.heap[k]? = w.heap[k]?
theorem Only.refl (b : Nat) (w : World) : Only b w w := ⟨rfl, rfl, rfl, rfl, fun _ _ => rfl⟩
theorem Only.trans {b : Nat} {w w1 w2 : World} (h : Only b w w1) (k : Only b w1 w2) : Only b w w2 :=
  ⟨k.os.trans h.os, k.tape.trans h.tape, k.output.trans h.output, k.size.trans h.size, fun i hi => (k.block i hi).trans (h.block i hi)⟩
theorem Only.dN {b : Nat} {w w1 : World} (h : Only b w w1) (n : Nat) : Only b w (w1.drewN n) := ⟨h.os, h.tape, h.output, h.size, h.block⟩
theorem Only.drew {b : Nat} {w w1 : World} (h : Only b w w1) : Only b w w1.drew := ⟨h.os, h.tape, h.output, h.size, h.block⟩
theorem Only.set {b : Nat} {w w1 : World} (h : Only b w w1) (o : Nat) (v : Value) : Only b w (w1.setCell ⟨b, o, none⟩ v) :=
  ⟨h.os, h.tape, h.output, by rw [← h.size]; simp [World.setCell], fun k hk => by rw [Below.heap_setCell _ _ _ _ hk]; exact h.block k hk⟩
theorem Only.below {b B : Nat} {w w' : World} (h : Only b w w') (hb : B ≤ b) : Below B w w' :=
  ⟨h.os, h.tape, h.output, by rw [h.size]; exact Nat.le_refl _, fun k hk => h.block k (by omega)⟩
theorem heap_set {w : World} {b o : Nat} {cs : Array Value} {T : TypeId} {v : Value} (h : w.heap[b]? = some (.cells cs T (0, 0))) :
    (w.setCell ⟨b, o, none⟩ v).heap[b]? = some (.cells (cs.setIfInBounds o v) T (0, 0)) := by
  have hlt : b < w.heap.size := by
    rcases Nat.lt_or_ge b w.heap.size with h' | h'
    · exact h'
    · simp [Array.getElem?_eq_none h'] at h
  have h' : w.heap[b] = .cells cs T (0, 0) := by simpa [Array.getElem?_eq_getElem hlt] using h
  show (w.heap.modify b _)[b]? = _
  rw [Array.getElem?_eq_getElem (by simpa using hlt), Array.getElem_modify_self, h']
  rfl
theorem Box.cell {w : World} {b T : Nat} {x : Nm} (h : Box w b T x) :
    w.cell? ⟨b, 0, none⟩ = some (.int .i64 x.A) ∧ w.cell? ⟨b, 1, none⟩ = some (.int .i64 x.B) ∧ w.cell? ⟨b, 2, none⟩ = some (.int .i64 x.C) ∧ w.cell? ⟨b, 3, none⟩ = some (.int .i64 x.D) ∧ w.cell? ⟨b, 4, none⟩ = some (.int .i64 x.K) := by
  unfold Box at h
  simp [World.cell?, h]
theorem Box.free {w : World} {b T : Nat} {x : Nm} (h : Box w b T x) :
    w.frozen? ⟨b, 0, none⟩ = false ∧ w.frozen? ⟨b, 1, none⟩ = false ∧ w.frozen? ⟨b, 2, none⟩ = false ∧ w.frozen? ⟨b, 3, none⟩ = false ∧ w.frozen? ⟨b, 4, none⟩ = false := by
  unfold Box at h
  simp [World.frozen?, h]
theorem Box.lt {w : World} {b T : Nat} {x : Nm} (h : Box w b T x) : b < w.heap.size := by
  rcases Nat.lt_or_ge b w.heap.size with h' | h'
  · exact h'
  · simp [Box, Array.getElem?_eq_none h'] at h
theorem Box.only {w w' : World} {b c T : Nat} {x : Nm} (h : Box w b T x) (ho : Only c w w') (hn : b ≠ c) : Box w' b T x := by
  unfold Box; rw [ho.block b hn]; exact h
theorem Box.below {w w' : World} {b B T : Nat} {x : Nm} (h : Box w b T x) (ho : Below B w w') (hn : b < B) : Box w' b T x := by
  unfold Box; rw [ho.block b hn]; exact h
theorem Box.dN {w : World} {b T : Nat} {x : Nm} (h : Box w b T x) (n : Nat) : Box (w.drewN n) b T x := h
theorem Box.drew {w : World} {b T : Nat} {x : Nm} (h : Box w b T x) : Box w.drew b T x := h
theorem wr_sub (x y : Int) : wrap64 (wrap64 x - wrap64 y) = wrap64 (x - y) := by unfold wrap64; omega
theorem wr_add (x y : Int) : wrap64 (wrap64 x + wrap64 y) = wrap64 (x + y) := by unfold wrap64; omega
theorem wr_in {n : Int} (h : -9223372036854775808 ≤ n ∧ n ≤ 9223372036854775807) : wrap64 n = n := by unfold wrap64; omega
end Go.Proofs.YtjalpolciofphaaDoor
