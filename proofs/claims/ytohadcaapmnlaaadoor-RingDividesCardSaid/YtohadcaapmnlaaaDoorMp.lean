
/- A map from four coefficients to an integer: look-up and store, as equations of a run. -/
import Derived.Test.YtohadcaapmnlaaaDoorJa
import Derived.MapKept
import Derived.RangeFuncRecord
import Derived.Maps.Keyed
set_option linter.all false
set_option maxRecDepth 100000
namespace Go.Proofs.YtohadcaapmnlaaaDoor
open Go.RowKit

/-- A key. -/
abbrev kv (x : Nm) : Value := .agg #[.int .i64 x.A, .int .i64 x.B, .int .i64 x.C, .int .i64 x.D]
def same4 (x y : Nm) : Bool := eq4 x.A x.B x.C x.D y.A y.B y.C y.D
/-- The entries of a list, born one behind the other. -/
def entsFrom : Nat → List (Nm × Int) → List MapEntry
  | _, [] => []
  | i, p :: l => ⟨kv p.1, .int .i64 p.2, i⟩ :: entsFrom (i + 1) l
def findR (x : Nm) : Nat → List (Nm × Int) → Option (Nat × Value)
  | _, [] => none
  | i, p :: l => if same4 x p.1 then some (i, .int .i64 p.2) else findR x (i + 1) l
def lookN (x : Nm) : List (Nm × Int) → Option Int
  | [] => none
  | p :: l => if same4 x p.1 then some p.2 else lookN x l
theorem findR_look (x : Nm) : ∀ (l : List (Nm × Int)) (i : Nat), (findR x i l).map (·.2) = (lookN x l).map (Value.int .i64)
  | [], _ => rfl
  | p :: l, i => by
    unfold findR lookN
    cases same4 x p.1
    · simpa using findR_look x l (i + 1)
    · simp
theorem entsFrom_append (x : Nm × Int) : ∀ (l : List (Nm × Int)) (i : Nat), entsFrom i (l ++ [x]) = entsFrom i l ++ [⟨kv x.1, .int .i64 x.2, i + l.length⟩]
  | [], i => by simp [entsFrom]
  | p :: l, i => by
    show _ :: entsFrom (i + 1) (l ++ [x]) = _ :: (entsFrom (i + 1) l ++ _)
    rw [entsFrom_append x l (i + 1), List.length_cons]
    congr 4
    omega
theorem run_findAsking (w : World) (x : Nm) : ∀ (l : List (Nm × Int)) (b i : Nat), (Instr.findAsking 83 (kv x) (entsFrom b l) i).run Tryd.prog w = .ok (findR x i l) w
  | [], _, _ => rfl
  | p :: l, b, i => by
    have h := run_eql_arr4 w x.A x.B x.C x.D p.1.A p.1.B p.1.C p.1.D
    have h' : (Op.equal 83 (kv x) (kv p.1)).run Tryd.prog w = .ok (same4 x p.1) w := h
    show ((Op.equal 83 (kv x) (kv p.1)) >>= fun c => if c then pure (some (i, Value.int .i64 p.2)) else Instr.findAsking 83 (kv x) (entsFrom (b + 1) l) (i + 1)).run Tryd.prog w = _
    rw [Sem.run_bind, h', Result.andThen_ok]
    unfold findR
    cases same4 x p.1
    · simpa using run_findAsking w x l (b + 1) (i + 1)
    · simp
theorem und_coefs : Tryd.prog.underlying 83 = some (.array 4 3) := by kernel_rfl
theorem und_map : Tryd.prog.underlying 94 = some (.map 83 3) := by kernel_rfl
theorem run_findKey (w : World) (x : Nm) (l : List (Nm × Int)) (b : Nat) : (Instr.findKey 83 (kv x) (entsFrom b l)).run Tryd.prog w = .ok (findR x 0 l) w := by
  unfold Instr.findKey
  rw [Sem.run_bind, run_underlying und_coefs w, Result.andThen_ok]
  cases l with
  | nil => rfl
  | cons p l =>
    have : Instr.findNow (.array 4 3) (kv x) (entsFrom b (p :: l)) 0 = none := rfl
    rw [this]
    exact run_findAsking w x (p :: l) b 0
theorem run_check (w : World) (e : Bool) (x : Nm) : (Instr.checkKey e 10000 83 (kv x)).run Tryd.prog w = .ok () w := by
  have h : ∀ (w : World) (y : Int) , (Instr.checkKey e 9999 3 (.int .i64 y)).run Tryd.prog w = .ok () w := by
    intro w y
    rw [Instr.checkKey, Sem.run_bind, run_underlying Tryd.underlying3 w, Result.andThen_ok]
    rfl
  have hs : ∀ w, (sizeOf 3).run Tryd.prog w = .ok 1 w := fun w => by kernel_rfl
  have hp : ∀ (o : Nat) (v : Value) w, (#[Value.int .i64 x.A, .int .i64 x.B, .int .i64 x.C, .int .i64 x.D] : Array Value)[o]? = some v → (part 3 #[Value.int .i64 x.A, .int .i64 x.B, .int .i64 x.C, .int .i64 x.D] o).run Tryd.prog w = .ok v w := by
    intro o v w h
    have hagg : ∀ w, (isAgg 3).run Tryd.prog w = .ok false w := by
      intro w; unfold isAgg
      rw [Sem.run_bind, run_underlying Tryd.underlying3 w]
      simp
    simp [part, hagg, h]
  rw [Instr.checkKey, Sem.run_bind, run_underlying und_coefs w, Result.andThen_ok]
  simp [hs, hp, h, Std.Legacy.Range.forIn_eq_forIn_range', Std.Legacy.Range.size, List.range']

/-- What v, ok := m[x] gives. -/
def found2 (x : Nm) (l : List (Nm × Int)) : Value := .tuple #[.int .i64 ((lookN x l).getD 0), .bool (lookN x l).isSome]
theorem run_lookup (w : World) (r : Nat) (x : Nm) (l : List (Nm × Int)) (c : Nat) (hr : w.heap[r]? = some (.map (entsFrom 0 l).toArray c)) :
    (Instr.lookup 94 (.map (some r)) (kv x) true).run Tryd.prog w = .ok (found2 x l) w := by
  have hz : (zeroValue 3).run Tryd.prog w = .ok (.int .i64 0) w := by kernel_rfl
  have hk := run_findKey w x l 0
  have hl := findR_look x l 0
  unfold found2
  simp only [Instr.lookup, Sem.run_bind, run_underlying und_map, MapKept.run_getObj_map hr, run_check, Result.andThen_ok, Sem.run_pure, hk]
  generalize lookN x l = q at *
  cases hf : findR x 0 l with
  | none =>
    rw [hf] at hl
    cases q with
    | none => simp [hz]
    | some n => simp at hl
  | some p =>
    rw [hf] at hl
    cases q with
    | none => simp at hl
    | some n => simp at hl; simp [hl]
theorem run_store (w : World) (r : Nat) (x : Nm) (n : Int) (l : List (Nm × Int)) (hr : w.heap[r]? = some (.map (entsFrom 0 l).toArray l.length)) (hx : lookN x l = none) :
    (Instr.mapUpdate 94 (.map (some r)) (kv x) (.int .i64 n)).run Tryd.prog w = .ok () (w.putObj r (.map (entsFrom 0 (l ++ [(x, n)])).toArray (l ++ [(x, n)]).length)) := by
  have hk := run_findKey w x l 0
  have hl := findR_look x l 0
  rw [hx] at hl
  have hf : findR x 0 l = none := by simpa using hl
  rw [hf] at hk
  have he : (entsFrom 0 l).toArray.push ⟨kv x, .int .i64 n, l.length⟩ = (entsFrom 0 (l ++ [(x, n)])).toArray := by
    rw [entsFrom_append]; simp
  simp only [Instr.mapUpdate, Sem.run_bind, run_underlying und_map, MapKept.run_getObj_map hr, run_check, Result.andThen_ok, hk, MapKept.run_setObj_map _ hr, he]
  simp [World.putObj]
end Go.Proofs.YtohadcaapmnlaaaDoor
