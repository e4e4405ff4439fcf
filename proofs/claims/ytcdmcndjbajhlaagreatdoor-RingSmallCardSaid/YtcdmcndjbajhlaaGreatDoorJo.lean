/- A map from four coefficients to an integer: look-up and store, as equations of a run. -/
import Derived.Test.YtcdmcndjbajhlaaGreatDoorJa
import Derived.Deep.RegionWith
import Derived.Deep.DeepCutAuto
import Derived.Deep.RegionHeld3
import Derived.MapKept
import Derived.RangeFuncRecord
import Derived.Maps.Keyed
set_option linter.all false
set_option maxRecDepth 100000
namespace Go.Proofs.YtcdmcndjbajhlaaGreatDoor
open Go.RowKit
attribute [local go_sem] run_eql_arr4 run_field_num

/-- p and q point to two numbers, in memory that is new since w1. -/
def PQ (r s : Nm) (w1 : World) (p q : Value) (wx : World) : Prop :=
  ∃ bp bq, p = .pointer (some ⟨bp, 0, none⟩) ∧ q = .pointer (some ⟨bq, 0, none⟩) ∧ (wx.cell? ⟨bp, 0, none⟩ = some (.int .i64 r.A) ∧ wx.cell? ⟨bp, 1, none⟩ = some (.int .i64 r.B) ∧ wx.cell? ⟨bp, 2, none⟩ = some (.int .i64 r.C) ∧ wx.cell? ⟨bp, 3, none⟩ = some (.int .i64 r.D) ∧ wx.cell? ⟨bp, 4, none⟩ = some (.int .i64 r.K)) ∧
    (wx.cell? ⟨bq, 0, none⟩ = some (.int .i64 s.A) ∧ wx.cell? ⟨bq, 1, none⟩ = some (.int .i64 s.B) ∧ wx.cell? ⟨bq, 2, none⟩ = some (.int .i64 s.C) ∧ wx.cell? ⟨bq, 3, none⟩ = some (.int .i64 s.D) ∧ wx.cell? ⟨bq, 4, none⟩ = some (.int .i64 s.K)) ∧ bp < wx.heap.size ∧ bq < wx.heap.size ∧ Below w1.heap.size w1 wx
theorem below_undrew {W w2 : World} (h : Below W.drew.heap.size W.drew w2) : Below W.heap.size W w2 := ⟨h.os, h.tape, h.output, h.size, h.block⟩

def sameN (r s : Nm) : Bool := (r.K == s.K) && eq4 r.A r.B r.C r.D s.A s.B s.C s.D

set_option maxHeartbeats 8000000 in
theorem Same_ok (A B C D K a b c d k : Int) (r s : Nm) (w : World) (HC : Hid (∀ w, Calls Tryz.prog 78 #[nv A B C D K, nv a b c d k] w (Gives (.int .i64 0) w)))
    (HL1 : Hid (∀ w, Calls Tryz.prog 16 #[nv A B C D K] w (Gives r.v w))) (HL2 : Hid (∀ w, Calls Tryz.prog 16 #[nv a b c d k] w (Gives s.v w))) :
    Calls Tryz.prog 40 #[nv A B C D K, nv a b c d k] w (Gives (.tuple #[.bool (sameN r s), .int .i64 0]) w) := by
  go_enter Tryz.func40, Tryz.ntmps40
  go_wp2_with fail
  refine (HC.out _).mono ?_
  rintro e w1 ⟨rfl, hb⟩
  have hw1 : Below w.heap.size w w1 := (by repeat (first | with_reducible exact Below.refl _ _ | with_reducible refine below_al ?_ _ | with_reducible refine below_dN ?_ _ | with_reducible refine Below.drew ?_ | (with_reducible refine Below.setCell ?_ (by simp <;> omega) _) | (with_reducible refine below_via (by assumption) ?_)))
  have bx : Box w1 w.heap.size 23 ⟨A, B, C, D, K⟩ := by
    have h := box_new w A B C D K 23
    first | exact h.below hb (by simp <;> omega) | exact (box_al h _).below hb (by simp <;> omega) | exact (box_al (box_al h _) _).below hb (by simp <;> omega) | exact (box_al (box_al (box_al h _) _) _).below hb (by simp <;> omega)
  have by_ : Box w1 (w.heap.size + 1) 23 ⟨a, b, c, d, k⟩ := by
    have h := box_new (w.alloc (.cells #[.int .i64 A, .int .i64 B, .int .i64 C, .int .i64 D, .int .i64 K] 23)) a b c d k 23
    simp only [World.size_alloc] at h
    first | exact h.below hb (by simp <;> omega) | exact (box_al h _).below hb (by simp <;> omega) | exact (box_al (box_al h _) _).below hb (by simp <;> omega) | exact (box_al (box_al (box_al h _) _) _).below hb (by simp <;> omega)
  obtain ⟨c0, c1, c2, c3, c4⟩ := bx.cell
  obtain ⟨d0, d1, d2, d3, d4⟩ := by_.cell
  have hlt := by_.lt
  have hlt0 := bx.lt
  have HBX := Lib.hid bx
  have HBY := Lib.hid by_
  clear bx by_
  dsimp only at c0 c1 c2 c3 c4 d0 d1 d2 d3 d4
  go_upto_region 4 with fail
  go_cut [7, 8] (fun p q wx => PQ r s w1 p q wx)
  case first =>
    go_region_held3 (fun w' => Below w1.heap.size w1 w' ∧ (∀ b o, b < w1.heap.size → w'.cell? ⟨b, o, none⟩ = w1.cell? ⟨b, o, none⟩)) ((exact (fun h => ⟨h, (bcell h).1⟩) (by repeat (first | with_reducible exact Below.refl _ _ | with_reducible refine below_al ?_ _ | with_reducible refine below_dN ?_ _ | with_reducible refine Below.drew ?_ | (with_reducible refine Below.setCell ?_ (by simp <;> omega) _) | (with_reducible refine below_via (by assumption) ?_))))) (first | (go_at_call 16; (with_reducible refine (HL1.out _).mono ?_); rintro e w2 ⟨rfl, hb2⟩; (try replace hb2 := below_undrew hb2); obtain ⟨hc2, hf2⟩ := bcell hb2; have hz2 := hb2.size; (try simp at hz2); have hz20 : w.heap.size < w2.heap.size := (by omega); have hz21 : w.heap.size + 1 < w2.heap.size := (by omega); (try have hz2a : w1.heap.size < w2.heap.size := (by omega)); (try have hz2b : w1.heap.size + 1 < w2.heap.size := (by omega))) | (go_at_call 16; (with_reducible refine (HL2.out _).mono ?_); rintro e w3 ⟨rfl, hb3⟩; (try replace hb3 := below_undrew hb3); obtain ⟨hc3, hf3⟩ := bcell hb3; have hz3 := hb3.size; (try simp at hz3); (try have hz3a : w1.heap.size < w3.heap.size := (by omega)); (try have hz3b : w1.heap.size + 1 < w3.heap.size := (by omega)); (try have hz3c : w2.heap.size < w3.heap.size := (by omega)); (try have hz3d : w2.heap.size + 1 < w3.heap.size := (by omega))))
    all_goals
      go_wp2_with fail
      go_meet
      refine ⟨_, _, rfl, rfl, ⟨?_, ?_, ?_, ?_, ?_⟩, ⟨?_, ?_, ?_, ?_, ?_⟩, ?_, ?_, (by repeat (first | with_reducible exact Below.refl _ _ | with_reducible refine below_al ?_ _ | with_reducible refine below_dN ?_ _ | with_reducible refine Below.drew ?_ | (with_reducible refine Below.setCell ?_ (by simp <;> omega) _) | (with_reducible refine below_via (by assumption) ?_)))⟩
    all_goals (try go_simp)
    all_goals (first | omega | (refine World.cell?_setCell_same' _ _ _ ?_; go_simp))
  case rest =>
    obtain ⟨bp, bq, rfl, rfl, ⟨p0, p1, p2, p3, p4⟩, ⟨q0, q1, q2, q3, q4⟩, hbp, hbq, hbx⟩ := hcut
    cases hk : (r.K == s.K)
    · go_wp2_with fail
      go_quiet (fail)
      go_wp2
      go_ret2
      exact ⟨by simp [sameN, hk], (by repeat (first | with_reducible exact Below.refl _ _ | with_reducible refine below_al ?_ _ | with_reducible refine below_dN ?_ _ | with_reducible refine Below.drew ?_ | (with_reducible refine Below.setCell ?_ (by simp <;> omega) _) | (with_reducible refine below_via (by assumption) ?_)))⟩
    · go_wp2_with fail
      go_region_held3 (fun w' => Below wc.heap.size wc w' ∧ (∀ b o, b < wc.heap.size → w'.cell? ⟨b, o, none⟩ = wc.cell? ⟨b, o, none⟩)) ((exact (fun h => ⟨h, (bcell h).1⟩) (by repeat (first | with_reducible exact Below.refl _ _ | with_reducible refine below_al ?_ _ | with_reducible refine below_dN ?_ _ | with_reducible refine Below.drew ?_ | (with_reducible refine Below.setCell ?_ (by simp <;> omega) _) | (with_reducible refine below_via (by assumption) ?_))))) (first | (go_at_call 18; refine (coefs_any _ _ _ _ _ _).mono ?_; rintro e w2 ⟨rfl, hb2⟩; (try replace hb2 := below_undrew hb2); obtain ⟨hc2, hf2⟩ := bcell hb2; have hz2 := hb2.size; (try simp at hz2); (try have hz2a : bp < w2.heap.size := (by omega)); (try have hz2b : bq < w2.heap.size := (by omega))))
      all_goals
        go_wp2
        go_ret2
        exact ⟨by simp [sameN, hk], (by repeat (first | with_reducible exact Below.refl _ _ | with_reducible refine below_al ?_ _ | with_reducible refine below_dN ?_ _ | with_reducible refine Below.drew ?_ | (with_reducible refine Below.setCell ?_ (by simp <;> omega) _) | (with_reducible refine below_via (by assumption) ?_)))⟩

set_option maxHeartbeats 2000000 in
theorem Same_bad (A B C D K a b c d k : Int) (w : World) (hq : (chk2 ⟨A, B, C, D, K⟩ ⟨a, b, c, d, k⟩ != 0) = true) :
    Calls Tryz.prog 40 #[nv A B C D K, nv a b c d k] w (Gives (.tuple #[.bool false, .int .i64 (chk2 ⟨A, B, C, D, K⟩ ⟨a, b, c, d, k⟩)]) w) := by
  have HC2 : Hid (∀ w, Calls Tryz.prog 78 #[nv A B C D K, nv a b c d k] w (Gives (.int .i64 (chk2 ⟨A, B, C, D, K⟩ ⟨a, b, c, d, k⟩)) w)) := fun w => checked_any A B C D K a b c d k w
  generalize chk2 ⟨A, B, C, D, K⟩ ⟨a, b, c, d, k⟩ = q at *
  go_enter Tryz.func40, Tryz.ntmps40
  go_wp2_with fail
  refine (HC2.out _).mono ?_
  rintro e w1 ⟨rfl, hb⟩
  obtain ⟨hc, hf⟩ := bcell hb
  go_wp2_with fail
  go_ret2
  exact ⟨rfl, (by repeat (first | with_reducible exact Below.refl _ _ | with_reducible refine below_al ?_ _ | with_reducible refine below_dN ?_ _ | with_reducible refine Below.drew ?_ | (with_reducible refine Below.setCell ?_ (by simp <;> omega) _) | (with_reducible refine below_via (by assumption) ?_)))⟩

theorem chk2_ok {x y : Nm} (h : chk2 x y = 0) : x.chk = 0 ∧ y.chk = 0 := by
  unfold chk2 at h
  split at h
  · exact ⟨by assumption, h⟩
  · contradiction
theorem right_least {A B C D K : Int} (h : chk A B C D K = 0) : Hid (∀ w, Calls Tryz.prog 16 #[nv A B C D K] w (Gives (Nm.least ⟨A, B, C, D, K⟩).v w)) := by
  have := chk_ok h
  exact fun w => least_any A B C D K w (right_wide h) (by omega)
theorem checked_zero {A B C D K a b c d k : Int} (h : chk2 ⟨A, B, C, D, K⟩ ⟨a, b, c, d, k⟩ = 0) : Hid (∀ w, Calls Tryz.prog 78 #[nv A B C D K, nv a b c d k] w (Gives (.int .i64 0) w)) := by
  intro w
  have h1 := checked_any A B C D K a b c d k w
  have h2 : (if chk A B C D K = 0 then chk a b c d k else chk A B C D K) = 0 := h
  rw [h2] at h1
  exact h1
theorem Same_any (A B C D K a b c d k : Int) (w : World) :
    Calls Tryz.prog 40 #[nv A B C D K, nv a b c d k] w (Gives (.tuple #[.bool (if chk2 ⟨A, B, C, D, K⟩ ⟨a, b, c, d, k⟩ = 0 then sameN (Nm.least ⟨A, B, C, D, K⟩) (Nm.least ⟨a, b, c, d, k⟩) else false), .int .i64 (chk2 ⟨A, B, C, D, K⟩ ⟨a, b, c, d, k⟩)]) w) := by
  by_cases h : chk2 ⟨A, B, C, D, K⟩ ⟨a, b, c, d, k⟩ = 0
  · rw [if_pos h, h]
    obtain ⟨h1, h2⟩ := chk2_ok h
    exact Same_ok A B C D K a b c d k _ _ w (checked_zero h) (right_least h1) (right_least h2)
  · rw [if_neg h]
    exact Same_bad A B C D K a b c d k w (bne_iff_ne.2 h)
end Go.Proofs.YtcdmcndjbajhlaaGreatDoor
namespace Go.Proofs.YtcdmcndjbajhlaaGreatDoor
open Go.RowKit

/-- A key. -/
abbrev kv (x : Nm) : Value := .agg #[.int .i64 x.A, .int .i64 x.B, .int .i64 x.C, .int .i64 x.D]
def same4 (x y : Nm) : Bool := eq4 x.A x.B x.C x.D y.A y.B y.C y.D
/-- The entries of a list, born one behind the other. -/
def entsFrom : Nat → List (Nm × Int) → List MapEntry
  | _, [] => []
  | i, p :: l => ⟨kv p.1, .int .i64 p.2, i⟩ :: entsFrom (i + 1) l
def findR (x : Nm) : Nat → List (Nm × Int) → Option (Nat × Value)
  | _, [] => none
  | i, p :: l => if same4 x p.1 then some (i, .int .i64 p.2) else findR x (i + 1) l
def lookN (x : Nm) : List (Nm × Int) → Option Int
  | [] => none
  | p :: l => if same4 x p.1 then some p.2 else lookN x l
theorem findR_look (x : Nm) : ∀ (l : List (Nm × Int)) (i : Nat), (findR x i l).map (·.2) = (lookN x l).map (Value.int .i64)
  | [], _ => rfl
  | p :: l, i => by
    unfold findR lookN
    cases same4 x p.1
    · simpa using findR_look x l (i + 1)
    · simp
theorem entsFrom_append (x : Nm × Int) : ∀ (l : List (Nm × Int)) (i : Nat), entsFrom i (l ++ [x]) = entsFrom i l ++ [⟨kv x.1, .int .i64 x.2, i + l.length⟩]
  | [], i => by simp [entsFrom]
  | p :: l, i => by
    show _ :: entsFrom (i + 1) (l ++ [x]) = _ :: (entsFrom (i + 1) l ++ _)
    rw [entsFrom_append x l (i + 1), List.length_cons]
    congr 4
    omega
theorem run_findAsking (w : World) (x : Nm) : ∀ (l : List (Nm × Int)) (b i : Nat), (Instr.findAsking 44 (kv x) (entsFrom b l) i).run Tryz.prog w = .ok (findR x i l) w
  | [], _, _ => rfl
  | p :: l, b, i => by
    have h := run_eql_arr4 w x.A x.B x.C x.D p.1.A p.1.B p.1.C p.1.D
    have h' : (Op.equal 44 (kv x) (kv p.1)).run Tryz.prog w = .ok (same4 x p.1) w := h
    show ((Op.equal 44 (kv x) (kv p.1)) >>= fun c => if c then pure (some (i, Value.int .i64 p.2)) else Instr.findAsking 44 (kv x) (entsFrom (b + 1) l) (i + 1)).run Tryz.prog w = _
    rw [Sem.run_bind, h', Result.andThen_ok]
    unfold findR
    cases same4 x p.1
    · simpa using run_findAsking w x l (b + 1) (i + 1)
    · simp
theorem und_coefs : Tryz.prog.underlying 44 = some (.array 4 3) := by kernel_rfl
theorem und_map : Tryz.prog.underlying 86 = some (.map 44 3) := by kernel_rfl
theorem run_findKey (w : World) (x : Nm) (l : List (Nm × Int)) (b : Nat) : (Instr.findKey 44 (kv x) (entsFrom b l)).run Tryz.prog w = .ok (findR x 0 l) w := by
  unfold Instr.findKey
  rw [Sem.run_bind, run_underlying und_coefs w, Result.andThen_ok]
  cases l with
  | nil => rfl
  | cons p l =>
    have : Instr.findNow (.array 4 3) (kv x) (entsFrom b (p :: l)) 0 = none := rfl
    rw [this]
    exact run_findAsking w x (p :: l) b 0
theorem run_check (w : World) (e : Bool) (x : Nm) : (Instr.checkKey e 10000 44 (kv x)).run Tryz.prog w = .ok () w := by
  have h : ∀ (w : World) (y : Int) , (Instr.checkKey e 9999 3 (.int .i64 y)).run Tryz.prog w = .ok () w := by
    intro w y
    rw [Instr.checkKey, Sem.run_bind, run_underlying Tryz.underlying3 w, Result.andThen_ok]
    rfl
  have hs : ∀ w, (sizeOf 3).run Tryz.prog w = .ok 1 w := fun w => by kernel_rfl
  have hp : ∀ (o : Nat) (v : Value) w, (#[Value.int .i64 x.A, .int .i64 x.B, .int .i64 x.C, .int .i64 x.D] : Array Value)[o]? = some v → (part 3 #[Value.int .i64 x.A, .int .i64 x.B, .int .i64 x.C, .int .i64 x.D] o).run Tryz.prog w = .ok v w := by
    intro o v w h
    have hagg : ∀ w, (isAgg 3).run Tryz.prog w = .ok false w := by
      intro w; unfold isAgg
      rw [Sem.run_bind, run_underlying Tryz.underlying3 w]
      simp
    simp [part, hagg, h]
  rw [Instr.checkKey, Sem.run_bind, run_underlying und_coefs w, Result.andThen_ok]
  simp [hs, hp, h, Std.Legacy.Range.forIn_eq_forIn_range', Std.Legacy.Range.size, List.range']

/-- What v, ok := m[x] gives. -/
def found2 (x : Nm) (l : List (Nm × Int)) : Value := .tuple #[.int .i64 ((lookN x l).getD 0), .bool (lookN x l).isSome]
theorem run_lookup (w : World) (r : Nat) (x : Nm) (l : List (Nm × Int)) (c : Nat) (hr : w.heap[r]? = some (.map (entsFrom 0 l).toArray c)) :
    (Instr.lookup 86 (.map (some r)) (kv x) true).run Tryz.prog w = .ok (found2 x l) w := by
  have hz : (zeroValue 3).run Tryz.prog w = .ok (.int .i64 0) w := by kernel_rfl
  have hk := run_findKey w x l 0
  have hl := findR_look x l 0
  unfold found2
  simp only [Instr.lookup, Sem.run_bind, run_underlying und_map, MapKept.run_getObj_map hr, run_check, Result.andThen_ok, Sem.run_pure, hk]
  generalize lookN x l = q at *
  cases hf : findR x 0 l with
  | none =>
    rw [hf] at hl
    cases q with
    | none => simp [hz]
    | some n => simp at hl
  | some p =>
    rw [hf] at hl
    cases q with
    | none => simp at hl
    | some n => simp at hl; simp [hl]
theorem run_store (w : World) (r : Nat) (x : Nm) (n : Int) (l : List (Nm × Int)) (hr : w.heap[r]? = some (.map (entsFrom 0 l).toArray l.length)) (hx : lookN x l = none) :
    (Instr.mapUpdate 86 (.map (some r)) (kv x) (.int .i64 n)).run Tryz.prog w = .ok () (w.putObj r (.map (entsFrom 0 (l ++ [(x, n)])).toArray (l ++ [(x, n)]).length)) := by
  have hk := run_findKey w x l 0
  have hl := findR_look x l 0
  rw [hx] at hl
  have hf : findR x 0 l = none := by simpa using hl
  rw [hf] at hk
  have he : (entsFrom 0 l).toArray.push ⟨kv x, .int .i64 n, l.length⟩ = (entsFrom 0 (l ++ [(x, n)])).toArray := by
    rw [entsFrom_append]; simp
  simp only [Instr.mapUpdate, Sem.run_bind, run_underlying und_map, MapKept.run_getObj_map hr, run_check, Result.andThen_ok, hk, MapKept.run_setObj_map _ hr, he]
  simp [World.putObj]
end Go.Proofs.YtcdmcndjbajhlaaGreatDoor
