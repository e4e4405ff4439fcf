
/- The examples of the chapter, one call each. -/
import Derived.Test.YtohadcaapmnlaaaDoorJi
import Derived.Test.YtohadcaapmnlaaaDoorNu
import Derived.Test.YtohadcaapmnlaaaDoorLt
import Derived.Test.YtohadcaapmnlaaaDoorDv
import Derived.Test.YtohadcaapmnlaaaDoorBy
set_option linter.all false
set_option maxRecDepth 100000
namespace Go.Proofs.YtohadcaapmnlaaaDoor
open Go.RowKit Go.Shelf

/-- A call that returns one value, whatever the world: below nothing has changed. -/
def Tells (f : FuncId) (args : Array Value) (v : Value) : Prop := ∀ w, Calls Tryd.prog f args w (Gives v w)
theorem Tells.of {f : FuncId} {args : Array Value} {v v' : Value} (h : ∀ w, Calls Tryd.prog f args w (Gives v w)) (he : v = v') : Tells f args v' := he ▸ h

theorem by_of (x y : Nm) (hx : x.le 4096) (hy : y.le 4096) (hK : 0 ≤ x.K ∧ x.K ≤ 60) (hk : 0 ≤ y.K ∧ y.K ≤ 60) (hp : 0 ≤ (mulN (normN y) (dotN (normN y))).A) :
    Tells 47 #[x.v, y.v] (byV (mulN (mulN x (conjN y)) (dotN (normN y))) (mulN (normN y) (dotN (normN y)))) := by
  intro w
  have hj : (conjN y).le 4096 := by unfold Nm.le conjN at *; dsimp only at *; omega
  have hn : (normN y).le 67108864 := mulN_le hy hj
  have hnK : (normN y).K = y.K + y.K := rfl
  have ht : (mulN x (conjN y)).le 67108864 := mulN_le hx hj
  have htK : (mulN x (conjN y)).K = x.K + y.K := rfl
  have he : (dotN (normN y)).le 67108864 := by
    unfold dotN; split <;> (unfold Nm.le at *; dsimp only at *; omega)
  have heK : (dotN (normN y)).K = y.K + y.K := by unfold dotN; split <;> rfl
  have hab : (mulN (mulN x (conjN y)) (dotN (normN y))).le 18014398509481984 := mulN_le ht he
  have hbe : (mulN (normN y) (dotN (normN y))).le 18014398509481984 := mulN_le hn he
  have hA := hbe.1
  refine by_core x.A x.B x.C x.D x.K y.A y.B y.C y.D y.K (normN y) (conjN y) (mulN x (conjN y)) (dotN (normN y)) _ _ w ?_ ?_ ?_ ?_ ?_ ?_ ⟨hp, hA.2⟩ hab ?_ ?_
  · exact fun w => norm_any _ _ _ _ _ 4096 w hy (by omega) (by omega) (by omega)
  · have h := le_wide hy (by omega)
    exact fun w => conjugate_any _ _ _ _ _ w h.2.1 h.2.2.1 h.2.2.2
  · exact fun w => times_any _ _ _ _ _ _ _ _ _ _ 4096 4096 w hx hj (by omega) (by omega) (by show -1000000 ≤ y.K ∧ y.K ≤ 1000000; omega)
  · exact fun w => dotted_any _ _ _ _ _ w (le_wide hn (by omega)) (by omega)
  · exact fun w => times_any _ _ _ _ _ _ _ _ _ _ 67108864 67108864 w ht he (by omega) (by omega) (by omega)
  · exact fun w => times_any _ _ _ _ _ _ _ _ _ _ 67108864 67108864 w hn he (by omega) (by omega) (by omega)
  · have e : (mulN (mulN x (conjN y)) (dotN (normN y))).K = (mulN x (conjN y)).K + (dotN (normN y)).K := rfl
    omega
  · have e : (mulN (normN y) (dotN (normN y))).K = (normN y).K + (dotN (normN y)).K := rfl
    omega

theorem aw_a : Tells 20 #[nv 2 0 0 0 2] (.tuple #[nv 1 0 0 0 0, .int .i64 0]) := .of (Least_any 2 0 0 0 2) (by kernel_rfl)
theorem aw_b : Tells 20 #[nv 1 0 1 0 1] (.tuple #[nv 0 1 0 0 0, .int .i64 0]) := .of (Least_any 1 0 1 0 1) (by kernel_rfl)
theorem aw_o : Tells 26 #[.int .i64 7] (nv 0 0 0 (-1) 0) := .of (Omega_any 7) (by kernel_rfl)
theorem aw_c : Tells 17 #[nv 0 1 0 0 0, nv 0 0 0 (-1) 0] (.tuple #[nv 1 0 0 0 0, .int .i64 0]) := .of (Mul_any 0 1 0 0 0 0 0 0 (-1) 0) (by kernel_rfl)
theorem aw_d : Tells 22 #[nv 1 0 0 0 1] (.tuple #[nv (-1) 0 0 0 1, .int .i64 0]) := .of (Dot_any 1 0 0 0 1) (by kernel_rfl)
theorem aw_i : Tells 23 #[nv 1 1 0 0 0] (.tuple #[nv 2 1 0 (-1) 0, .int .i64 0]) := .of (Norm_any 1 1 0 0 0) (by kernel_rfl)
theorem aw_r : Tells 33 #[nv 0 0 1 0 0, nv 0 (-1) 0 0 0] (.tuple #[.int .i64 5, .int .i64 0]) := .of (Phase_any 0 0 1 0 0 0 (-1) 0 0 0) (by kernel_rfl)
theorem chkd {x y : Nm} (h : (if x.chk = 0 then y.chk else x.chk) = 0) : Hid (∀ w, Calls Tryd.prog 44 #[x.v, y.v] w (Gives (.int .i64 0) w)) := fun w => h ▸ checked_any x.A x.B x.C x.D x.K y.A y.B y.C y.D y.K w
theorem rls {x : Nm} (b : Bool) (hx : x.wide) (h : eq4 x.A x.B x.C x.D x.A (-x.D) (-x.C) (-x.B) = b) : Hid (∀ w, Calls Tryd.prog 63 #[x.v] w (Gives (.bool b) w)) := fun w => h ▸ real_core x.A x.B x.C x.D x.K w hx
theorem wth {x : Nm} (b : Bool) (h : inb x.A x.B x.C x.D 4096 = b) : Hid (∀ w, Calls Tryd.prog 46 #[nv x.A x.B x.C x.D x.K, .int .i64 4096] w (Gives (.bool b) w)) := fun w => h ▸ within_any x.A x.B x.C x.D x.K 4096 w (by omega) (by omega)
theorem lst {x : Nm} (y : Nm) (hx : x.wide) (hK : 0 ≤ x.K ∧ x.K ≤ 1000) (h : x.least = y) : Hid (∀ w, Calls Tryd.prog 45 #[x.v] w (Gives y.v w)) := fun w => h ▸ least_any x.A x.B x.C x.D x.K w hx hK
theorem sub_at (x y r : Nm) (hx : x.chk = 0) (hy : y.chk = 0) (he1 : max x.K y.K ≤ x.K ∨ (max x.K y.K - x.K) % 2 = 0) (he2 : max x.K y.K ≤ y.K ∨ (max x.K y.K - y.K) % 2 = 0)
    (h : (Value.tuple #[(jointN x y (subN x y)).v, .int .i64 (jointE x y (subN x y))]) = .tuple #[r.v, .int .i64 0]) : Hid (∀ w, Calls Tryd.prog 19 #[x.v, y.v] w (Gives (.tuple #[r.v, .int .i64 0]) w)) := by
  intro w
  have hk := chk_ok (A := x.A) (B := x.B) (C := x.C) (D := x.D) (K := x.K) hx
  have hk2 := chk_ok (A := y.A) (B := y.B) (C := y.C) (D := y.D) (K := y.K) hy
  have h0 := Sub_of x.A x.B x.C x.D x.K y.A y.B y.C y.D y.K w (fun _ => ⟨lifts_even x _ (right_le hx) (by omega) (by omega) (by omega) he1, lifts_even (negN y) _ (negN_le (right_le hy)) (by have e : (negN y).K = y.K := rfl; omega) (by omega) (by have e : (negN y).K = y.K := rfl; omega) he2⟩)
  rw [h] at h0
  exact h0
theorem aw_k : Tells 25 #[nv 2 (-1) 0 1 0, nv 1 0 0 0 0] (.tuple #[.bool true, .int .i64 0]) :=
  .of (fun w => Less_ok 2 (-1) 0 1 0 1 0 0 0 0 ⟨1, -1, 0, 1, 0⟩ w (chkd (x := ⟨2, -1, 0, 1, 0⟩) (y := ⟨1, 0, 0, 0, 0⟩) (by decide)) (rls (x := ⟨2, -1, 0, 1, 0⟩) true (by unfold Nm.wide; decide) (by decide)) (rls (x := ⟨1, 0, 0, 0, 0⟩) true (by unfold Nm.wide; decide) (by decide))
    (sub_at ⟨2, -1, 0, 1, 0⟩ ⟨1, 0, 0, 0, 0⟩ ⟨1, -1, 0, 1, 0⟩ (by decide) (by decide) (by decide) (by decide) (by kernel_rfl)) (by show Nm.inb _ _ = true; decide)) (by kernel_rfl)
theorem aw_m : Tells 25 #[nv 2 (-1) 0 1 0, nv 1 0 0 0 2] (.tuple #[.bool false, .int .i64 0]) :=
  .of (fun w => Less_ok 2 (-1) 0 1 0 1 0 0 0 2 ⟨3, -2, 0, 2, 2⟩ w (chkd (x := ⟨2, -1, 0, 1, 0⟩) (y := ⟨1, 0, 0, 0, 2⟩) (by decide)) (rls (x := ⟨2, -1, 0, 1, 0⟩) true (by unfold Nm.wide; decide) (by decide)) (rls (x := ⟨1, 0, 0, 0, 2⟩) true (by unfold Nm.wide; decide) (by decide))
    (sub_at ⟨2, -1, 0, 1, 0⟩ ⟨1, 0, 0, 0, 2⟩ ⟨3, -2, 0, 2, 2⟩ (by decide) (by decide) (by decide) (by decide) (by kernel_rfl)) (by show Nm.inb _ _ = true; decide)) (by kernel_rfl)
theorem aw_n : Tells 12 #[nv 1 0 0 0 0, nv 1 1 0 0 0] (.tuple #[nv 0 1 (-1) 0 1, .int .i64 0]) := by
  intro w
  have hb := by_of ⟨1, 0, 0, 0, 0⟩ ⟨1, 1, 0, 0, 0⟩ (by unfold Nm.le; decide) (by unfold Nm.le; decide) (by decide) (by decide) (by decide)
  have hv : byV (mulN (mulN ⟨1, 0, 0, 0, 0⟩ (conjN ⟨1, 1, 0, 0, 0⟩)) (dotN (normN ⟨1, 1, 0, 0, 0⟩))) (mulN (normN ⟨1, 1, 0, 0, 0⟩) (dotN (normN ⟨1, 1, 0, 0, 0⟩))) = .tuple #[Nm.v ⟨1, -1, 1, -1, 2⟩, .bool true] := by kernel_rfl
  rw [hv] at hb
  have hs : Hid (∀ w, Calls Tryd.prog 48 #[nv 1 (-1) 1 (-1) 2] w (Gives (.tuple #[Nm.v ⟨0, 1, -1, 0, 1⟩, .int .i64 0]) w)) := fun w => by
    have h := settle_any 1 (-1) 1 (-1) 2 w (by unfold Nm.wide; decide) (by decide)
    rw [show (Value.tuple #[(fitN ⟨1, -1, 1, -1, 2⟩).v, .int .i64 (fitE ⟨1, -1, 1, -1, 2⟩)]) = .tuple #[Nm.v ⟨0, 1, -1, 0, 1⟩, .int .i64 0] by kernel_rfl] at h
    exact h
  exact Divide_ok 1 0 0 0 0 1 1 0 0 0 ⟨1, 0, 0, 0, 0⟩ ⟨1, 1, 0, 0, 0⟩ ⟨1, -1, 1, -1, 2⟩ ⟨0, 1, -1, 0, 1⟩ 0 w (chkd (x := ⟨1, 0, 0, 0, 0⟩) (y := ⟨1, 1, 0, 0, 0⟩) (by decide)) (lst (x := ⟨1, 0, 0, 0, 0⟩) _ (by unfold Nm.wide; decide) (by decide) (by kernel_rfl)) (lst (x := ⟨1, 1, 0, 0, 0⟩) _ (by unfold Nm.wide; decide) (by decide) (by kernel_rfl))
    (wth (x := ⟨1, 0, 0, 0, 0⟩) true (by decide)) (wth (x := ⟨1, 1, 0, 0, 0⟩) true (by decide)) hb hs
theorem aw_q : Tells 12 #[nv 1 0 0 0 0, nv 3 0 0 0 0] (.tuple #[nul.v, .int .i64 6]) := by
  intro w
  have hb := by_of ⟨1, 0, 0, 0, 0⟩ ⟨3, 0, 0, 0, 0⟩ (by unfold Nm.le; decide) (by unfold Nm.le; decide) (by decide) (by decide) (by decide)
  have hv : byV (mulN (mulN ⟨1, 0, 0, 0, 0⟩ (conjN ⟨3, 0, 0, 0, 0⟩)) (dotN (normN ⟨3, 0, 0, 0, 0⟩))) (mulN (normN ⟨3, 0, 0, 0, 0⟩) (dotN (normN ⟨3, 0, 0, 0, 0⟩))) = .tuple #[nul.v, .bool false] := by kernel_rfl
  rw [hv] at hb
  exact Divide_none 1 0 0 0 0 3 0 0 0 0 ⟨1, 0, 0, 0, 0⟩ ⟨3, 0, 0, 0, 0⟩ nul nul 0 w (chkd (x := ⟨1, 0, 0, 0, 0⟩) (y := ⟨3, 0, 0, 0, 0⟩) (by decide)) (lst (x := ⟨1, 0, 0, 0, 0⟩) _ (by unfold Nm.wide; decide) (by decide) (by kernel_rfl)) (lst (x := ⟨3, 0, 0, 0, 0⟩) _ (by unfold Nm.wide; decide) (by decide) (by kernel_rfl))
    (wth (x := ⟨1, 0, 0, 0, 0⟩) true (by decide)) (wth (x := ⟨3, 0, 0, 0, 0⟩) true (by decide)) hb
theorem aw_t (w : World) (hN : NamesAre w) (htab : Lib.TabIs Tryd.prog w "internal/strconv.uint64pow10" .u64 Lib.pow10Tab) :
    Calls Tryd.prog 31 #[nv 0 1 (-2) (-1) 0] w (Gives (.tuple #[.string { data := #[119, 45, 50, 119, 50, 45, 119, 51] }, .int .i64 0]) w) := by
  have h := Print_any 0 1 (-2) (-1) 0 w hN htab
  rw [show (Value.tuple #[.string (if chk 0 1 (-2) (-1) 0 = 0 then printT (Nm.least ⟨0, 1, -2, -1, 0⟩) else { data := #[] }), .int .i64 (chk 0 1 (-2) (-1) 0)]) = .tuple #[.string { data := #[119, 45, 50, 119, 50, 45, 119, 51] }, .int .i64 0] by kernel_rfl] at h
  exact h
theorem aw_v (w : World) (hN : NamesAre w) (hV : CutVar w) (htab : Lib.TabIs Tryd.prog w "internal/strconv.uint64pow10" .u64 Lib.pow10Tab) :
    Calls Tryd.prog 32 #[.string { data := #[40, 49, 41, 47, 114, 49] }] w (Gives (.tuple #[nv 1 0 0 0 1, .int .i64 0]) w) := by
  have h := Parse_any { data := #[40, 49, 41, 47, 114, 49] } w (by decide) hN hV htab
  rw [show parseV { data := #[40, 49, 41, 47, 114, 49] } = .tuple #[nv 1 0 0 0 1, .int .i64 0] by kernel_rfl] at h
  exact h
end Go.Proofs.YtohadcaapmnlaaaDoor
