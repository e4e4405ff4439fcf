/- The reference's Norm. -/
import Derived.Test.YtcdmcndjbajhlaaGreatDoorLt
import Derived.Test.YtcdmcndjbajhlaaGreatDoorJp
import Derived.Test.YtcdmcndjbajhlaaGreatDoorJi
import Derived.Test.YtcdmcndjbajhlaaGreatDoorJr
import Derived.Test.YtcdmcndjbajhlaaGreatDoorDv
import Derived.Test.YtcdmcndjbajhlaaGreatDoorBy
import Derived.Test.YtcdmcndjbajhlaaGreatDoorJc
set_option linter.all false
set_option maxRecDepth 100000
namespace Go.Proofs.YtcdmcndjbajhlaaGreatDoor
open Go.RowKit

theorem lifts_any (x : Nm) (k : Int) (hx : x.le 1073741824) (hK : -1000 ≤ x.K ∧ x.K ≤ 1000) (hk : -1000 ≤ k ∧ k ≤ 1000) (h60 : k - x.K ≤ 60) : Lifts x k :=
  fun w b T hb => lift_any x k b T w hx hK hk hb h60
theorem lifts_two {A B C D K a b c d k : Int} (h : chk2 ⟨A, B, C, D, K⟩ ⟨a, b, c, d, k⟩ = 0) : Lifts ⟨A, B, C, D, K⟩ (max K k) ∧ Lifts ⟨a, b, c, d, k⟩ (max K k) ∧ Lifts (negN ⟨a, b, c, d, k⟩) (max K k) := by
  obtain ⟨h1, h2⟩ := chk2_ok h
  have k1 := chk_ok h1
  have k2 := chk_ok h2
  dsimp only at k1 k2
  refine ⟨lifts_any _ _ (right_le h1) ?_ ?_ ?_, lifts_any _ _ (right_le h2) ?_ ?_ ?_, lifts_any _ _ (negN_le (right_le h2)) ?_ ?_ ?_⟩ <;> (try simp only [negN]) <;> omega
theorem Sub_any (A B C D K a b c d k : Int) (w : World) :
    Calls Tryz.prog 46 #[nv A B C D K, nv a b c d k] w (Gives (.tuple #[(jointN ⟨A, B, C, D, K⟩ ⟨a, b, c, d, k⟩ (subN ⟨A, B, C, D, K⟩ ⟨a, b, c, d, k⟩)).v, .int .i64 (jointE ⟨A, B, C, D, K⟩ ⟨a, b, c, d, k⟩ (subN ⟨A, B, C, D, K⟩ ⟨a, b, c, d, k⟩))]) w) :=
  Sub_of A B C D K a b c d k w fun h => ⟨(lifts_two h).1, (lifts_two h).2.2⟩

/-- Is it real? -/
def realN (x : Nm) : Bool := eq4 x.A x.B x.C x.D x.A (-x.D) (-x.C) (-x.B)
set_option maxHeartbeats 1000000 in
theorem Real_bad (A B C D K : Int) (w : World) (hq : (chk A B C D K != 0) = true) :
    Calls Tryz.prog 57 #[nv A B C D K] w (Gives (.tuple #[.bool false, .int .i64 (chk A B C D K)]) w) := by
  have HC : Hid (∀ w, Calls Tryz.prog 15 #[nv A B C D K] w (Gives (.int .i64 (chk A B C D K)) w)) := fun w => check_any A B C D K w
  generalize chk A B C D K = q at *
  go_enter Tryz.func57, Tryz.ntmps57
  go_wp2_with fail
  refine (HC.out _).mono ?_
  rintro e w1 ⟨rfl, hb⟩
  obtain ⟨hc, hf⟩ := bcell hb
  go_wp2_with fail
  go_ret2
  exact ⟨rfl, (by repeat (first | with_reducible exact Below.refl _ _ | with_reducible refine below_al ?_ _ | with_reducible refine below_dN ?_ _ | with_reducible refine Below.drew ?_ | (with_reducible refine Below.setCell ?_ (by simp <;> omega) _) | (with_reducible refine below_via (by assumption) ?_)))⟩
set_option maxHeartbeats 1000000 in
theorem Real_ok (A B C D K : Int) (w : World) (h : chk A B C D K = 0) :
    Calls Tryz.prog 57 #[nv A B C D K] w (Gives (.tuple #[.bool (realN ⟨A, B, C, D, K⟩), .int .i64 0]) w) := by
  have HC : Hid (∀ w, Calls Tryz.prog 15 #[nv A B C D K] w (Gives (.int .i64 0) w)) := fun w => by rw [← h]; exact check_any A B C D K w
  have HR : Hid (∀ w, Calls Tryz.prog 79 #[nv A B C D K] w (Gives (.bool (realN ⟨A, B, C, D, K⟩)) w)) := fun w => real_core A B C D K w (right_wide h)
  clear h
  generalize realN ⟨A, B, C, D, K⟩ = q at *
  go_enter Tryz.func57, Tryz.ntmps57
  go_wp2_with fail
  refine (HC.out _).mono ?_
  rintro e w1 ⟨rfl, hb⟩
  obtain ⟨hc, hf⟩ := bcell hb
  go_wp2_with fail
  refine (HR.out _).mono ?_
  rintro e w2 ⟨rfl, hb2⟩
  obtain ⟨hc2, hf2⟩ := bcell hb2
  go_wp2_with fail
  go_ret2
  exact ⟨rfl, (by repeat (first | with_reducible exact Below.refl _ _ | with_reducible refine below_al ?_ _ | with_reducible refine below_dN ?_ _ | with_reducible refine Below.drew ?_ | (with_reducible refine Below.setCell ?_ (by simp <;> omega) _) | (with_reducible refine below_via (by assumption) ?_)))⟩
theorem Real_any (A B C D K : Int) (w : World) :
    Calls Tryz.prog 57 #[nv A B C D K] w (Gives (.tuple #[.bool (if chk A B C D K = 0 then realN ⟨A, B, C, D, K⟩ else false), .int .i64 (chk A B C D K)]) w) := by
  by_cases h : chk A B C D K = 0
  · rw [if_pos h, h]; exact Real_ok A B C D K w h
  · rw [if_neg h]; exact Real_bad A B C D K w (bne_iff_ne.2 h)

theorem Less_bad0 (A B C D K a b c d k : Int) (w : World) (hq : (chk2 ⟨A, B, C, D, K⟩ ⟨a, b, c, d, k⟩ != 0) = true) :
    Calls Tryz.prog 35 #[nv A B C D K, nv a b c d k] w (Gives (.tuple #[.bool false, .int .i64 (chk2 ⟨A, B, C, D, K⟩ ⟨a, b, c, d, k⟩)]) w) := by
  have HC2 : Hid (∀ w, Calls Tryz.prog 78 #[nv A B C D K, nv a b c d k] w (Gives (.int .i64 (chk2 ⟨A, B, C, D, K⟩ ⟨a, b, c, d, k⟩)) w)) := fun w => checked_any A B C D K a b c d k w
  generalize chk2 ⟨A, B, C, D, K⟩ ⟨a, b, c, d, k⟩ = q at *
  go_enter Tryz.func35, Tryz.ntmps35
  go_wp2_with fail
  refine (HC2.out _).mono ?_
  rintro e w1 ⟨rfl, hb⟩
  obtain ⟨hc, hf⟩ := bcell hb
  go_wp2_with fail
  go_ret2
  exact ⟨rfl, (by repeat (first | with_reducible exact Below.refl _ _ | with_reducible refine below_al ?_ _ | with_reducible refine below_dN ?_ _ | with_reducible refine Below.drew ?_ | (with_reducible refine Below.setCell ?_ (by simp <;> omega) _) | (with_reducible refine below_via (by assumption) ?_)))⟩
/-- What Less answers. -/
def lessN (x y : Nm) : Bool := if chk2 x y = 0 then (if realN x = true ∧ realN y = true then (if jointE x y (subN x y) = 0 then below0N (jointN x y (subN x y)).A (jointN x y (subN x y)).B else false) else false) else false
def lessE (x y : Nm) : Int := if chk2 x y = 0 then (if realN x = true ∧ realN y = true then jointE x y (subN x y) else 7) else chk2 x y
theorem joint_inb {x y z : Nm} (h2 : chk2 x y = 0) (h : jointE x y z = 0) : (jointN x y z).inb 1073741824 = true := by
  unfold jointE at h; unfold jointN
  rw [if_pos h2] at h ⊢
  unfold fitE at h; unfold fitN
  split at h
  · rename_i hc
    rw [if_pos hc]
    unfold Nm.chk chk at hc
    split at hc
    · omega
    · split at hc
      · assumption
      · omega
  · omega
theorem Less_any (A B C D K a b c d k : Int) (w : World) :
    Calls Tryz.prog 35 #[nv A B C D K, nv a b c d k] w (Gives (.tuple #[.bool (lessN ⟨A, B, C, D, K⟩ ⟨a, b, c, d, k⟩), .int .i64 (lessE ⟨A, B, C, D, K⟩ ⟨a, b, c, d, k⟩)]) w) := by
  unfold lessN lessE
  by_cases h : chk2 ⟨A, B, C, D, K⟩ ⟨a, b, c, d, k⟩ = 0
  · rw [if_pos h, if_pos h]
    obtain ⟨h1, h2⟩ := chk2_ok h
    have HC := checked_zero h
    have HR1 : Hid (∀ w, Calls Tryz.prog 79 #[nv A B C D K] w (Gives (.bool (realN ⟨A, B, C, D, K⟩)) w)) := fun w => real_core A B C D K w (right_wide h1)
    have HR2 : Hid (∀ w, Calls Tryz.prog 79 #[nv a b c d k] w (Gives (.bool (realN ⟨a, b, c, d, k⟩)) w)) := fun w => real_core a b c d k w (right_wide h2)
    have HS : Hid (∀ w, Calls Tryz.prog 46 #[nv A B C D K, nv a b c d k] w (Gives (.tuple #[(jointN ⟨A, B, C, D, K⟩ ⟨a, b, c, d, k⟩ (subN ⟨A, B, C, D, K⟩ ⟨a, b, c, d, k⟩)).v, .int .i64 (jointE ⟨A, B, C, D, K⟩ ⟨a, b, c, d, k⟩ (subN ⟨A, B, C, D, K⟩ ⟨a, b, c, d, k⟩))]) w)) := fun w => Sub_any A B C D K a b c d k w
    by_cases r1 : realN ⟨A, B, C, D, K⟩ = true
    · rw [r1] at HR1
      by_cases r2 : realN ⟨a, b, c, d, k⟩ = true
      · rw [r2] at HR2
        have hr := And.intro r1 r2
        rw [if_pos hr, if_pos hr]
        by_cases hq : jointE ⟨A, B, C, D, K⟩ ⟨a, b, c, d, k⟩ (subN ⟨A, B, C, D, K⟩ ⟨a, b, c, d, k⟩) = 0
        · have hi := joint_inb h hq
          rw [hq] at HS ⊢
          rw [if_pos rfl]
          exact Less_ok A B C D K a b c d k _ w HC HR1 HR2 HS hi
        · rw [if_neg hq]
          exact Less_bad3 A B C D K a b c d k _ _ w HC HR1 HR2 HS (bne_iff_ne.2 hq)
      · rw [Bool.not_eq_true] at r2
        rw [r2] at HR2
        have hr : ¬ (realN ⟨A, B, C, D, K⟩ = true ∧ realN ⟨a, b, c, d, k⟩ = true) := fun h => by rw [r2] at h; exact absurd h.2 (by decide)
        rw [if_neg hr, if_neg hr]
        exact Less_bad2 A B C D K a b c d k _ _ w HC HR1 HR2 HS
    · rw [Bool.not_eq_true] at r1
      rw [r1] at HR1
      have hr : ¬ (realN ⟨A, B, C, D, K⟩ = true ∧ realN ⟨a, b, c, d, k⟩ = true) := fun h => by rw [r1] at h; exact absurd h.1 (by decide)
      rw [if_neg hr, if_neg hr]
      exact Less_bad1 A B C D K a b c d k _ _ _ w HC HR1 HR2 HS
  · rw [if_neg h, if_neg h]
    exact Less_bad0 A B C D K a b c d k w (bne_iff_ne.2 h)
end Go.Proofs.YtcdmcndjbajhlaaGreatDoor
namespace Go.Proofs.YtcdmcndjbajhlaaGreatDoor
open Go.RowKit Go.Shelf

/-- A call that returns one value, whatever the world: below nothing has changed. -/
def Tells (f : FuncId) (args : Array Value) (v : Value) : Prop := ∀ w, Calls Tryz.prog f args w (Gives v w)
theorem Tells.of {f : FuncId} {args : Array Value} {v v' : Value} (h : ∀ w, Calls Tryz.prog f args w (Gives v w)) (he : v = v') : Tells f args v' := he ▸ h

theorem by_of (x y : Nm) (hx : x.le 4096) (hy : y.le 4096) (hK : 0 ≤ x.K ∧ x.K ≤ 60) (hk : 0 ≤ y.K ∧ y.K ≤ 60) (hp : 0 ≤ (mulN (normN y) (dotN (normN y))).A) :
    Tells 81 #[x.v, y.v] (byV (mulN (mulN x (conjN y)) (dotN (normN y))) (mulN (normN y) (dotN (normN y)))) := by
  intro w
  have hj : (conjN y).le 4096 := by unfold Nm.le conjN at *; dsimp only at *; omega
  have hn : (normN y).le 67108864 := mulN_le hy hj
  have hnK : (normN y).K = y.K + y.K := rfl
  have ht : (mulN x (conjN y)).le 67108864 := mulN_le hx hj
  have htK : (mulN x (conjN y)).K = x.K + y.K := rfl
  have he : (dotN (normN y)).le 67108864 := by
    unfold dotN; split <;> (unfold Nm.le at *; dsimp only at *; omega)
  have heK : (dotN (normN y)).K = y.K + y.K := by unfold dotN; split <;> rfl
  have hab : (mulN (mulN x (conjN y)) (dotN (normN y))).le 18014398509481984 := mulN_le ht he
  have hbe : (mulN (normN y) (dotN (normN y))).le 18014398509481984 := mulN_le hn he
  have hA := hbe.1
  refine by_core x.A x.B x.C x.D x.K y.A y.B y.C y.D y.K (normN y) (conjN y) (mulN x (conjN y)) (dotN (normN y)) _ _ w ?_ ?_ ?_ ?_ ?_ ?_ ⟨hp, hA.2⟩ hab ?_ ?_
  · exact fun w => norm_any _ _ _ _ _ 4096 w hy (by omega) (by omega) (by omega)
  · have h := le_wide hy (by omega)
    exact fun w => conjugate_any _ _ _ _ _ w h.2.1 h.2.2.1 h.2.2.2
  · exact fun w => times_any _ _ _ _ _ _ _ _ _ _ 4096 4096 w hx hj (by omega) (by omega) (by show -1000000 ≤ y.K ∧ y.K ≤ 1000000; omega)
  · exact fun w => dotted_any _ _ _ _ _ w (le_wide hn (by omega)) (by omega)
  · exact fun w => times_any _ _ _ _ _ _ _ _ _ _ 67108864 67108864 w ht he (by omega) (by omega) (by omega)
  · exact fun w => times_any _ _ _ _ _ _ _ _ _ _ 67108864 67108864 w hn he (by omega) (by omega) (by omega)
  · have e : (mulN (mulN x (conjN y)) (dotN (normN y))).K = (mulN x (conjN y)).K + (dotN (normN y)).K := rfl
    omega
  · have e : (mulN (normN y) (dotN (normN y))).K = (normN y).K + (dotN (normN y)).K := rfl
    omega

theorem aw_a : Tells 31 #[nv 2 0 0 0 2] (.tuple #[nv 1 0 0 0 0, .int .i64 0]) := .of (Least_any 2 0 0 0 2) (by kernel_rfl)
theorem aw_b : Tells 31 #[nv 1 0 1 0 1] (.tuple #[nv 0 1 0 0 0, .int .i64 0]) := .of (Least_any 1 0 1 0 1) (by kernel_rfl)
theorem aw_o : Tells 29 #[.int .i64 7] (nv 0 0 0 (-1) 0) := .of (Omega_any 7) (by kernel_rfl)
theorem aw_c : Tells 32 #[nv 0 1 0 0 0, nv 0 0 0 (-1) 0] (.tuple #[nv 1 0 0 0 0, .int .i64 0]) := .of (Mul_any 0 1 0 0 0 0 0 0 (-1) 0) (by kernel_rfl)
theorem aw_d : Tells 33 #[nv 1 0 0 0 1] (.tuple #[nv (-1) 0 0 0 1, .int .i64 0]) := .of (Dot_any 1 0 0 0 1) (by kernel_rfl)
theorem aw_i : Tells 34 #[nv 1 1 0 0 0] (.tuple #[nv 2 1 0 (-1) 0, .int .i64 0]) := .of (Norm_any 1 1 0 0 0) (by kernel_rfl)
theorem aw_r : Tells 37 #[nv 0 0 1 0 0, nv 0 (-1) 0 0 0] (.tuple #[.int .i64 5, .int .i64 0]) := .of (Phase_any 0 0 1 0 0 0 (-1) 0 0 0) (by kernel_rfl)
theorem chkd {x y : Nm} (h : (if x.chk = 0 then y.chk else x.chk) = 0) : Hid (∀ w, Calls Tryz.prog 78 #[x.v, y.v] w (Gives (.int .i64 0) w)) := fun w => h ▸ checked_any x.A x.B x.C x.D x.K y.A y.B y.C y.D y.K w
theorem rls {x : Nm} (b : Bool) (hx : x.wide) (h : eq4 x.A x.B x.C x.D x.A (-x.D) (-x.C) (-x.B) = b) : Hid (∀ w, Calls Tryz.prog 79 #[x.v] w (Gives (.bool b) w)) := fun w => h ▸ real_core x.A x.B x.C x.D x.K w hx
theorem wth {x : Nm} (b : Bool) (h : inb x.A x.B x.C x.D 4096 = b) : Hid (∀ w, Calls Tryz.prog 58 #[nv x.A x.B x.C x.D x.K, .int .i64 4096] w (Gives (.bool b) w)) := fun w => h ▸ within_any x.A x.B x.C x.D x.K 4096 w (by omega) (by omega)
theorem lst {x : Nm} (y : Nm) (hx : x.wide) (hK : 0 ≤ x.K ∧ x.K ≤ 1000) (h : x.least = y) : Hid (∀ w, Calls Tryz.prog 16 #[x.v] w (Gives y.v w)) := fun w => h ▸ least_any x.A x.B x.C x.D x.K w hx hK
theorem sub_at (x y r : Nm) (hx : x.chk = 0) (hy : y.chk = 0) (he1 : max x.K y.K ≤ x.K ∨ (max x.K y.K - x.K) % 2 = 0) (he2 : max x.K y.K ≤ y.K ∨ (max x.K y.K - y.K) % 2 = 0)
    (h : (Value.tuple #[(jointN x y (subN x y)).v, .int .i64 (jointE x y (subN x y))]) = .tuple #[r.v, .int .i64 0]) : Hid (∀ w, Calls Tryz.prog 46 #[x.v, y.v] w (Gives (.tuple #[r.v, .int .i64 0]) w)) := by
  intro w
  have hk := chk_ok (A := x.A) (B := x.B) (C := x.C) (D := x.D) (K := x.K) hx
  have hk2 := chk_ok (A := y.A) (B := y.B) (C := y.C) (D := y.D) (K := y.K) hy
  have h0 := Sub_of x.A x.B x.C x.D x.K y.A y.B y.C y.D y.K w (fun _ => ⟨lifts_even x _ (right_le hx) (by omega) (by omega) (by omega) he1, lifts_even (negN y) _ (negN_le (right_le hy)) (by have e : (negN y).K = y.K := rfl; omega) (by omega) (by have e : (negN y).K = y.K := rfl; omega) he2⟩)
  rw [h] at h0
  exact h0
theorem aw_k : Tells 35 #[nv 2 (-1) 0 1 0, nv 1 0 0 0 0] (.tuple #[.bool true, .int .i64 0]) :=
  .of (fun w => Less_ok 2 (-1) 0 1 0 1 0 0 0 0 ⟨1, -1, 0, 1, 0⟩ w (chkd (x := ⟨2, -1, 0, 1, 0⟩) (y := ⟨1, 0, 0, 0, 0⟩) (by decide)) (rls (x := ⟨2, -1, 0, 1, 0⟩) true (by unfold Nm.wide; decide) (by decide)) (rls (x := ⟨1, 0, 0, 0, 0⟩) true (by unfold Nm.wide; decide) (by decide))
    (sub_at ⟨2, -1, 0, 1, 0⟩ ⟨1, 0, 0, 0, 0⟩ ⟨1, -1, 0, 1, 0⟩ (by decide) (by decide) (by decide) (by decide) (by kernel_rfl)) (by show Nm.inb _ _ = true; decide)) (by kernel_rfl)
theorem aw_m : Tells 35 #[nv 2 (-1) 0 1 0, nv 1 0 0 0 2] (.tuple #[.bool false, .int .i64 0]) :=
  .of (fun w => Less_ok 2 (-1) 0 1 0 1 0 0 0 2 ⟨3, -2, 0, 2, 2⟩ w (chkd (x := ⟨2, -1, 0, 1, 0⟩) (y := ⟨1, 0, 0, 0, 2⟩) (by decide)) (rls (x := ⟨2, -1, 0, 1, 0⟩) true (by unfold Nm.wide; decide) (by decide)) (rls (x := ⟨1, 0, 0, 0, 2⟩) true (by unfold Nm.wide; decide) (by decide))
    (sub_at ⟨2, -1, 0, 1, 0⟩ ⟨1, 0, 0, 0, 2⟩ ⟨3, -2, 0, 2, 2⟩ (by decide) (by decide) (by decide) (by decide) (by kernel_rfl)) (by show Nm.inb _ _ = true; decide)) (by kernel_rfl)
theorem aw_n : Tells 36 #[nv 1 0 0 0 0, nv 1 1 0 0 0] (.tuple #[nv 0 1 (-1) 0 1, .int .i64 0]) := by
  intro w
  have hb := by_of ⟨1, 0, 0, 0, 0⟩ ⟨1, 1, 0, 0, 0⟩ (by unfold Nm.le; decide) (by unfold Nm.le; decide) (by decide) (by decide) (by decide)
  have hv : byV (mulN (mulN ⟨1, 0, 0, 0, 0⟩ (conjN ⟨1, 1, 0, 0, 0⟩)) (dotN (normN ⟨1, 1, 0, 0, 0⟩))) (mulN (normN ⟨1, 1, 0, 0, 0⟩) (dotN (normN ⟨1, 1, 0, 0, 0⟩))) = .tuple #[Nm.v ⟨1, -1, 1, -1, 2⟩, .bool true] := by kernel_rfl
  rw [hv] at hb
  have hs : Hid (∀ w, Calls Tryz.prog 82 #[nv 1 (-1) 1 (-1) 2] w (Gives (.tuple #[Nm.v ⟨0, 1, -1, 0, 1⟩, .int .i64 0]) w)) := fun w => by
    have h := settle_any 1 (-1) 1 (-1) 2 w (by unfold Nm.wide; decide) (by decide)
    rw [show (Value.tuple #[(fitN ⟨1, -1, 1, -1, 2⟩).v, .int .i64 (fitE ⟨1, -1, 1, -1, 2⟩)]) = .tuple #[Nm.v ⟨0, 1, -1, 0, 1⟩, .int .i64 0] by kernel_rfl] at h
    exact h
  exact Divide_ok 1 0 0 0 0 1 1 0 0 0 ⟨1, 0, 0, 0, 0⟩ ⟨1, 1, 0, 0, 0⟩ ⟨1, -1, 1, -1, 2⟩ ⟨0, 1, -1, 0, 1⟩ 0 w (chkd (x := ⟨1, 0, 0, 0, 0⟩) (y := ⟨1, 1, 0, 0, 0⟩) (by decide)) (lst (x := ⟨1, 0, 0, 0, 0⟩) _ (by unfold Nm.wide; decide) (by decide) (by kernel_rfl)) (lst (x := ⟨1, 1, 0, 0, 0⟩) _ (by unfold Nm.wide; decide) (by decide) (by kernel_rfl))
    (wth (x := ⟨1, 0, 0, 0, 0⟩) true (by decide)) (wth (x := ⟨1, 1, 0, 0, 0⟩) true (by decide)) hb hs
theorem aw_q : Tells 36 #[nv 1 0 0 0 0, nv 3 0 0 0 0] (.tuple #[nul.v, .int .i64 6]) := by
  intro w
  have hb := by_of ⟨1, 0, 0, 0, 0⟩ ⟨3, 0, 0, 0, 0⟩ (by unfold Nm.le; decide) (by unfold Nm.le; decide) (by decide) (by decide) (by decide)
  have hv : byV (mulN (mulN ⟨1, 0, 0, 0, 0⟩ (conjN ⟨3, 0, 0, 0, 0⟩)) (dotN (normN ⟨3, 0, 0, 0, 0⟩))) (mulN (normN ⟨3, 0, 0, 0, 0⟩) (dotN (normN ⟨3, 0, 0, 0, 0⟩))) = .tuple #[nul.v, .bool false] := by kernel_rfl
  rw [hv] at hb
  exact Divide_none 1 0 0 0 0 3 0 0 0 0 ⟨1, 0, 0, 0, 0⟩ ⟨3, 0, 0, 0, 0⟩ nul nul 0 w (chkd (x := ⟨1, 0, 0, 0, 0⟩) (y := ⟨3, 0, 0, 0, 0⟩) (by decide)) (lst (x := ⟨1, 0, 0, 0, 0⟩) _ (by unfold Nm.wide; decide) (by decide) (by kernel_rfl)) (lst (x := ⟨3, 0, 0, 0, 0⟩) _ (by unfold Nm.wide; decide) (by decide) (by kernel_rfl))
    (wth (x := ⟨1, 0, 0, 0, 0⟩) true (by decide)) (wth (x := ⟨3, 0, 0, 0, 0⟩) true (by decide)) hb
theorem aw_t (w : World) (hN : NamesAre w) (htab : Lib.TabIs Tryz.prog w "internal/strconv.uint64pow10" .u64 Lib.pow10Tab) :
    Calls Tryz.prog 6 #[nv 0 1 (-2) (-1) 0] w (Gives (.tuple #[.string { data := #[119, 45, 50, 119, 50, 45, 119, 51] }, .int .i64 0]) w) := by
  have h := Print_any 0 1 (-2) (-1) 0 w hN htab
  rw [show (Value.tuple #[.string (if chk 0 1 (-2) (-1) 0 = 0 then printT (Nm.least ⟨0, 1, -2, -1, 0⟩) else { data := #[] }), .int .i64 (chk 0 1 (-2) (-1) 0)]) = .tuple #[.string { data := #[119, 45, 50, 119, 50, 45, 119, 51] }, .int .i64 0] by kernel_rfl] at h
  exact h
theorem aw_v (w : World) (hN : NamesAre w) (hV : CutVar w) (htab : Lib.TabIs Tryz.prog w "internal/strconv.uint64pow10" .u64 Lib.pow10Tab) :
    Calls Tryz.prog 22 #[.string { data := #[40, 49, 41, 47, 114, 49] }] w (Gives (.tuple #[nv 1 0 0 0 1, .int .i64 0]) w) := by
  have h := Parse_any { data := #[40, 49, 41, 47, 114, 49] } w (by decide) hN hV htab
  rw [show parseV { data := #[40, 49, 41, 47, 114, 49] } = .tuple #[nv 1 0 0 0 1, .int .i64 0] by kernel_rfl] at h
  exact h
end Go.Proofs.YtcdmcndjbajhlaaGreatDoor
namespace Go.Proofs.YtcdmcndjbajhlaaGreatDoor
open Go.RowKit

/-- The argument in its block, the result's block beside it: r once it is stored. -/
def Made (w : World) (bx br : Nat) (x r : Nm) (b : Bool) (W : World) : Prop := Below w.heap.size w W ∧ Box W bx 23 x ∧ Box W br 23 (if b = true then r else nul)
theorem Made.call {w W W' : World} {bx br : Nat} {x r : Nm} {b : Bool} (h : Made w bx br x r b W) (hb : Below W.heap.size W W') : Made w bx br x r b W' :=
  ⟨below_via hb h.1, h.2.1.below hb h.2.1.lt, h.2.2.below hb h.2.2.lt⟩
theorem Made.store {w W : World} {bx br : Nat} {x r : Nm} (h : Made w bx br x r false W) (hne : bx ≠ br) (hw : w.heap.size ≤ br) :
    Made w bx br x r true (((((W.setCell ⟨br, 0, none⟩ (.int .i64 r.A)).setCell ⟨br, 1, none⟩ (.int .i64 r.B)).setCell ⟨br, 2, none⟩ (.int .i64 r.C)).setCell ⟨br, 3, none⟩ (.int .i64 r.D)).setCell ⟨br, 4, none⟩ (.int .i64 r.K)) :=
  ⟨((((h.1.setCell hw _).setCell hw _).setCell hw _).setCell hw _).setCell hw _, ((((h.2.1.other hne).other hne).other hne).other hne).other hne, by rw [if_pos rfl]; exact box_cells h.2.2 r⟩

/-- What the reference's Norm returns. -/
def normV (x : Nm) : Value := .tuple #[(if x.chk = 0 then fitN (normN x) else nul).v, .int .i64 (if x.chk = 0 then fitE (normN x) else x.chk)]
theorem conjN_le {x : Nm} {M : Int} (h : x.le M) : (conjN x).le M := by unfold Nm.le conjN at *; dsimp only at *; omega

set_option maxHeartbeats 2000000 in
theorem r_Norm (x : Nm) (w : World) : Calls Tryz.prog 50 #[x.v] w (Gives (normV x) w) := by
  have HC : Hid (∀ w, Calls Tryz.prog 41 #[x.v] w (Gives (.int .i64 x.chk) w)) := fun w => r_check _ _ _ _ _ w
  unfold normV
  by_cases h : x.chk = 0
  · have hk := chk_ok (A := x.A) (B := x.B) (C := x.C) (D := x.D) (K := x.K) h
    have hw : x.wide := right_wide h
    have hl : x.le 1073741824 := right_le h
    have hlc := conjN_le hl
    have HJ : Hid (∀ w, Calls Tryz.prog 91 #[x.v] w (Gives (conjN x).v w)) := fun w => r_conjugate _ _ _ _ _ w hw
    have HP : Hid (∀ w, Calls Tryz.prog 88 #[x.v, (conjN x).v] w (Gives (normN x).v w)) := fun w => r_product x (conjN x) _ _ w hl hlc (by omega) (by omega) (by have e : (conjN x).K = x.K := rfl; omega)
    have HF : Hid (∀ w, Calls Tryz.prog 86 #[(normN x).v] w (Gives (.tuple #[(fitN (normN x)).v, .int .i64 (fitE (normN x))]) w)) := fun w => r_fits _ w (le_wide (mulN_le hl hlc) (by omega)) (by have e : (normN x).K = x.K + x.K := rfl; omega)
    rw [if_pos h, if_pos h]
    rw [h] at HC
    generalize fitN (normN x) = r at *
    generalize fitE (normN x) = q at *
    generalize normN x = n at *
    generalize conjN x = j at *
    clear h hk hw hl hlc
    go_enter Tryz.func50, Tryz.ntmps50
    go_wp2_with fail
    refine (HC.out _).mono ?_
    rintro e w1 ⟨rfl, hb⟩
    have hM : Made w w.heap.size (w.heap.size + 1) x r false w1 := by
      refine ⟨below_via hb (by repeat (first | with_reducible exact Below.refl _ _ | with_reducible refine below_al ?_ _ | with_reducible refine below_dN ?_ _ | with_reducible refine Below.drew ?_ | (with_reducible refine Below.setCell ?_ (by simp <;> omega) _) | (with_reducible refine below_via (by assumption) ?_))), (box_al (box_new w _ _ _ _ _ _) _).below hb (by simp <;> omega), ?_⟩
      rw [if_neg (by simp)]
      have h := box_new (w.alloc (.cells #[.int .i64 x.A, .int .i64 x.B, .int .i64 x.C, .int .i64 x.D, .int .i64 x.K] 23)) 0 0 0 0 0 23
      rw [World.size_alloc] at h
      exact h.below hb (by simp <;> omega)
    have HM := Lib.hid hM
    clear hM hb
    go_wp2_with fail
    refine region_store (Made w w.heap.size (w.heap.size + 1) x r) 7 11 [x.v, x.v, j.v, n.v, .tuple #[r.v, .int .i64 q], r.v, .int .i64 q] 3 (.int .i64 q) (by kernel_rfl) (by kernel_rfl) (by kernel_rfl) (by kernel_rfl) (by kernel_rfl) (HM.out.call (below_dN (Below.refl _ _) 1)) ?_ ?_
    · intro w' hC
      rename_i hK
      refine hK _ _ ?_
      refine wp_ret ?_
      have hz := hC.2.2
      rw [if_pos rfl] at hz
      obtain ⟨z0, z1, z2, z3, z4⟩ := hz.cell
      exact bodyPost_ret (v := .tuple #[r.v, .int .i64 q]) (by simp [results, Tryz.results50, go_sem, finA, z0, z1, z2, z3, z4]) rfl ⟨rfl, hC.1⟩
    refine eachOp_cons (okS_load (by kernel_rfl) (by kernel_rfl) (by kernel_rfl) (fun _ _ hC => load_num (b := w.heap.size) (x := x) rfl (by kernel_rfl) hC.2.1)) ?_
    refine eachOp_cons (okS_load (by kernel_rfl) (by kernel_rfl) (by kernel_rfl) (fun _ _ hC => load_num (b := w.heap.size) (x := x) rfl (by kernel_rfl) hC.2.1)) ?_
    refine eachOp_cons (okS_call 91 #[x.v] (by kernel_rfl) (by kernel_rfl) (by kernel_rfl) (fun _ => by kernel_rfl) (fun _ w' hC => (HJ.out w').mono fun _ _ h => ⟨h.1, hC.call h.2⟩)) ?_
    refine eachOp_cons (okS_call 88 #[x.v, j.v] (by kernel_rfl) (by kernel_rfl) (by kernel_rfl) (fun _ => by kernel_rfl) (fun _ w' hC => (HP.out w').mono fun _ _ h => ⟨h.1, hC.call h.2⟩)) ?_
    refine eachOp_cons (okS_call 86 #[n.v] (by kernel_rfl) (by kernel_rfl) (by kernel_rfl) (fun _ => by kernel_rfl) (fun _ w' hC => (HF.out w').mono fun _ _ h => ⟨h.1, hC.call h.2⟩)) ?_
    refine eachOp_cons (okS_val (by kernel_rfl) (by kernel_rfl) (by kernel_rfl) (fun _ => by kernel_rfl)) ?_
    refine eachOp_cons (okS_val (by kernel_rfl) (by kernel_rfl) (by kernel_rfl) (fun _ => by kernel_rfl)) ?_
    refine eachOp_cons (okS_store (by kernel_rfl) (by kernel_rfl) (by kernel_rfl) rfl (fun W hC => ⟨_, store_num (b := w.heap.size + 1) (x := nul) (y := r) rfl (by kernel_rfl) (by kernel_rfl) (by have h := hC.2.2; rwa [if_neg (by simp)] at h), hC.store (by omega) (by omega)⟩)) ?_
    refine eachOp_cons (okS_val (by kernel_rfl) (by kernel_rfl) (by kernel_rfl) (fun _ => by kernel_rfl)) ?_
    exact eachOp_nil
  · rw [if_neg h, if_neg h]
    have h2 : (x.chk != 0) = true := bne_iff_ne.2 h
    generalize x.chk = q at *
    obtain ⟨A, B, C, D, K⟩ := x
    go_enter Tryz.func50, Tryz.ntmps50
    go_wp2_with fail
    refine (HC.out _).mono ?_
    rintro e w1 ⟨rfl, hb⟩
    obtain ⟨hc, hf⟩ := bcell hb
    go_wp2_with fail
    exact bodyPost_ret (v := .tuple #[nul.v, .int .i64 q]) (by simp [results, Tryz.results50, go_sem, hc]) rfl ⟨rfl, (by repeat (first | with_reducible exact Below.refl _ _ | with_reducible refine below_al ?_ _ | with_reducible refine below_dN ?_ _ | with_reducible refine Below.drew ?_ | (with_reducible refine Below.setCell ?_ (by simp <;> omega) _) | (with_reducible refine below_via (by assumption) ?_)))⟩
end Go.Proofs.YtcdmcndjbajhlaaGreatDoor
