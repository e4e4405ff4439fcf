/- The reference's decimal digits. -/
import Derived.Test.YtcdmcndjbajhlaaGreatDoorJv
import Derived.Test.YtcdmcndjbajhlaaGreatDoorDm
import Derived.Test.YtcdmcndjbajhlaaGreatDoorDv
import Derived.Test.YtcdmcndjbajhlaaGreatDoorJs
import Derived.Test.YtcdmcndjbajhlaaGreatDoorJu
import Derived.Test.YtcdmcndjbajhlaaGreatDoorJt
import Derived.Test.YtcdmcndjbajhlaaGreatDoorTx
set_option linter.all false
set_option maxRecDepth 100000
namespace Go.Proofs.YtcdmcndjbajhlaaGreatDoor
open Go.RowKit

set_option maxHeartbeats 4000000 in
theorem Divide_bad (A B C D K a b c d k : Int) (w : World) (hq : (chk2 ⟨A, B, C, D, K⟩ ⟨a, b, c, d, k⟩ != 0) = true) :
    Calls Tryz.prog 36 #[nv A B C D K, nv a b c d k] w (Gives (.tuple #[nul.v, .int .i64 (chk2 ⟨A, B, C, D, K⟩ ⟨a, b, c, d, k⟩)]) w) := by
  have HC2 : Hid (∀ w, Calls Tryz.prog 78 #[nv A B C D K, nv a b c d k] w (Gives (.int .i64 (chk2 ⟨A, B, C, D, K⟩ ⟨a, b, c, d, k⟩)) w)) := fun w => checked_any A B C D K a b c d k w
  generalize chk2 ⟨A, B, C, D, K⟩ ⟨a, b, c, d, k⟩ = q at *
  go_enter Tryz.func36, Tryz.ntmps36
  go_wp2_with fail
  refine (HC2.out _).mono ?_
  rintro e w1 ⟨rfl, hb⟩
  have b2 : Box w1 (w.heap.size + 1 + 1) 23 nul := by
    have h := box_new ((w.alloc (.cells #[.int .i64 A, .int .i64 B, .int .i64 C, .int .i64 D, .int .i64 K] 23)).alloc (.cells #[.int .i64 a, .int .i64 b, .int .i64 c, .int .i64 d, .int .i64 k] 23)) 0 0 0 0 0 23
    simp only [World.size_alloc] at h
    exact h.below hb (by simp)
  have hw1 : Below w.heap.size w w1 := (by repeat (first | with_reducible exact Below.refl _ _ | with_reducible refine below_al ?_ _ | with_reducible refine below_dN ?_ _ | with_reducible refine Below.drew ?_ | (with_reducible refine Below.setCell ?_ (by simp <;> omega) _) | (with_reducible refine below_via (by assumption) ?_)))
  have hlt2 := b2.lt
  obtain ⟨z0, z1, z2, z3, z4⟩ := b2.cell
  obtain ⟨f0, f1, f2, f3, f4⟩ := b2.free
  dsimp only at z0 z1 z2 z3 z4
  clear b2
  go_wp2
  exact bodyPost_ret (v := .tuple #[nul.v, .int .i64 q]) (by simp [results, Tryz.results36, go_sem, hlt2, z0, z1, z2, z3, z4]) rfl ⟨rfl, (by repeat (first | with_reducible exact Below.refl _ _ | with_reducible refine below_al ?_ _ | with_reducible refine below_dN ?_ _ | with_reducible refine Below.drew ?_ | (with_reducible refine Below.setCell ?_ (by simp <;> omega) _) | (with_reducible refine below_via (by assumption) ?_)))⟩

theorem byV_of (x y : Nm) : byV (abN x y) (mulN (normN y) (dotN (normN y))) = if bN y ≠ 0 ∧ goes x y then .tuple #[(quoN x y).v, .bool true] else noneV := by
  unfold byV
  show (if bN y = 0 then noneV else divV (abN x y) (mulN (normN y) (dotN (normN y))) (strip 64 (bN y) 0).1 (strip 64 (bN y) 0).2) = _
  by_cases h0 : bN y = 0
  · rw [if_pos h0, if_neg (by simp [h0])]
  · rw [if_neg h0]
    unfold divV
    by_cases hg : goes x y
    · have hg' := hg
      unfold goes at hg'
      rw [if_pos hg', if_pos ⟨h0, hg⟩]
      have e : (abN x y).K - (mulN (normN y) (dotN (normN y))).K + 2 * (strip 64 (bN y) 0).2 = x.K - y.K + 2 * (strip 64 (bN y) 0).2 := by
        rw [dot_norm, norm_form]
        unfold abN
        rw [dot_norm]
        show x.K + y.K + (y.K + y.K) - (y.K + y.K + (y.K + y.K)) + _ = _
        omega
      rw [e]
      rfl
    · have hg' := hg
      unfold goes at hg'
      rw [if_neg hg', if_neg (fun h => hg h.2)]

theorem tdiv_le {a o M : Int} (h : -M ≤ a ∧ a ≤ M) : -M ≤ a.tdiv o ∧ a.tdiv o ≤ M := by
  have h1 : (a.tdiv o).natAbs = a.natAbs / o.natAbs := Int.natAbs_tdiv a o
  have h2 : a.natAbs / o.natAbs ≤ a.natAbs := Nat.div_le_self _ _
  omega
theorem bN_le {y : Nm} (hy : y.le 4096) : bN y ≤ 18014398509481984 := by
  have hj : (conjN y).le 4096 := by unfold Nm.le conjN at *; dsimp only at *; omega
  have hn : (normN y).le 67108864 := mulN_le hy hj
  have he : (dotN (normN y)).le 67108864 := by
    unfold dotN; split <;> (unfold Nm.le at *; dsimp only at *; omega)
  have hbe : (mulN (normN y) (dotN (normN y))).le 18014398509481984 := mulN_le hn he
  exact hbe.1.2
theorem abN_le {x y : Nm} (hx : x.le 4096) (hy : y.le 4096) : (abN x y).le 18014398509481984 := by
  have hj : (conjN y).le 4096 := by unfold Nm.le conjN at *; dsimp only at *; omega
  have hn : (normN y).le 67108864 := mulN_le hy hj
  have ht : (mulN x (conjN y)).le 67108864 := mulN_le hx hj
  have he : (dotN (normN y)).le 67108864 := by
    unfold dotN; split <;> (unfold Nm.le at *; dsimp only at *; omega)
  exact mulN_le ht he
theorem quoN_le {x y : Nm} (hx : x.le 4096) (hy : y.le 4096) : (quoN x y).le 18014398509481984 := by
  obtain ⟨h1, h2, h3, h4⟩ := abN_le hx hy
  exact ⟨tdiv_le h1, tdiv_le h2, tdiv_le h3, tdiv_le h4⟩
theorem quoN_K {x y : Nm} (hy : y.le 4096) (h0 : bN y ≠ 0) : x.K - y.K ≤ (quoN x y).K ∧ (quoN x y).K ≤ x.K - y.K + 128 := by
  have h1 := bN_nonneg y
  have h2 := bN_le hy
  have h3 : (18014398509481984 : Int) < 2 ^ 64 := by decide
  have h := strip_of 64 (bN y) 0 (by omega) (by omega)
  show x.K - y.K ≤ x.K - y.K + 2 * (strip 64 (bN y) 0).2 ∧ x.K - y.K + 2 * (strip 64 (bN y) 0).2 ≤ _
  omega
theorem in_le {x : Nm} (h : x.inb 4096 = true) : x.le 4096 := by
  unfold Nm.inb inb at h
  rw [decide_eq_true_eq] at h
  unfold Nm.le
  omega

/-- What Divide gives of any two numbers. -/
def DivN (x y : Nm) : Nm := if chk2 x y = 0 then divN x.least y.least else nul
def DivE (x y : Nm) : Int := if chk2 x y = 0 then divE x.least y.least else chk2 x y
theorem Divide_any (A B C D K a b c d k : Int) (w : World) :
    Calls Tryz.prog 36 #[nv A B C D K, nv a b c d k] w (Gives (.tuple #[(DivN ⟨A, B, C, D, K⟩ ⟨a, b, c, d, k⟩).v, .int .i64 (DivE ⟨A, B, C, D, K⟩ ⟨a, b, c, d, k⟩)]) w) := by
  unfold DivN DivE
  by_cases h : chk2 ⟨A, B, C, D, K⟩ ⟨a, b, c, d, k⟩ = 0
  · rw [if_pos h, if_pos h]
    obtain ⟨h1, h2⟩ := chk2_ok h
    have HC := checked_zero h
    have hk1 := chk_ok (A := A) (B := B) (C := C) (D := D) (K := K) h1
    have hk2 := chk_ok (A := a) (B := b) (C := c) (D := d) (K := k) h2
    have HL1 := right_least h1
    have HL2 := right_least h2
    have hr := least_K (x := ⟨A, B, C, D, K⟩) (by show 0 ≤ K; omega)
    have hs := least_K (x := ⟨a, b, c, d, k⟩) (by show 0 ≤ k; omega)
    have hr2 : (Nm.least ⟨A, B, C, D, K⟩).K ≤ K := hr.2
    have hs2 : (Nm.least ⟨a, b, c, d, k⟩).K ≤ k := hs.2
    replace hr := hr.1
    replace hs := hs.1
    generalize Nm.least ⟨A, B, C, D, K⟩ = r at *
    generalize Nm.least ⟨a, b, c, d, k⟩ = s at *
    unfold divN divE
    by_cases i1 : r.inb 4096 = true
    · by_cases i2 : s.inb 4096 = true
      · have nn : ¬ ¬ (r.inb 4096 = true ∧ s.inb 4096 = true) := fun h => h ⟨i1, i2⟩
        rw [if_neg nn]
        have hb := by_of r s (in_le i1) (in_le i2) (by omega) (by omega) (bN_nonneg s)
        have hv := byV_of r s
        unfold abN at hv
        rw [hv] at hb
        by_cases hg : bN s ≠ 0 ∧ goes r s
        · rw [if_pos hg] at hb
          have hg2 : r.inb 4096 = true ∧ s.inb 4096 = true ∧ bN s ≠ 0 ∧ goes r s := ⟨i1, i2, hg⟩
          rw [if_pos hg, if_pos hg2]
          have hKq := quoN_K (x := r) (in_le i2) hg.1
          exact Divide_ok A B C D K a b c d k r s (quoN r s) _ _ w HC HL1 HL2 (wth true i1) (wth true i2) hb (fun w => settle_all _ w (le_wide (quoN_le (in_le i1) (in_le i2)) (by omega)) (by omega))
        · rw [if_neg hg] at hb
          have hg2 : ¬ (r.inb 4096 = true ∧ s.inb 4096 = true ∧ bN s ≠ 0 ∧ goes r s) := fun h => hg h.2.2
          rw [if_neg hg, if_neg hg2]
          exact Divide_none A B C D K a b c d k r s nul nul 0 w HC HL1 HL2 (wth true i1) (wth true i2) hb
      · have p1 : ¬ (r.inb 4096 = true ∧ s.inb 4096 = true) := fun h => i2 h.2
        have p2 : ¬ (r.inb 4096 = true ∧ s.inb 4096 = true ∧ bN s ≠ 0 ∧ goes r s) := fun h => i2 h.2.1
        rw [if_pos p1, if_neg p2]
        exact Divide_large2 A B C D K a b c d k r s nul nul 0 w HC HL1 HL2 (wth true i1) (wth false (Bool.eq_false_iff.2 i2))
    · have p1 : ¬ (r.inb 4096 = true ∧ s.inb 4096 = true) := fun h => i1 h.1
      have p2 : ¬ (r.inb 4096 = true ∧ s.inb 4096 = true ∧ bN s ≠ 0 ∧ goes r s) := fun h => i1 h.1
      rw [if_pos p1, if_neg p2]
      exact Divide_large1 A B C D K a b c d k r s nul nul 0 w HC HL1 HL2 (wth false (Bool.eq_false_iff.2 i1))
  · rw [if_neg h, if_neg h]
    exact Divide_bad A B C D K a b c d k w (bne_iff_ne.2 h)
end Go.Proofs.YtcdmcndjbajhlaaGreatDoor
namespace Go.Proofs.YtcdmcndjbajhlaaGreatDoor
open Go.RowKit Go.Shelf

set_option maxHeartbeats 8000000 in
theorem RingOrders_any (x y : Nm) (w : World) (hv : Vars w) : Calls Tryz.prog 14 #[x.v, y.v] w (Gives (.bool true) w) := by
  have HA : Hid (∀ w', Below w.heap.size w w' → Calls Tryz.prog 9 #[] w' (Gives (.bool true) w')) := fun w' hb => awake_below hv hb
  have H1 : Hid (∀ w, Calls Tryz.prog 54 #[x.v] w (Gives (.tuple #[.bool (if x.chk = 0 then realN x else false), .int .i64 x.chk]) w)) := fun w => r_Real x w
  have H2 : Hid (∀ w, Calls Tryz.prog 55 #[x.v, y.v] w (Gives (.tuple #[.bool (lessN x y), .int .i64 (lessE x y)]) w)) := fun w => r_Less x y w
  have H3 : Hid (∀ w, Calls Tryz.prog 56 #[x.v, y.v] w (Gives (.tuple #[.int .i64 (if chk2 x y = 0 then (phaseR x y).1 else 0), .int .i64 (if chk2 x y = 0 then (phaseR x y).2 else chk2 x y)]) w)) := fun w => r_Phase x y w
  have H4 : Hid (∀ w, Calls Tryz.prog 57 #[x.v] w (Gives (.tuple #[.bool (if x.chk = 0 then realN x else false), .int .i64 x.chk]) w)) := fun w => Real_any x.A x.B x.C x.D x.K w
  have H5 : Hid (∀ w, Calls Tryz.prog 35 #[x.v, y.v] w (Gives (.tuple #[.bool (lessN x y), .int .i64 (lessE x y)]) w)) := fun w => Less_any x.A x.B x.C x.D x.K y.A y.B y.C y.D y.K w
  have H6 : Hid (∀ w, Calls Tryz.prog 37 #[x.v, y.v] w (Gives (.tuple #[.int .i64 (if chk2 x y = 0 then (phaseR x y).1 else 0), .int .i64 (if chk2 x y = 0 then (phaseR x y).2 else chk2 x y)]) w)) := fun w => by
    have h := Phase_any x.A x.B x.C x.D x.K y.A y.B y.C y.D y.K w
    have e := phase_same x y
    rw [← e]
    exact h
  have G0 := Lib.hid (Got.two w x y)
  clear hv
  generalize (if x.chk = 0 then realN x else false) = r1 at *
  generalize x.chk = q1 at *
  generalize lessN x y = r2 at *
  generalize lessE x y = q2 at *
  generalize (if chk2 x y = 0 then (phaseR x y).1 else 0) = r3 at *
  generalize (if chk2 x y = 0 then (phaseR x y).2 else chk2 x y) = q3 at *
  go_enter Tryz.func14, Tryz.ntmps14
  go_wp2_with fail
  refine (H1.out _).mono ?_
  rintro e u1 ⟨rfl, hb⟩
  have g := G0.out.call hb
  obtain ⟨y0, y1, y2, y3, y4⟩ := (g.2 _ (.head _)).cell
  obtain ⟨x0, x1, x2, x3, x4⟩ := (g.2 _ (.tail _ (.head _))).cell
  have hlt := (g.2 _ (.head _)).lt
  have hlt0 := (g.2 _ (.tail _ (.head _))).lt
  dsimp only at x0 x1 x2 x3 x4 y0 y1 y2 y3 y4 hlt hlt0
  have G1 := Lib.hid g
  clear g hb G0
  go_wp2_with fail
  refine (H2.out _).mono ?_
  rintro e u2 ⟨rfl, hb⟩
  have g := G1.out.call hb
  clear x0 x1 x2 x3 x4 y0 y1 y2 y3 y4 hlt hlt0
  obtain ⟨y0, y1, y2, y3, y4⟩ := (g.2 _ (.head _)).cell
  obtain ⟨x0, x1, x2, x3, x4⟩ := (g.2 _ (.tail _ (.head _))).cell
  have hlt := (g.2 _ (.head _)).lt
  have hlt0 := (g.2 _ (.tail _ (.head _))).lt
  dsimp only at x0 x1 x2 x3 x4 y0 y1 y2 y3 y4 hlt hlt0
  have G2 := Lib.hid g
  clear g hb G1
  go_wp2_with fail
  refine (H3.out _).mono ?_
  rintro e u3 ⟨rfl, hb⟩
  have g := G2.out.call hb
  clear x0 x1 x2 x3 x4 y0 y1 y2 y3 y4 hlt hlt0
  obtain ⟨y0, y1, y2, y3, y4⟩ := (g.2 _ (.head _)).cell
  obtain ⟨x0, x1, x2, x3, x4⟩ := (g.2 _ (.tail _ (.head _))).cell
  have hlt := (g.2 _ (.head _)).lt
  have hlt0 := (g.2 _ (.tail _ (.head _))).lt
  dsimp only at x0 x1 x2 x3 x4 y0 y1 y2 y3 y4 hlt hlt0
  have G3 := Lib.hid g
  clear g hb G2
  go_wp2_with fail
  refine (H4.out _).mono ?_
  rintro e u4 ⟨rfl, hb⟩
  have g := G3.out.call hb
  clear x0 x1 x2 x3 x4 y0 y1 y2 y3 y4 hlt hlt0
  obtain ⟨y0, y1, y2, y3, y4⟩ := (g.2 _ (.head _)).cell
  obtain ⟨x0, x1, x2, x3, x4⟩ := (g.2 _ (.tail _ (.head _))).cell
  have hlt := (g.2 _ (.head _)).lt
  have hlt0 := (g.2 _ (.tail _ (.head _))).lt
  dsimp only at x0 x1 x2 x3 x4 y0 y1 y2 y3 y4 hlt hlt0
  have G4 := Lib.hid g
  clear g hb G3
  go_wp2_with fail
  refine (H5.out _).mono ?_
  rintro e u5 ⟨rfl, hb⟩
  have g := G4.out.call hb
  clear x0 x1 x2 x3 x4 y0 y1 y2 y3 y4 hlt hlt0
  obtain ⟨y0, y1, y2, y3, y4⟩ := (g.2 _ (.head _)).cell
  obtain ⟨x0, x1, x2, x3, x4⟩ := (g.2 _ (.tail _ (.head _))).cell
  have hlt := (g.2 _ (.head _)).lt
  have hlt0 := (g.2 _ (.tail _ (.head _))).lt
  dsimp only at x0 x1 x2 x3 x4 y0 y1 y2 y3 y4 hlt hlt0
  have G5 := Lib.hid g
  clear g hb G4
  go_wp2_with fail
  refine (H6.out _).mono ?_
  rintro e u6 ⟨rfl, hb⟩
  have g := G5.out.call hb
  clear x0 x1 x2 x3 x4 y0 y1 y2 y3 y4 hlt hlt0
  have G6 := Lib.hid g
  clear g hb G5
  have hq1 : (q1 == q1) = true := by simp
  have hq2 : (q2 == q2) = true := by simp
  have hq3 : (q3 == q3) = true := by simp
  have hr1 : (r1 == r1) = true := by simp
  have hr2 : (r2 == r2) = true := by simp
  have hr3 : (r3 == r3) = true := by simp
  go_wp2_with fail
  refine (HA.out _ G6.out.1).mono ?_
  rintro e u9 ⟨rfl, hb⟩
  go_wp2_with fail
  go_ret
  exact ⟨rfl, below_via hb G6.out.1⟩
end Go.Proofs.YtcdmcndjbajhlaaGreatDoor
namespace Go.Proofs.YtcdmcndjbajhlaaGreatDoor
open Go.RowKit Go.Shelf

set_option maxHeartbeats 8000000 in
theorem RingAdds_any (x y : Nm) (w : World) (hv : Vars w) : Calls Tryz.prog 11 #[x.v, y.v] w (Gives (.bool true) w) := by
  have HA : Hid (∀ w', Below w.heap.size w w' → Calls Tryz.prog 9 #[] w' (Gives (.bool true) w')) := fun w' hb => awake_below hv hb
  have H1 : Hid (∀ w, Calls Tryz.prog 42 #[x.v, y.v] w (Gives (.tuple #[(jointN x y (addN x y)).v, .int .i64 (jointE x y (addN x y))]) w)) := fun w => r_Add x y w
  have H2 : Hid (∀ w, Calls Tryz.prog 43 #[x.v, y.v] w (Gives (.tuple #[(jointN x y (subN x y)).v, .int .i64 (jointE x y (subN x y))]) w)) := fun w => r_Sub x y w
  have H3 : Hid (∀ w, Calls Tryz.prog 44 #[x.v, y.v] w (Gives (.tuple #[(jointN x y (mulN x y)).v, .int .i64 (jointE x y (mulN x y))]) w)) := fun w => r_Mul x y w
  have H4 : Hid (∀ w, Calls Tryz.prog 45 #[x.v, y.v] w (Gives (.tuple #[(jointN x y (addN x y)).v, .int .i64 (jointE x y (addN x y))]) w)) := fun w => Add_any x.A x.B x.C x.D x.K y.A y.B y.C y.D y.K w
  have H5 : Hid (∀ w, Calls Tryz.prog 46 #[x.v, y.v] w (Gives (.tuple #[(jointN x y (subN x y)).v, .int .i64 (jointE x y (subN x y))]) w)) := fun w => Sub_any x.A x.B x.C x.D x.K y.A y.B y.C y.D y.K w
  have H6 : Hid (∀ w, Calls Tryz.prog 32 #[x.v, y.v] w (Gives (.tuple #[(jointN x y (mulN x y)).v, .int .i64 (jointE x y (mulN x y))]) w)) := fun w => Mul_any x.A x.B x.C x.D x.K y.A y.B y.C y.D y.K w
  have G0 := Lib.hid (Got.two w x y)
  clear hv
  generalize jointN x y (addN x y) = r1 at *
  generalize jointE x y (addN x y) = q1 at *
  generalize jointN x y (subN x y) = r2 at *
  generalize jointE x y (subN x y) = q2 at *
  generalize jointN x y (mulN x y) = r3 at *
  generalize jointE x y (mulN x y) = q3 at *
  go_enter Tryz.func11, Tryz.ntmps11
  go_wp2_with fail
  refine (H1.out _).mono ?_
  rintro e u1 ⟨rfl, hb⟩
  have g := G0.out.call hb
  obtain ⟨y0, y1, y2, y3, y4⟩ := (g.2 _ (.head _)).cell
  obtain ⟨x0, x1, x2, x3, x4⟩ := (g.2 _ (.tail _ (.head _))).cell
  have hlt := (g.2 _ (.head _)).lt
  have hlt0 := (g.2 _ (.tail _ (.head _))).lt
  dsimp only at x0 x1 x2 x3 x4 y0 y1 y2 y3 y4 hlt hlt0
  have G1 := Lib.hid (g.box r1)
  clear g hb G0
  go_wp2_with fail
  clear x0 x1 x2 x3 x4 y0 y1 y2 y3 y4 hlt hlt0
  refine (H2.out _).mono ?_
  rintro e u2 ⟨rfl, hb⟩
  have g := G1.out.call hb
  obtain ⟨y0, y1, y2, y3, y4⟩ := (g.2 _ (.tail _ (.head _))).cell
  obtain ⟨x0, x1, x2, x3, x4⟩ := (g.2 _ (.tail _ (.tail _ (.head _)))).cell
  have hlt := (g.2 _ (.tail _ (.head _))).lt
  have hlt0 := (g.2 _ (.tail _ (.tail _ (.head _)))).lt
  dsimp only at x0 x1 x2 x3 x4 y0 y1 y2 y3 y4 hlt hlt0
  have G2 := Lib.hid (g.box r2)
  clear g hb G1
  go_wp2_with fail
  clear x0 x1 x2 x3 x4 y0 y1 y2 y3 y4 hlt hlt0
  refine (H3.out _).mono ?_
  rintro e u3 ⟨rfl, hb⟩
  have g := G2.out.call hb
  obtain ⟨y0, y1, y2, y3, y4⟩ := (g.2 _ (.tail _ (.tail _ (.head _)))).cell
  obtain ⟨x0, x1, x2, x3, x4⟩ := (g.2 _ (.tail _ (.tail _ (.tail _ (.head _))))).cell
  have hlt := (g.2 _ (.tail _ (.tail _ (.head _)))).lt
  have hlt0 := (g.2 _ (.tail _ (.tail _ (.tail _ (.head _))))).lt
  dsimp only at x0 x1 x2 x3 x4 y0 y1 y2 y3 y4 hlt hlt0
  have G3 := Lib.hid (g.box r3)
  clear g hb G2
  go_wp2_with fail
  clear x0 x1 x2 x3 x4 y0 y1 y2 y3 y4 hlt hlt0
  refine (H4.out _).mono ?_
  rintro e u4 ⟨rfl, hb⟩
  have g := G3.out.call hb
  obtain ⟨y0, y1, y2, y3, y4⟩ := (g.2 _ (.tail _ (.tail _ (.tail _ (.head _))))).cell
  obtain ⟨x0, x1, x2, x3, x4⟩ := (g.2 _ (.tail _ (.tail _ (.tail _ (.tail _ (.head _)))))).cell
  have hlt := (g.2 _ (.tail _ (.tail _ (.tail _ (.head _))))).lt
  have hlt0 := (g.2 _ (.tail _ (.tail _ (.tail _ (.tail _ (.head _)))))).lt
  dsimp only at x0 x1 x2 x3 x4 y0 y1 y2 y3 y4 hlt hlt0
  have G4 := Lib.hid (g.box r1)
  clear g hb G3
  go_wp2_with fail
  clear x0 x1 x2 x3 x4 y0 y1 y2 y3 y4 hlt hlt0
  refine (H5.out _).mono ?_
  rintro e u5 ⟨rfl, hb⟩
  have g := G4.out.call hb
  obtain ⟨y0, y1, y2, y3, y4⟩ := (g.2 _ (.tail _ (.tail _ (.tail _ (.tail _ (.head _)))))).cell
  obtain ⟨x0, x1, x2, x3, x4⟩ := (g.2 _ (.tail _ (.tail _ (.tail _ (.tail _ (.tail _ (.head _))))))).cell
  have hlt := (g.2 _ (.tail _ (.tail _ (.tail _ (.tail _ (.head _)))))).lt
  have hlt0 := (g.2 _ (.tail _ (.tail _ (.tail _ (.tail _ (.tail _ (.head _))))))).lt
  dsimp only at x0 x1 x2 x3 x4 y0 y1 y2 y3 y4 hlt hlt0
  have G5 := Lib.hid (g.box r2)
  clear g hb G4
  go_wp2_with fail
  clear x0 x1 x2 x3 x4 y0 y1 y2 y3 y4 hlt hlt0
  refine (H6.out _).mono ?_
  rintro e u6 ⟨rfl, hb⟩
  have g := G5.out.call hb
  obtain ⟨b50, b51, b52, b53, b54⟩ := (g.2 _ (.head _)).cell
  have lt5 := (g.2 _ (.head _)).lt
  dsimp only at b50 b51 b52 b53 b54 lt5
  obtain ⟨b40, b41, b42, b43, b44⟩ := (g.2 _ (.tail _ (.head _))).cell
  have lt4 := (g.2 _ (.tail _ (.head _))).lt
  dsimp only at b40 b41 b42 b43 b44 lt4
  obtain ⟨b30, b31, b32, b33, b34⟩ := (g.2 _ (.tail _ (.tail _ (.head _)))).cell
  have lt3 := (g.2 _ (.tail _ (.tail _ (.head _)))).lt
  dsimp only at b30 b31 b32 b33 b34 lt3
  obtain ⟨b20, b21, b22, b23, b24⟩ := (g.2 _ (.tail _ (.tail _ (.tail _ (.head _))))).cell
  have lt2 := (g.2 _ (.tail _ (.tail _ (.tail _ (.head _))))).lt
  dsimp only at b20 b21 b22 b23 b24 lt2
  obtain ⟨b10, b11, b12, b13, b14⟩ := (g.2 _ (.tail _ (.tail _ (.tail _ (.tail _ (.head _)))))).cell
  have lt1 := (g.2 _ (.tail _ (.tail _ (.tail _ (.tail _ (.head _)))))).lt
  dsimp only at b10 b11 b12 b13 b14 lt1
  have G6 := Lib.hid (g.box r3)
  clear g hb G5
  have hq1 : (q1 == q1) = true := by simp
  have hq2 : (q2 == q2) = true := by simp
  have hq3 : (q3 == q3) = true := by simp
  go_wp2_with fail
  refine (HA.out _ G6.out.1).mono ?_
  rintro e u9 ⟨rfl, hb⟩
  go_wp2_with fail
  go_ret
  exact ⟨rfl, below_via hb G6.out.1⟩
end Go.Proofs.YtcdmcndjbajhlaaGreatDoor
namespace Go.Proofs.YtcdmcndjbajhlaaGreatDoor
open Go.RowKit

theorem digit_one : ∀ i : Fin 10, (ByteArray.extract { data := #[48, 49, 50, 51, 52, 53, 54, 55, 56, 57] } i.val (i.val + 1)) = ⟨(Lib.decDigits i.val).toArray⟩ := by decide +kernel
set_option maxHeartbeats 2000000 in
theorem r_digits (n : Nat) : ∀ (w : World), n ≤ 1099511627776 → Calls Tryz.prog 99 #[.int .i64 n] w (Gives (.string ⟨(Lib.decDigits n).toArray⟩) w) := by
  induction n using Nat.strongRecOn with
  | _ n ih =>
    intro w hn
    by_cases h : n < 10
    · have hd := digit_one ⟨n, h⟩
      dsimp only at hd
      rw [← hd]
      clear hd ih
      go_enter Tryz.func99, Tryz.ntmps99
      go_wp2_with fail
      go_ret
      exact ⟨rfl, (by repeat (first | with_reducible exact Below.refl _ _ | with_reducible refine below_al ?_ _ | with_reducible refine below_dN ?_ _ | with_reducible refine Below.drew ?_ | (with_reducible refine Below.setCell ?_ (by simp <;> omega) _) | (with_reducible refine below_via (by assumption) ?_)))⟩
    · have H1 : Hid (∀ w, Calls Tryz.prog 99 #[.int .i64 ((n / 10 : Nat) : Int)] w (Gives (.string ⟨(Lib.decDigits (n / 10)).toArray⟩) w)) := fun w => ih (n / 10) (by omega) w (by omega)
      have H2 : Hid (∀ w, Calls Tryz.prog 99 #[.int .i64 ((n % 10 : Nat) : Int)] w (Gives (.string ⟨(Lib.decDigits (n % 10)).toArray⟩) w)) := fun w => ih (n % 10) (by omega) w (by omega)
      have e1 : (n : Int) / 10 = ((n / 10 : Nat) : Int) := by omega
      have e2 : (n : Int) % 10 = ((n % 10 : Nat) : Int) := by omega
      rw [← e1] at H1
      rw [← e2] at H2
      have he : Lib.decDigits n = Lib.decDigits (n / 10) ++ Lib.decDigits (n % 10) := by
        have h2 := Lib.decDigits_one (i := n % 10) (by omega)
        rw [Lib.decDigits, dif_neg h, h2]
      have hlen : ¬ 9223372036854775807 < (Lib.decDigits (n / 10)).length + (Lib.decDigits (n % 10)).length := by
        rw [Lib.decDigits_length, Lib.decDigits_length]
        have h1 := Lib.nDigits_le20 (n / 10) (by omega)
        have h2 := Lib.nDigits_le20 (n % 10) (by omega)
        omega
      have he2 : (⟨(Lib.decDigits (n / 10)).toArray⟩ : ByteArray) ++ ⟨(Lib.decDigits (n % 10)).toArray⟩ = ⟨(Lib.decDigits n).toArray⟩ := list_inj (by rw [bytes_app, he])
      have HE := Lib.hid he2
      clear he2
      clear he e1 e2 ih
      go_enter Tryz.func99, Tryz.ntmps99
      go_wp2_with fail
      refine (H1.out _).mono ?_
      rintro e w1 ⟨rfl, hb⟩
      go_wp2_with fail
      refine (H2.out _).mono ?_
      rintro e w2 ⟨rfl, hb2⟩
      go_wp2_with fail
      go_ret
      rw [HE.out]
      exact ⟨rfl, (by repeat (first | with_reducible exact Below.refl _ _ | with_reducible refine below_al ?_ _ | with_reducible refine below_dN ?_ _ | with_reducible refine Below.drew ?_ | (with_reducible refine Below.setCell ?_ (by simp <;> omega) _) | (with_reducible refine below_via (by assumption) ?_)))⟩
end Go.Proofs.YtcdmcndjbajhlaaGreatDoor
