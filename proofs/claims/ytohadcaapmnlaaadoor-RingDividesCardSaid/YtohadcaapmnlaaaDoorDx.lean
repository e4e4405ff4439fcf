
/- The contract of ring.Divide, for all numbers. -/
import Derived.Test.YtohadcaapmnlaaaDoorSt
import Derived.Test.YtohadcaapmnlaaaDoorDm
import Derived.Test.YtohadcaapmnlaaaDoorDv
import Derived.Test.YtohadcaapmnlaaaDoorAx
set_option linter.all false
set_option maxRecDepth 100000
namespace Go.Proofs.YtohadcaapmnlaaaDoor
open Go.RowKit

set_option maxHeartbeats 4000000 in
theorem Divide_bad (A B C D K a b c d k : Int) (w : World) (hq : (chk2 ⟨A, B, C, D, K⟩ ⟨a, b, c, d, k⟩ != 0) = true) :
    Calls Tryd.prog 12 #[nv A B C D K, nv a b c d k] w (Gives (.tuple #[nul.v, .int .i64 (chk2 ⟨A, B, C, D, K⟩ ⟨a, b, c, d, k⟩)]) w) := by
  have HC2 : Hid (∀ w, Calls Tryd.prog 44 #[nv A B C D K, nv a b c d k] w (Gives (.int .i64 (chk2 ⟨A, B, C, D, K⟩ ⟨a, b, c, d, k⟩)) w)) := fun w => checked_any A B C D K a b c d k w
  generalize chk2 ⟨A, B, C, D, K⟩ ⟨a, b, c, d, k⟩ = q at *
  go_enter Tryd.func12, Tryd.ntmps12
  go_wp2_with fail
  refine (HC2.out _).mono ?_
  rintro e w1 ⟨rfl, hb⟩
  have b2 : Box w1 (w.heap.size + 1 + 1) 23 nul := by
    have h := box_new ((w.alloc (.cells #[.int .i64 A, .int .i64 B, .int .i64 C, .int .i64 D, .int .i64 K] 23)).alloc (.cells #[.int .i64 a, .int .i64 b, .int .i64 c, .int .i64 d, .int .i64 k] 23)) 0 0 0 0 0 23
    simp only [World.size_alloc] at h
    exact h.below hb (by simp)
  have hw1 : Below w.heap.size w w1 := (by repeat (first | with_reducible exact Below.refl _ _ | with_reducible refine below_al ?_ _ | with_reducible refine below_dN ?_ _ | with_reducible refine Below.drew ?_ | (with_reducible refine Below.setCell ?_ (by simp <;> omega) _) | (with_reducible refine below_via (by assumption) ?_)))
  have hlt2 := b2.lt
  obtain ⟨z0, z1, z2, z3, z4⟩ := b2.cell
  obtain ⟨f0, f1, f2, f3, f4⟩ := b2.free
  dsimp only at z0 z1 z2 z3 z4
  clear b2
  go_wp2
  exact bodyPost_ret (v := .tuple #[nul.v, .int .i64 q]) (by simp [results, Tryd.results12, go_sem, hlt2, z0, z1, z2, z3, z4]) rfl ⟨rfl, (by repeat (first | with_reducible exact Below.refl _ _ | with_reducible refine below_al ?_ _ | with_reducible refine below_dN ?_ _ | with_reducible refine Below.drew ?_ | (with_reducible refine Below.setCell ?_ (by simp <;> omega) _) | (with_reducible refine below_via (by assumption) ?_)))⟩

theorem byV_of (x y : Nm) : byV (abN x y) (mulN (normN y) (dotN (normN y))) = if bN y ≠ 0 ∧ goes x y then .tuple #[(quoN x y).v, .bool true] else noneV := by
  unfold byV
  show (if bN y = 0 then noneV else divV (abN x y) (mulN (normN y) (dotN (normN y))) (strip 64 (bN y) 0).1 (strip 64 (bN y) 0).2) = _
  by_cases h0 : bN y = 0
  · rw [if_pos h0, if_neg (by simp [h0])]
  · rw [if_neg h0]
    unfold divV
    by_cases hg : goes x y
    · have hg' := hg
      unfold goes at hg'
      rw [if_pos hg', if_pos ⟨h0, hg⟩]
      have e : (abN x y).K - (mulN (normN y) (dotN (normN y))).K + 2 * (strip 64 (bN y) 0).2 = x.K - y.K + 2 * (strip 64 (bN y) 0).2 := by
        rw [dot_norm, norm_form]
        unfold abN
        rw [dot_norm]
        show x.K + y.K + (y.K + y.K) - (y.K + y.K + (y.K + y.K)) + _ = _
        omega
      rw [e]
      rfl
    · have hg' := hg
      unfold goes at hg'
      rw [if_neg hg', if_neg (fun h => hg h.2)]

theorem tdiv_le {a o M : Int} (h : -M ≤ a ∧ a ≤ M) : -M ≤ a.tdiv o ∧ a.tdiv o ≤ M := by
  have h1 : (a.tdiv o).natAbs = a.natAbs / o.natAbs := Int.natAbs_tdiv a o
  have h2 : a.natAbs / o.natAbs ≤ a.natAbs := Nat.div_le_self _ _
  omega
theorem bN_le {y : Nm} (hy : y.le 4096) : bN y ≤ 18014398509481984 := by
  have hj : (conjN y).le 4096 := by unfold Nm.le conjN at *; dsimp only at *; omega
  have hn : (normN y).le 67108864 := mulN_le hy hj
  have he : (dotN (normN y)).le 67108864 := by
    unfold dotN; split <;> (unfold Nm.le at *; dsimp only at *; omega)
  have hbe : (mulN (normN y) (dotN (normN y))).le 18014398509481984 := mulN_le hn he
  exact hbe.1.2
theorem abN_le {x y : Nm} (hx : x.le 4096) (hy : y.le 4096) : (abN x y).le 18014398509481984 := by
  have hj : (conjN y).le 4096 := by unfold Nm.le conjN at *; dsimp only at *; omega
  have hn : (normN y).le 67108864 := mulN_le hy hj
  have ht : (mulN x (conjN y)).le 67108864 := mulN_le hx hj
  have he : (dotN (normN y)).le 67108864 := by
    unfold dotN; split <;> (unfold Nm.le at *; dsimp only at *; omega)
  exact mulN_le ht he
theorem quoN_le {x y : Nm} (hx : x.le 4096) (hy : y.le 4096) : (quoN x y).le 18014398509481984 := by
  obtain ⟨h1, h2, h3, h4⟩ := abN_le hx hy
  exact ⟨tdiv_le h1, tdiv_le h2, tdiv_le h3, tdiv_le h4⟩
theorem quoN_K {x y : Nm} (hy : y.le 4096) (h0 : bN y ≠ 0) : x.K - y.K ≤ (quoN x y).K ∧ (quoN x y).K ≤ x.K - y.K + 128 := by
  have h1 := bN_nonneg y
  have h2 := bN_le hy
  have h3 : (18014398509481984 : Int) < 2 ^ 64 := by decide
  have h := strip_of 64 (bN y) 0 (by omega) (by omega)
  show x.K - y.K ≤ x.K - y.K + 2 * (strip 64 (bN y) 0).2 ∧ x.K - y.K + 2 * (strip 64 (bN y) 0).2 ≤ _
  omega
theorem in_le {x : Nm} (h : x.inb 4096 = true) : x.le 4096 := by
  unfold Nm.inb inb at h
  rw [decide_eq_true_eq] at h
  unfold Nm.le
  omega

/-- What Divide gives of any two numbers. -/
def DivN (x y : Nm) : Nm := if chk2 x y = 0 then divN x.least y.least else nul
def DivE (x y : Nm) : Int := if chk2 x y = 0 then divE x.least y.least else chk2 x y
theorem Divide_any (A B C D K a b c d k : Int) (w : World) :
    Calls Tryd.prog 12 #[nv A B C D K, nv a b c d k] w (Gives (.tuple #[(DivN ⟨A, B, C, D, K⟩ ⟨a, b, c, d, k⟩).v, .int .i64 (DivE ⟨A, B, C, D, K⟩ ⟨a, b, c, d, k⟩)]) w) := by
  unfold DivN DivE
  by_cases h : chk2 ⟨A, B, C, D, K⟩ ⟨a, b, c, d, k⟩ = 0
  · rw [if_pos h, if_pos h]
    obtain ⟨h1, h2⟩ := chk2_ok h
    have HC := checked_zero h
    have hk1 := chk_ok (A := A) (B := B) (C := C) (D := D) (K := K) h1
    have hk2 := chk_ok (A := a) (B := b) (C := c) (D := d) (K := k) h2
    have HL1 := right_least h1
    have HL2 := right_least h2
    have hr := least_K (x := ⟨A, B, C, D, K⟩) (by show 0 ≤ K; omega)
    have hs := least_K (x := ⟨a, b, c, d, k⟩) (by show 0 ≤ k; omega)
    have hr2 : (Nm.least ⟨A, B, C, D, K⟩).K ≤ K := hr.2
    have hs2 : (Nm.least ⟨a, b, c, d, k⟩).K ≤ k := hs.2
    replace hr := hr.1
    replace hs := hs.1
    generalize Nm.least ⟨A, B, C, D, K⟩ = r at *
    generalize Nm.least ⟨a, b, c, d, k⟩ = s at *
    unfold divN divE
    by_cases i1 : r.inb 4096 = true
    · by_cases i2 : s.inb 4096 = true
      · have nn : ¬ ¬ (r.inb 4096 = true ∧ s.inb 4096 = true) := fun h => h ⟨i1, i2⟩
        rw [if_neg nn]
        have hb := by_of r s (in_le i1) (in_le i2) (by omega) (by omega) (bN_nonneg s)
        have hv := byV_of r s
        unfold abN at hv
        rw [hv] at hb
        by_cases hg : bN s ≠ 0 ∧ goes r s
        · rw [if_pos hg] at hb
          have hg2 : r.inb 4096 = true ∧ s.inb 4096 = true ∧ bN s ≠ 0 ∧ goes r s := ⟨i1, i2, hg⟩
          rw [if_pos hg, if_pos hg2]
          have hKq := quoN_K (x := r) (in_le i2) hg.1
          exact Divide_ok A B C D K a b c d k r s (quoN r s) _ _ w HC HL1 HL2 (wth true i1) (wth true i2) hb (fun w => settle_all _ w (le_wide (quoN_le (in_le i1) (in_le i2)) (by omega)) (by omega))
        · rw [if_neg hg] at hb
          have hg2 : ¬ (r.inb 4096 = true ∧ s.inb 4096 = true ∧ bN s ≠ 0 ∧ goes r s) := fun h => hg h.2.2
          rw [if_neg hg, if_neg hg2]
          exact Divide_none A B C D K a b c d k r s nul nul 0 w HC HL1 HL2 (wth true i1) (wth true i2) hb
      · have p1 : ¬ (r.inb 4096 = true ∧ s.inb 4096 = true) := fun h => i2 h.2
        have p2 : ¬ (r.inb 4096 = true ∧ s.inb 4096 = true ∧ bN s ≠ 0 ∧ goes r s) := fun h => i2 h.2.1
        rw [if_pos p1, if_neg p2]
        exact Divide_large2 A B C D K a b c d k r s nul nul 0 w HC HL1 HL2 (wth true i1) (wth false (Bool.eq_false_iff.2 i2))
    · have p1 : ¬ (r.inb 4096 = true ∧ s.inb 4096 = true) := fun h => i1 h.1
      have p2 : ¬ (r.inb 4096 = true ∧ s.inb 4096 = true ∧ bN s ≠ 0 ∧ goes r s) := fun h => i1 h.1
      rw [if_pos p1, if_neg p2]
      exact Divide_large1 A B C D K a b c d k r s nul nul 0 w HC HL1 HL2 (wth false (Bool.eq_false_iff.2 i1))
  · rw [if_neg h, if_neg h]
    exact Divide_bad A B C D K a b c d k w (bne_iff_ne.2 h)
end Go.Proofs.YtohadcaapmnlaaaDoor
