
/- Sum, difference, order and realness of package ring, for all numbers: lift is whole now. -/
import Derived.Test.YtohadcaapmnlaaaDoorLt
import Derived.Test.YtohadcaapmnlaaaDoorWo
set_option linter.all false
set_option maxRecDepth 100000
namespace Go.Proofs.YtohadcaapmnlaaaDoor
open Go.RowKit

theorem lifts_any (x : Nm) (k : Int) (hx : x.le 1073741824) (hK : -1000 ≤ x.K ∧ x.K ≤ 1000) (hk : -1000 ≤ k ∧ k ≤ 1000) (h60 : k - x.K ≤ 60) : Lifts x k :=
  fun w b T hb => lift_any x k b T w hx hK hk hb h60
theorem lifts_two {A B C D K a b c d k : Int} (h : chk2 ⟨A, B, C, D, K⟩ ⟨a, b, c, d, k⟩ = 0) : Lifts ⟨A, B, C, D, K⟩ (max K k) ∧ Lifts ⟨a, b, c, d, k⟩ (max K k) ∧ Lifts (negN ⟨a, b, c, d, k⟩) (max K k) := by
  obtain ⟨h1, h2⟩ := chk2_ok h
  have k1 := chk_ok h1
  have k2 := chk_ok h2
  dsimp only at k1 k2
  refine ⟨lifts_any _ _ (right_le h1) ?_ ?_ ?_, lifts_any _ _ (right_le h2) ?_ ?_ ?_, lifts_any _ _ (negN_le (right_le h2)) ?_ ?_ ?_⟩ <;> (try simp only [negN]) <;> omega
theorem Sub_any (A B C D K a b c d k : Int) (w : World) :
    Calls Tryd.prog 19 #[nv A B C D K, nv a b c d k] w (Gives (.tuple #[(jointN ⟨A, B, C, D, K⟩ ⟨a, b, c, d, k⟩ (subN ⟨A, B, C, D, K⟩ ⟨a, b, c, d, k⟩)).v, .int .i64 (jointE ⟨A, B, C, D, K⟩ ⟨a, b, c, d, k⟩ (subN ⟨A, B, C, D, K⟩ ⟨a, b, c, d, k⟩))]) w) :=
  Sub_of A B C D K a b c d k w fun h => ⟨(lifts_two h).1, (lifts_two h).2.2⟩

/-- Is it real? -/
def realN (x : Nm) : Bool := eq4 x.A x.B x.C x.D x.A (-x.D) (-x.C) (-x.B)
set_option maxHeartbeats 1000000 in
theorem Real_bad (A B C D K : Int) (w : World) (hq : (chk A B C D K != 0) = true) :
    Calls Tryd.prog 24 #[nv A B C D K] w (Gives (.tuple #[.bool false, .int .i64 (chk A B C D K)]) w) := by
  have HC : Hid (∀ w, Calls Tryd.prog 56 #[nv A B C D K] w (Gives (.int .i64 (chk A B C D K)) w)) := fun w => check_any A B C D K w
  generalize chk A B C D K = q at *
  go_enter Tryd.func24, Tryd.ntmps24
  go_wp2_with fail
  refine (HC.out _).mono ?_
  rintro e w1 ⟨rfl, hb⟩
  obtain ⟨hc, hf⟩ := bcell hb
  go_wp2_with fail
  go_ret2
  exact ⟨rfl, (by repeat (first | with_reducible exact Below.refl _ _ | with_reducible refine below_al ?_ _ | with_reducible refine below_dN ?_ _ | with_reducible refine Below.drew ?_ | (with_reducible refine Below.setCell ?_ (by simp <;> omega) _) | (with_reducible refine below_via (by assumption) ?_)))⟩
set_option maxHeartbeats 1000000 in
theorem Real_ok (A B C D K : Int) (w : World) (h : chk A B C D K = 0) :
    Calls Tryd.prog 24 #[nv A B C D K] w (Gives (.tuple #[.bool (realN ⟨A, B, C, D, K⟩), .int .i64 0]) w) := by
  have HC : Hid (∀ w, Calls Tryd.prog 56 #[nv A B C D K] w (Gives (.int .i64 0) w)) := fun w => by rw [← h]; exact check_any A B C D K w
  have HR : Hid (∀ w, Calls Tryd.prog 63 #[nv A B C D K] w (Gives (.bool (realN ⟨A, B, C, D, K⟩)) w)) := fun w => real_core A B C D K w (right_wide h)
  clear h
  generalize realN ⟨A, B, C, D, K⟩ = q at *
  go_enter Tryd.func24, Tryd.ntmps24
  go_wp2_with fail
  refine (HC.out _).mono ?_
  rintro e w1 ⟨rfl, hb⟩
  obtain ⟨hc, hf⟩ := bcell hb
  go_wp2_with fail
  refine (HR.out _).mono ?_
  rintro e w2 ⟨rfl, hb2⟩
  obtain ⟨hc2, hf2⟩ := bcell hb2
  go_wp2_with fail
  go_ret2
  exact ⟨rfl, (by repeat (first | with_reducible exact Below.refl _ _ | with_reducible refine below_al ?_ _ | with_reducible refine below_dN ?_ _ | with_reducible refine Below.drew ?_ | (with_reducible refine Below.setCell ?_ (by simp <;> omega) _) | (with_reducible refine below_via (by assumption) ?_)))⟩
theorem Real_any (A B C D K : Int) (w : World) :
    Calls Tryd.prog 24 #[nv A B C D K] w (Gives (.tuple #[.bool (if chk A B C D K = 0 then realN ⟨A, B, C, D, K⟩ else false), .int .i64 (chk A B C D K)]) w) := by
  by_cases h : chk A B C D K = 0
  · rw [if_pos h, h]; exact Real_ok A B C D K w h
  · rw [if_neg h]; exact Real_bad A B C D K w (bne_iff_ne.2 h)

theorem Less_bad0 (A B C D K a b c d k : Int) (w : World) (hq : (chk2 ⟨A, B, C, D, K⟩ ⟨a, b, c, d, k⟩ != 0) = true) :
    Calls Tryd.prog 25 #[nv A B C D K, nv a b c d k] w (Gives (.tuple #[.bool false, .int .i64 (chk2 ⟨A, B, C, D, K⟩ ⟨a, b, c, d, k⟩)]) w) := by
  have HC2 : Hid (∀ w, Calls Tryd.prog 44 #[nv A B C D K, nv a b c d k] w (Gives (.int .i64 (chk2 ⟨A, B, C, D, K⟩ ⟨a, b, c, d, k⟩)) w)) := fun w => checked_any A B C D K a b c d k w
  generalize chk2 ⟨A, B, C, D, K⟩ ⟨a, b, c, d, k⟩ = q at *
  go_enter Tryd.func25, Tryd.ntmps25
  go_wp2_with fail
  refine (HC2.out _).mono ?_
  rintro e w1 ⟨rfl, hb⟩
  obtain ⟨hc, hf⟩ := bcell hb
  go_wp2_with fail
  go_ret2
  exact ⟨rfl, (by repeat (first | with_reducible exact Below.refl _ _ | with_reducible refine below_al ?_ _ | with_reducible refine below_dN ?_ _ | with_reducible refine Below.drew ?_ | (with_reducible refine Below.setCell ?_ (by simp <;> omega) _) | (with_reducible refine below_via (by assumption) ?_)))⟩
/-- What Less answers. -/
def lessN (x y : Nm) : Bool := if chk2 x y = 0 then (if realN x = true ∧ realN y = true then (if jointE x y (subN x y) = 0 then below0N (jointN x y (subN x y)).A (jointN x y (subN x y)).B else false) else false) else false
def lessE (x y : Nm) : Int := if chk2 x y = 0 then (if realN x = true ∧ realN y = true then jointE x y (subN x y) else 7) else chk2 x y
theorem joint_inb {x y z : Nm} (h2 : chk2 x y = 0) (h : jointE x y z = 0) : (jointN x y z).inb 1073741824 = true := by
  unfold jointE at h; unfold jointN
  rw [if_pos h2] at h ⊢
  unfold fitE at h; unfold fitN
  split at h
  · rename_i hc
    rw [if_pos hc]
    unfold Nm.chk chk at hc
    split at hc
    · omega
    · split at hc
      · assumption
      · omega
  · omega
theorem Less_any (A B C D K a b c d k : Int) (w : World) :
    Calls Tryd.prog 25 #[nv A B C D K, nv a b c d k] w (Gives (.tuple #[.bool (lessN ⟨A, B, C, D, K⟩ ⟨a, b, c, d, k⟩), .int .i64 (lessE ⟨A, B, C, D, K⟩ ⟨a, b, c, d, k⟩)]) w) := by
  unfold lessN lessE
  by_cases h : chk2 ⟨A, B, C, D, K⟩ ⟨a, b, c, d, k⟩ = 0
  · rw [if_pos h, if_pos h]
    obtain ⟨h1, h2⟩ := chk2_ok h
    have HC := checked_zero h
    have HR1 : Hid (∀ w, Calls Tryd.prog 63 #[nv A B C D K] w (Gives (.bool (realN ⟨A, B, C, D, K⟩)) w)) := fun w => real_core A B C D K w (right_wide h1)
    have HR2 : Hid (∀ w, Calls Tryd.prog 63 #[nv a b c d k] w (Gives (.bool (realN ⟨a, b, c, d, k⟩)) w)) := fun w => real_core a b c d k w (right_wide h2)
    have HS : Hid (∀ w, Calls Tryd.prog 19 #[nv A B C D K, nv a b c d k] w (Gives (.tuple #[(jointN ⟨A, B, C, D, K⟩ ⟨a, b, c, d, k⟩ (subN ⟨A, B, C, D, K⟩ ⟨a, b, c, d, k⟩)).v, .int .i64 (jointE ⟨A, B, C, D, K⟩ ⟨a, b, c, d, k⟩ (subN ⟨A, B, C, D, K⟩ ⟨a, b, c, d, k⟩))]) w)) := fun w => Sub_any A B C D K a b c d k w
    by_cases r1 : realN ⟨A, B, C, D, K⟩ = true
    · rw [r1] at HR1
      by_cases r2 : realN ⟨a, b, c, d, k⟩ = true
      · rw [r2] at HR2
        have hr := And.intro r1 r2
        rw [if_pos hr, if_pos hr]
        by_cases hq : jointE ⟨A, B, C, D, K⟩ ⟨a, b, c, d, k⟩ (subN ⟨A, B, C, D, K⟩ ⟨a, b, c, d, k⟩) = 0
        · have hi := joint_inb h hq
          rw [hq] at HS ⊢
          rw [if_pos rfl]
          exact Less_ok A B C D K a b c d k _ w HC HR1 HR2 HS hi
        · rw [if_neg hq]
          exact Less_bad3 A B C D K a b c d k _ _ w HC HR1 HR2 HS (bne_iff_ne.2 hq)
      · rw [Bool.not_eq_true] at r2
        rw [r2] at HR2
        have hr : ¬ (realN ⟨A, B, C, D, K⟩ = true ∧ realN ⟨a, b, c, d, k⟩ = true) := fun h => by rw [r2] at h; exact absurd h.2 (by decide)
        rw [if_neg hr, if_neg hr]
        exact Less_bad2 A B C D K a b c d k _ _ w HC HR1 HR2 HS
    · rw [Bool.not_eq_true] at r1
      rw [r1] at HR1
      have hr : ¬ (realN ⟨A, B, C, D, K⟩ = true ∧ realN ⟨a, b, c, d, k⟩ = true) := fun h => by rw [r1] at h; exact absurd h.1 (by decide)
      rw [if_neg hr, if_neg hr]
      exact Less_bad1 A B C D K a b c d k _ _ _ w HC HR1 HR2 HS
  · rw [if_neg h, if_neg h]
    exact Less_bad0 A B C D K a b c d k w (bne_iff_ne.2 h)
end Go.Proofs.YtohadcaapmnlaaaDoor
