
/- Contracts of package ring: Neg, Conj, Dot, Norm, Mul. -/
import Derived.Test.YtjalpolciofphaaDoorWf
set_option linter.all false
set_option maxRecDepth 100000
namespace Go.Proofs.YtjalpolciofphaaDoor
open Go.RowKit

theorem right_le {A B C D K : Int} (h : chk A B C D K = 0) : Nm.le ⟨A, B, C, D, K⟩ 1073741824 := by
  have := chk_ok h
  unfold Nm.le; dsimp only; omega
theorem right_wide {A B C D K : Int} (h : chk A B C D K = 0) : Nm.wide ⟨A, B, C, D, K⟩ := le_wide (right_le h) (by omega)

theorem ent_negative : Enters 78 := enters_of (by kernel_rfl)
theorem ent_conjugate : Enters 83 := enters_of (by kernel_rfl)
theorem ent_dotted : Enters 80 := enters_of (by kernel_rfl)
theorem ent_norm : Enters 81 := enters_of (by kernel_rfl)
theorem ent_times : Enters 44 := enters_of (by kernel_rfl)

set_option maxHeartbeats 1000000 in
theorem Dot_any (A B C D K : Int) (w : World) :
    Calls Tryd.prog 47 #[nv A B C D K] w (Gives (.tuple #[(aloneN ⟨A, B, C, D, K⟩ (dotN ⟨A, B, C, D, K⟩)).v, .int .i64 (aloneE ⟨A, B, C, D, K⟩ (dotN ⟨A, B, C, D, K⟩))]) w) := by
  have HA : Hid (∀ w, Calls Tryd.prog 79 #[nv A B C D K, .func (.func 80) #[] #[]] w (Gives (.tuple #[(aloneN ⟨A, B, C, D, K⟩ (dotN ⟨A, B, C, D, K⟩)).v, .int .i64 (aloneE ⟨A, B, C, D, K⟩ (dotN ⟨A, B, C, D, K⟩))]) w)) := by
    intro w
    refine alone_any A B C D K _ ent_dotted _ w fun h => ?_
    have hw := right_wide h
    have hl := right_le h
    have hk := chk_ok h
    refine ⟨fun w => dotted_any A B C D K w hw hk.1, ?_, ?_⟩
    · unfold dotN; split <;> (unfold Nm.wide at *; dsimp only at *; omega)
    · unfold dotN; split <;> (dsimp only; omega)
  generalize aloneN ⟨A, B, C, D, K⟩ (dotN ⟨A, B, C, D, K⟩) = r at *
  generalize aloneE ⟨A, B, C, D, K⟩ (dotN ⟨A, B, C, D, K⟩) = q at *
  go_enter Tryd.func47, Tryd.ntmps47
  go_wp2_with fail
  refine (HA.out _).mono ?_
  rintro e w1 ⟨rfl, hb⟩
  obtain ⟨hc, hf⟩ := bcell hb
  go_wp2_with fail
  exact bodyPost_ret (v := .tuple #[r.v, .int .i64 q]) (by simp [results, Tryd.results47, go_sem, hc]) rfl ⟨rfl, (by repeat (first | with_reducible exact Below.refl _ _ | with_reducible refine below_al ?_ _ | with_reducible refine below_dN ?_ _ | with_reducible refine Below.drew ?_ | (with_reducible refine Below.setCell ?_ (by simp <;> omega) _) | (with_reducible refine below_via (by assumption) ?_)))⟩

set_option maxHeartbeats 1000000 in
theorem Norm_any (A B C D K : Int) (w : World) :
    Calls Tryd.prog 48 #[nv A B C D K] w (Gives (.tuple #[(aloneN ⟨A, B, C, D, K⟩ (normN ⟨A, B, C, D, K⟩)).v, .int .i64 (aloneE ⟨A, B, C, D, K⟩ (normN ⟨A, B, C, D, K⟩))]) w) := by
  have HA : Hid (∀ w, Calls Tryd.prog 79 #[nv A B C D K, .func (.func 81) #[] #[]] w (Gives (.tuple #[(aloneN ⟨A, B, C, D, K⟩ (normN ⟨A, B, C, D, K⟩)).v, .int .i64 (aloneE ⟨A, B, C, D, K⟩ (normN ⟨A, B, C, D, K⟩))]) w)) := by
    intro w
    refine alone_any A B C D K _ ent_norm _ w fun h => ?_
    have hw := right_wide h
    have hl := right_le h
    have hk := chk_ok h
    refine ⟨fun w => norm_any A B C D K 1073741824 w hl (by omega) (by omega) (by omega), ?_, ?_⟩
    · have hy : (conjN ⟨A, B, C, D, K⟩).le 1073741824 := by unfold Nm.le conjN at *; dsimp only at *; omega
      exact le_wide (mulN_le hl hy) (by omega)
    · simp only [normN, mulN, conjN]; omega
  generalize aloneN ⟨A, B, C, D, K⟩ (normN ⟨A, B, C, D, K⟩) = r at *
  generalize aloneE ⟨A, B, C, D, K⟩ (normN ⟨A, B, C, D, K⟩) = q at *
  go_enter Tryd.func48, Tryd.ntmps48
  go_wp2_with fail
  refine (HA.out _).mono ?_
  rintro e w1 ⟨rfl, hb⟩
  obtain ⟨hc, hf⟩ := bcell hb
  go_wp2_with fail
  exact bodyPost_ret (v := .tuple #[r.v, .int .i64 q]) (by simp [results, Tryd.results48, go_sem, hc]) rfl ⟨rfl, (by repeat (first | with_reducible exact Below.refl _ _ | with_reducible refine below_al ?_ _ | with_reducible refine below_dN ?_ _ | with_reducible refine Below.drew ?_ | (with_reducible refine Below.setCell ?_ (by simp <;> omega) _) | (with_reducible refine below_via (by assumption) ?_)))⟩

set_option maxHeartbeats 1000000 in
theorem Mul_any (A B C D K a b c d k : Int) (w : World) :
    Calls Tryd.prog 13 #[nv A B C D K, nv a b c d k] w (Gives (.tuple #[(jointN ⟨A, B, C, D, K⟩ ⟨a, b, c, d, k⟩ (mulN ⟨A, B, C, D, K⟩ ⟨a, b, c, d, k⟩)).v, .int .i64 (jointE ⟨A, B, C, D, K⟩ ⟨a, b, c, d, k⟩ (mulN ⟨A, B, C, D, K⟩ ⟨a, b, c, d, k⟩))]) w) := by
  have HA : Hid (∀ w, Calls Tryd.prog 42 #[.agg #[.func (.func 44) #[] #[]], nv A B C D K, nv a b c d k] w (Gives (.tuple #[(jointN ⟨A, B, C, D, K⟩ ⟨a, b, c, d, k⟩ (mulN ⟨A, B, C, D, K⟩ ⟨a, b, c, d, k⟩)).v, .int .i64 (jointE ⟨A, B, C, D, K⟩ ⟨a, b, c, d, k⟩ (mulN ⟨A, B, C, D, K⟩ ⟨a, b, c, d, k⟩))]) w)) := by
    intro w
    refine joint_any A B C D K a b c d k _ ent_times _ w fun h => ?_
    have h1 : chk A B C D K = 0 := by
      unfold chk2 at h; split at h <;> assumption
    have h2 : chk a b c d k = 0 := by
      have h1' : Nm.chk ⟨A, B, C, D, K⟩ = 0 := h1
      unfold chk2 at h; rw [if_pos h1'] at h; exact h
    have hk1 := chk_ok h1
    have hk2 := chk_ok h2
    refine ⟨fun w => times_any A B C D K a b c d k 1073741824 1073741824 w (right_le h1) (right_le h2) (by omega) (by omega) (by omega), ?_, ?_⟩
    · exact le_wide (mulN_le (right_le h1) (right_le h2)) (by omega)
    · simp only [mulN]; omega
  generalize jointN ⟨A, B, C, D, K⟩ ⟨a, b, c, d, k⟩ (mulN ⟨A, B, C, D, K⟩ ⟨a, b, c, d, k⟩) = r at *
  generalize jointE ⟨A, B, C, D, K⟩ ⟨a, b, c, d, k⟩ (mulN ⟨A, B, C, D, K⟩ ⟨a, b, c, d, k⟩) = q at *
  go_enter Tryd.func13, Tryd.ntmps13
  go_wp2_with fail
  refine (HA.out _).mono ?_
  rintro e w1 ⟨rfl, hb⟩
  obtain ⟨hc, hf⟩ := bcell hb
  go_wp2_with fail
  exact bodyPost_ret (v := .tuple #[r.v, .int .i64 q]) (by simp [results, Tryd.results13, go_sem, hc]) rfl ⟨rfl, (by repeat (first | with_reducible exact Below.refl _ _ | with_reducible refine below_al ?_ _ | with_reducible refine below_dN ?_ _ | with_reducible refine Below.drew ?_ | (with_reducible refine Below.setCell ?_ (by simp <;> omega) _) | (with_reducible refine below_via (by assumption) ?_)))⟩
end Go.Proofs.YtjalpolciofphaaDoor
