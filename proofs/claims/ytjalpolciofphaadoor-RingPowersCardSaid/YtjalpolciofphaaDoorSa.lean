
/- The reference: times r, the sign of a real number, realness. -/
import Derived.Test.YtjalpolciofphaaDoorAd
import Derived.Test.YtjalpolciofphaaDoorTn
set_option linter.all false
set_option maxRecDepth 100000
namespace Go.Proofs.YtjalpolciofphaaDoor
open Go.RowKit

/-- Times r, with the same K. -/
def timesK (x : Nm) : Nm := ⟨x.B - x.D, x.A + x.C, x.B + x.D, x.C - x.A, x.K⟩
set_option maxHeartbeats 1000000 in
theorem r_times (A B C D K : Int) (w : World) (hx : Nm.le ⟨A, B, C, D, K⟩ 2305843009213693952) : Calls Tryd.prog 37 #[nv A B C D K] w (Gives (timesK ⟨A, B, C, D, K⟩).v w) := by
  obtain ⟨⟨hA1, hA2⟩, ⟨hB1, hB2⟩, ⟨hC1, hC2⟩, ⟨hD1, hD2⟩⟩ := hx
  dsimp only at *
  go_enter Tryd.func37, Tryd.ntmps37
  go_wp2
  exact bodyPost_ret (v := (timesK ⟨A, B, C, D, K⟩).v) (by simp [results, Tryd.results37, go_sem, timesK]) rfl ⟨rfl, (by repeat (first | with_reducible exact Below.refl _ _ | with_reducible refine below_al ?_ _ | with_reducible refine below_dN ?_ _ | with_reducible refine Below.drew ?_ | (with_reducible refine Below.setCell ?_ (by simp <;> omega) _) | (with_reducible refine below_via (by assumption) ?_)))⟩

set_option maxHeartbeats 4000000 in
theorem r_neg_nn (A B C D K : Int) (w : World) (h1 : 0 ≤ A) (h2 : 0 ≤ B) : Calls Tryd.prog 67 #[nv A B C D K] w (Gives (.bool false) w) := by
  go_enter Tryd.func67, Tryd.ntmps67
  go_wp2
  go_region
  all_goals go_wp2
  all_goals
    go_ret
    exact ⟨rfl, (by repeat (first | with_reducible exact Below.refl _ _ | with_reducible refine below_al ?_ _ | with_reducible refine below_dN ?_ _ | with_reducible refine Below.drew ?_ | (with_reducible refine Below.setCell ?_ (by simp <;> omega) _) | (with_reducible refine below_via (by assumption) ?_)))⟩
set_option maxHeartbeats 4000000 in
theorem r_neg_ll (A B C D K : Int) (w : World) (h1 : A ≤ 0) (h2 : B ≤ 0) (h3 : A < 0 ∨ B < 0) : Calls Tryd.prog 67 #[nv A B C D K] w (Gives (.bool true) w) := by
  rcases h3 with h3 | h3
  all_goals
    go_enter Tryd.func67, Tryd.ntmps67
    go_wp2
    go_region
    all_goals go_wp2
    all_goals
      go_ret
      exact ⟨rfl, (by repeat (first | with_reducible exact Below.refl _ _ | with_reducible refine below_al ?_ _ | with_reducible refine below_dN ?_ _ | with_reducible refine Below.drew ?_ | (with_reducible refine Below.setCell ?_ (by simp <;> omega) _) | (with_reducible refine below_via (by assumption) ?_)))⟩
set_option maxHeartbeats 4000000 in
theorem r_neg_lg (A B C D K : Int) (w : World) (ha1 : -1073741824 ≤ A) (ha2 : A ≤ 1073741824) (hb1 : -1073741824 ≤ B) (hb2 : B ≤ 1073741824) (p11 : 0 ≤ A * A) (p12 : A * A ≤ 1152921504606846976) (p31 : 0 ≤ 2 * B * B) (p32 : 2 * B * B ≤ 2305843009213693952) (h1 : A < 0) (h2 : 0 < B) : Calls Tryd.prog 67 #[nv A B C D K] w (Gives (.bool (decide (2 * B * B < A * A))) w) := by
  go_enter Tryd.func67, Tryd.ntmps67
  go_wp2
  go_region
  all_goals go_wp2
  all_goals
    go_ret
    refine ⟨?_, (by repeat (first | with_reducible exact Below.refl _ _ | with_reducible refine below_al ?_ _ | with_reducible refine below_dN ?_ _ | with_reducible refine Below.drew ?_ | (with_reducible refine Below.setCell ?_ (by simp <;> omega) _) | (with_reducible refine below_via (by assumption) ?_)))⟩
    first | rfl | exact congrArg (fun x => Ending.returned (.bool x)) (decide_eq_false (by omega))
set_option maxHeartbeats 4000000 in
theorem r_neg_gl (A B C D K : Int) (w : World) (ha1 : -1073741824 ≤ A) (ha2 : A ≤ 1073741824) (hb1 : -1073741824 ≤ B) (hb2 : B ≤ 1073741824) (p11 : 0 ≤ A * A) (p12 : A * A ≤ 1152921504606846976) (p31 : 0 ≤ 2 * B * B) (p32 : 2 * B * B ≤ 2305843009213693952) (h1 : 0 < A) (h2 : B < 0) : Calls Tryd.prog 67 #[nv A B C D K] w (Gives (.bool (decide (A * A < 2 * B * B))) w) := by
  go_enter Tryd.func67, Tryd.ntmps67
  go_wp2
  go_region
  all_goals go_wp2
  all_goals
    go_ret
    refine ⟨?_, (by repeat (first | with_reducible exact Below.refl _ _ | with_reducible refine below_al ?_ _ | with_reducible refine below_dN ?_ _ | with_reducible refine Below.drew ?_ | (with_reducible refine Below.setCell ?_ (by simp <;> omega) _) | (with_reducible refine below_via (by assumption) ?_)))⟩
    first | rfl | exact congrArg (fun x => Ending.returned (.bool x)) (decide_eq_false (by omega))
theorem r_Negative (A B C D K : Int) (w : World) (ha : -1073741824 ≤ A ∧ A ≤ 1073741824) (hb : -1073741824 ≤ B ∧ B ≤ 1073741824) :
    Calls Tryd.prog 67 #[nv A B C D K] w (Gives (.bool (below0N A B)) w) := by
  have sq : ∀ x : Int, 0 ≤ x * x := fun x => by
    rcases Int.le_total 0 x with h | h
    · exact Int.mul_nonneg h h
    · exact Int.mul_nonneg_of_nonpos_of_nonpos h h
  have up : ∀ x : Int, -1073741824 ≤ x → x ≤ 1073741824 → x * x ≤ 1152921504606846976 := fun x h1 h2 => by
    have := Int.mul_nonneg (show 0 ≤ 1073741824 - x by omega) (show 0 ≤ 1073741824 + x by omega)
    rw [Int.sub_mul, Int.mul_add, Int.mul_add] at this
    omega
  have e2 : 2 * B * B = 2 * (B * B) := Int.mul_assoc 2 B B
  have p11 := sq A
  have p12 := up A ha.1 ha.2
  have p31 : 0 ≤ 2 * B * B := by have := sq B; omega
  have p32 : 2 * B * B ≤ 2305843009213693952 := by have := up B hb.1 hb.2; omega
  rcases Int.lt_trichotomy A 0 with h1 | h1 | h1
  · by_cases h2 : 0 < B
    · rw [show below0N A B = decide (2 * B * B < A * A) from by unfold below0N; rw [if_pos ⟨h1, h2⟩]]
      exact r_neg_lg A B C D K w ha.1 ha.2 hb.1 hb.2 p11 p12 p31 p32 h1 h2
    · rw [show below0N A B = true from by unfold below0N; rw [if_neg (by omega), if_neg (by omega)]; exact decide_eq_true (.inl h1)]
      exact r_neg_ll A B C D K w (by omega) (by omega) (.inl h1)
  · by_cases h2 : B < 0
    · rw [show below0N A B = true from by unfold below0N; rw [if_neg (by omega), if_neg (by omega)]; exact decide_eq_true (.inr h2)]
      exact r_neg_ll A B C D K w (by omega) (by omega) (.inr h2)
    · rw [show below0N A B = false from by unfold below0N; rw [if_neg (by omega), if_neg (by omega)]; exact decide_eq_false (by omega)]
      exact r_neg_nn A B C D K w (by omega) (by omega)
  · by_cases h2 : B < 0
    · rw [show below0N A B = decide (A * A < 2 * B * B) from by unfold below0N; rw [if_neg (by omega), if_pos ⟨h1, h2⟩]]
      exact r_neg_gl A B C D K w ha.1 ha.2 hb.1 hb.2 p11 p12 p31 p32 h1 h2
    · rw [show below0N A B = false from by unfold below0N; rw [if_neg (by omega), if_neg (by omega)]; exact decide_eq_false (by omega)]
      exact r_neg_nn A B C D K w (by omega) (by omega)
end Go.Proofs.YtjalpolciofphaaDoor
