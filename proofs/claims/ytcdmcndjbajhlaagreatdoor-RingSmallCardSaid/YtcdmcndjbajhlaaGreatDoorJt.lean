/- Sum of package ring, for all numbers (a seat with RingAdds in it). -/
import Derived.Test.YtcdmcndjbajhlaaGreatDoorJs
import Derived.Test.YtcdmcndjbajhlaaGreatDoorJq
set_option linter.all false
set_option maxRecDepth 100000
namespace Go.Proofs.YtcdmcndjbajhlaaGreatDoor
open Go.RowKit

/-- Times r, with the same K. -/
def timesK (x : Nm) : Nm := ⟨x.B - x.D, x.A + x.C, x.B + x.D, x.C - x.A, x.K⟩
set_option maxHeartbeats 1000000 in
theorem r_times (A B C D K : Int) (w : World) (hx : Nm.le ⟨A, B, C, D, K⟩ 2305843009213693952) : Calls Tryz.prog 85 #[nv A B C D K] w (Gives (timesK ⟨A, B, C, D, K⟩).v w) := by
  obtain ⟨⟨hA1, hA2⟩, ⟨hB1, hB2⟩, ⟨hC1, hC2⟩, ⟨hD1, hD2⟩⟩ := hx
  dsimp only at *
  go_enter Tryz.func85, Tryz.ntmps85
  go_wp2
  exact bodyPost_ret (v := (timesK ⟨A, B, C, D, K⟩).v) (by simp [results, Tryz.results85, go_sem, timesK]) rfl ⟨rfl, (by repeat (first | with_reducible exact Below.refl _ _ | with_reducible refine below_al ?_ _ | with_reducible refine below_dN ?_ _ | with_reducible refine Below.drew ?_ | (with_reducible refine Below.setCell ?_ (by simp <;> omega) _) | (with_reducible refine below_via (by assumption) ?_)))⟩

set_option maxHeartbeats 4000000 in
theorem r_neg_nn (A B C D K : Int) (w : World) (h1 : 0 ≤ A) (h2 : 0 ≤ B) : Calls Tryz.prog 97 #[nv A B C D K] w (Gives (.bool false) w) := by
  go_enter Tryz.func97, Tryz.ntmps97
  go_wp2
  go_region
  all_goals go_wp2
  all_goals
    go_ret
    exact ⟨rfl, (by repeat (first | with_reducible exact Below.refl _ _ | with_reducible refine below_al ?_ _ | with_reducible refine below_dN ?_ _ | with_reducible refine Below.drew ?_ | (with_reducible refine Below.setCell ?_ (by simp <;> omega) _) | (with_reducible refine below_via (by assumption) ?_)))⟩
set_option maxHeartbeats 4000000 in
theorem r_neg_ll (A B C D K : Int) (w : World) (h1 : A ≤ 0) (h2 : B ≤ 0) (h3 : A < 0 ∨ B < 0) : Calls Tryz.prog 97 #[nv A B C D K] w (Gives (.bool true) w) := by
  rcases h3 with h3 | h3
  all_goals
    go_enter Tryz.func97, Tryz.ntmps97
    go_wp2
    go_region
    all_goals go_wp2
    all_goals
      go_ret
      exact ⟨rfl, (by repeat (first | with_reducible exact Below.refl _ _ | with_reducible refine below_al ?_ _ | with_reducible refine below_dN ?_ _ | with_reducible refine Below.drew ?_ | (with_reducible refine Below.setCell ?_ (by simp <;> omega) _) | (with_reducible refine below_via (by assumption) ?_)))⟩
set_option maxHeartbeats 4000000 in
theorem r_neg_lg (A B C D K : Int) (w : World) (ha1 : -1073741824 ≤ A) (ha2 : A ≤ 1073741824) (hb1 : -1073741824 ≤ B) (hb2 : B ≤ 1073741824) (p11 : 0 ≤ A * A) (p12 : A * A ≤ 1152921504606846976) (p31 : 0 ≤ 2 * B * B) (p32 : 2 * B * B ≤ 2305843009213693952) (h1 : A < 0) (h2 : 0 < B) : Calls Tryz.prog 97 #[nv A B C D K] w (Gives (.bool (decide (2 * B * B < A * A))) w) := by
  go_enter Tryz.func97, Tryz.ntmps97
  go_wp2
  go_region
  all_goals go_wp2
  all_goals
    go_ret
    refine ⟨?_, (by repeat (first | with_reducible exact Below.refl _ _ | with_reducible refine below_al ?_ _ | with_reducible refine below_dN ?_ _ | with_reducible refine Below.drew ?_ | (with_reducible refine Below.setCell ?_ (by simp <;> omega) _) | (with_reducible refine below_via (by assumption) ?_)))⟩
    first | rfl | exact congrArg (fun x => Ending.returned (.bool x)) (decide_eq_false (by omega))
set_option maxHeartbeats 4000000 in
theorem r_neg_gl (A B C D K : Int) (w : World) (ha1 : -1073741824 ≤ A) (ha2 : A ≤ 1073741824) (hb1 : -1073741824 ≤ B) (hb2 : B ≤ 1073741824) (p11 : 0 ≤ A * A) (p12 : A * A ≤ 1152921504606846976) (p31 : 0 ≤ 2 * B * B) (p32 : 2 * B * B ≤ 2305843009213693952) (h1 : 0 < A) (h2 : B < 0) : Calls Tryz.prog 97 #[nv A B C D K] w (Gives (.bool (decide (A * A < 2 * B * B))) w) := by
  go_enter Tryz.func97, Tryz.ntmps97
  go_wp2
  go_region
  all_goals go_wp2
  all_goals
    go_ret
    refine ⟨?_, (by repeat (first | with_reducible exact Below.refl _ _ | with_reducible refine below_al ?_ _ | with_reducible refine below_dN ?_ _ | with_reducible refine Below.drew ?_ | (with_reducible refine Below.setCell ?_ (by simp <;> omega) _) | (with_reducible refine below_via (by assumption) ?_)))⟩
    first | rfl | exact congrArg (fun x => Ending.returned (.bool x)) (decide_eq_false (by omega))
theorem r_Negative (A B C D K : Int) (w : World) (ha : -1073741824 ≤ A ∧ A ≤ 1073741824) (hb : -1073741824 ≤ B ∧ B ≤ 1073741824) :
    Calls Tryz.prog 97 #[nv A B C D K] w (Gives (.bool (below0N A B)) w) := by
  have sq : ∀ x : Int, 0 ≤ x * x := fun x => by
    rcases Int.le_total 0 x with h | h
    · exact Int.mul_nonneg h h
    · exact Int.mul_nonneg_of_nonpos_of_nonpos h h
  have up : ∀ x : Int, -1073741824 ≤ x → x ≤ 1073741824 → x * x ≤ 1152921504606846976 := fun x h1 h2 => by
    have := Int.mul_nonneg (show 0 ≤ 1073741824 - x by omega) (show 0 ≤ 1073741824 + x by omega)
    rw [Int.sub_mul, Int.mul_add, Int.mul_add] at this
    omega
  have e2 : 2 * B * B = 2 * (B * B) := Int.mul_assoc 2 B B
  have p11 := sq A
  have p12 := up A ha.1 ha.2
  have p31 : 0 ≤ 2 * B * B := by have := sq B; omega
  have p32 : 2 * B * B ≤ 2305843009213693952 := by have := up B hb.1 hb.2; omega
  rcases Int.lt_trichotomy A 0 with h1 | h1 | h1
  · by_cases h2 : 0 < B
    · rw [show below0N A B = decide (2 * B * B < A * A) from by unfold below0N; rw [if_pos ⟨h1, h2⟩]]
      exact r_neg_lg A B C D K w ha.1 ha.2 hb.1 hb.2 p11 p12 p31 p32 h1 h2
    · rw [show below0N A B = true from by unfold below0N; rw [if_neg (by omega), if_neg (by omega)]; exact decide_eq_true (.inl h1)]
      exact r_neg_ll A B C D K w (by omega) (by omega) (.inl h1)
  · by_cases h2 : B < 0
    · rw [show below0N A B = true from by unfold below0N; rw [if_neg (by omega), if_neg (by omega)]; exact decide_eq_true (.inr h2)]
      exact r_neg_ll A B C D K w (by omega) (by omega) (.inr h2)
    · rw [show below0N A B = false from by unfold below0N; rw [if_neg (by omega), if_neg (by omega)]; exact decide_eq_false (by omega)]
      exact r_neg_nn A B C D K w (by omega) (by omega)
  · by_cases h2 : B < 0
    · rw [show below0N A B = decide (A * A < 2 * B * B) from by unfold below0N; rw [if_neg (by omega), if_pos ⟨h1, h2⟩]]
      exact r_neg_gl A B C D K w ha.1 ha.2 hb.1 hb.2 p11 p12 p31 p32 h1 h2
    · rw [show below0N A B = false from by unfold below0N; rw [if_neg (by omega), if_neg (by omega)]; exact decide_eq_false (by omega)]
      exact r_neg_nn A B C D K w (by omega) (by omega)
end Go.Proofs.YtcdmcndjbajhlaaGreatDoor
namespace Go.Proofs.YtcdmcndjbajhlaaGreatDoor
open Go.RowKit

set_option maxHeartbeats 1000000 in
theorem Add_any (A B C D K a b c d k : Int) (w : World) :
    Calls Tryz.prog 45 #[nv A B C D K, nv a b c d k] w (Gives (.tuple #[(jointN ⟨A, B, C, D, K⟩ ⟨a, b, c, d, k⟩ (addN ⟨A, B, C, D, K⟩ ⟨a, b, c, d, k⟩)).v, .int .i64 (jointE ⟨A, B, C, D, K⟩ ⟨a, b, c, d, k⟩ (addN ⟨A, B, C, D, K⟩ ⟨a, b, c, d, k⟩))]) w) := by
  have HA : Hid (∀ w, Calls Tryz.prog 74 #[.agg #[.func (.func 89) #[] #[]], nv A B C D K, nv a b c d k] w (Gives (.tuple #[(jointN ⟨A, B, C, D, K⟩ ⟨a, b, c, d, k⟩ (addN ⟨A, B, C, D, K⟩ ⟨a, b, c, d, k⟩)).v, .int .i64 (jointE ⟨A, B, C, D, K⟩ ⟨a, b, c, d, k⟩ (addN ⟨A, B, C, D, K⟩ ⟨a, b, c, d, k⟩))]) w)) := by
    intro w
    refine joint_any A B C D K a b c d k _ ent_plus _ w fun h => ?_
    obtain ⟨h1, h2⟩ := chk2_ok h
    have k1 := chk_ok h1
    have k2 := chk_ok h2
    dsimp only at k1 k2
    obtain ⟨l1, l2, _⟩ := lifts_two h
    refine ⟨fun w => plus_any A B C D K a b c d k w (right_le h1) (right_le h2) (by omega) (by omega) l1 l2, ?_, ?_⟩
    · exact le_wide (addN_le (right_le h1) (right_le h2) (by dsimp only; omega) (by dsimp only; omega)) (by omega)
    · rw [addN_K]; dsimp only; omega
  generalize jointN ⟨A, B, C, D, K⟩ ⟨a, b, c, d, k⟩ (addN ⟨A, B, C, D, K⟩ ⟨a, b, c, d, k⟩) = r at *
  generalize jointE ⟨A, B, C, D, K⟩ ⟨a, b, c, d, k⟩ (addN ⟨A, B, C, D, K⟩ ⟨a, b, c, d, k⟩) = q at *
  go_enter Tryz.func45, Tryz.ntmps45
  go_wp2_with fail
  refine (HA.out _).mono ?_
  rintro e w1 ⟨rfl, hb⟩
  obtain ⟨hc, hf⟩ := bcell hb
  go_wp2_with fail
  exact bodyPost_ret (v := .tuple #[r.v, .int .i64 q]) (by simp [results, Tryz.results45, go_sem, hc]) rfl ⟨rfl, (by repeat (first | with_reducible exact Below.refl _ _ | with_reducible refine below_al ?_ _ | with_reducible refine below_dN ?_ _ | with_reducible refine Below.drew ?_ | (with_reducible refine Below.setCell ?_ (by simp <;> omega) _) | (with_reducible refine below_via (by assumption) ?_)))⟩

end Go.Proofs.YtcdmcndjbajhlaaGreatDoor
