
/- Contracts of package ring's small functions. -/
import Derived.Test.YtjalpolciofphaaDoorBase
set_option linter.all false
set_option maxRecDepth 100000
namespace Go.Proofs.YtjalpolciofphaaDoor
open Go.RowKit
attribute [local go_sem] run_min_int5 run_max_int5

theorem inb_eq (A B C D m : Int) : inb A B C D m = decide (lo5 (-m) A B C D = -m ∧ hi5 m A B C D = m) := by
  have h1 := lo5_eq A B C D m
  have h2 := hi5_eq A B C D m
  unfold inb
  rw [decide_eq_decide, h1, h2]
  constructor <;> intro h <;> omega

set_option maxHeartbeats 1000000 in
theorem within_any (A B C D K m : Int) (w : World) (hm : 0 ≤ m) (hm2 : m ≤ 1073741824) :
    Calls Tryd.prog 63 #[nv A B C D K, .int .i64 m] w (Gives (.bool (inb A B C D m)) w) := by
  rw [inb_eq]
  go_enter Tryd.func63, Tryd.ntmps63
  go_wp2
  all_goals
    go_ret
    exact ⟨by simp [*], (by repeat (first | with_reducible exact Below.refl _ _ | with_reducible refine below_al ?_ _ | with_reducible refine below_dN ?_ _ | with_reducible refine Below.drew ?_ | (with_reducible refine Below.setCell ?_ (by simp <;> omega) _) | (with_reducible refine below_via (by assumption) ?_)))⟩

set_option maxHeartbeats 1000000 in
theorem check_any (A B C D K : Int) (w : World) :
    Calls Tryd.prog 50 #[nv A B C D K] w (Gives (.int .i64 (chk A B C D K)) w) := by
  by_cases h1 : K < 0
  · go_enter Tryd.func50, Tryd.ntmps50
    go_wp2_with fail
    go_ret
    exact ⟨by simp [chk, h1], (by repeat (first | with_reducible exact Below.refl _ _ | with_reducible refine below_al ?_ _ | with_reducible refine below_dN ?_ _ | with_reducible refine Below.drew ?_ | (with_reducible refine Below.setCell ?_ (by simp <;> omega) _) | (with_reducible refine below_via (by assumption) ?_)))⟩
  · by_cases h2 : 60 < K
    · go_enter Tryd.func50, Tryd.ntmps50
      go_wp2_with fail
      go_ret
      exact ⟨by simp [chk, h2], (by repeat (first | with_reducible exact Below.refl _ _ | with_reducible refine below_al ?_ _ | with_reducible refine below_dN ?_ _ | with_reducible refine Below.drew ?_ | (with_reducible refine Below.setCell ?_ (by simp <;> omega) _) | (with_reducible refine below_via (by assumption) ?_)))⟩
    · have h3 : ¬ (K < 0 ∨ 60 < K) := by omega
      have H3 := Lib.hid h3
      clear h3
      cases hi : inb A B C D 1073741824
      all_goals
        have Hi := Lib.hid hi
        clear hi
        go_enter Tryd.func50, Tryd.ntmps50
        go_wp2_with (go_at_call 63; refine (within_any _ _ _ _ _ _ _ (by omega) (by omega)).mono ?_; rw [Hi.out]; rintro e w1 ⟨rfl, hb⟩)
        go_ret
        exact ⟨by simp [chk, H3.out, Hi.out], (by repeat (first | with_reducible exact Below.refl _ _ | with_reducible refine below_al ?_ _ | with_reducible refine below_dN ?_ _ | with_reducible refine Below.drew ?_ | (with_reducible refine Below.setCell ?_ (by simp <;> omega) _) | (with_reducible refine below_via (by assumption) ?_)))⟩

set_option maxHeartbeats 1000000 in
theorem coefs_any (A B C D K : Int) (w : World) :
    Calls Tryd.prog 70 #[nv A B C D K] w (Gives (.agg #[.int .i64 A, .int .i64 B, .int .i64 C, .int .i64 D]) w) := by
  go_enter Tryd.func70, Tryd.ntmps70
  go_wp2
  exact bodyPost_ret (v := .agg #[.int .i64 A, .int .i64 B, .int .i64 C, .int .i64 D]) (by simp [results, Tryd.results70, go_sem]) rfl ⟨rfl, (by repeat (first | with_reducible exact Below.refl _ _ | with_reducible refine below_al ?_ _ | with_reducible refine below_dN ?_ _ | with_reducible refine Below.drew ?_ | (with_reducible refine Below.setCell ?_ (by simp <;> omega) _) | (with_reducible refine below_via (by assumption) ?_)))⟩

set_option maxHeartbeats 1000000 in
theorem over_any (A B C D K : Int) (w : World) :
    Calls Tryd.prog 55 #[.agg #[.int .i64 A, .int .i64 B, .int .i64 C, .int .i64 D], .int .i64 K] w (Gives (nv A B C D K) w) := by
  go_enter Tryd.func55, Tryd.ntmps55
  go_wp2
  exact bodyPost_ret (v := nv A B C D K) (by simp [results, Tryd.results55, go_sem]) rfl ⟨rfl, (by repeat (first | with_reducible exact Below.refl _ _ | with_reducible refine below_al ?_ _ | with_reducible refine below_dN ?_ _ | with_reducible refine Below.drew ?_ | (with_reducible refine Below.setCell ?_ (by simp <;> omega) _) | (with_reducible refine below_via (by assumption) ?_)))⟩

set_option maxHeartbeats 1000000 in
theorem negative_any (A B C D K : Int) (w : World) (hA : -4611686018427387904 ≤ A ∧ A ≤ 4611686018427387904) (hB : -4611686018427387904 ≤ B ∧ B ≤ 4611686018427387904) (hC : -4611686018427387904 ≤ C ∧ C ≤ 4611686018427387904) (hD : -4611686018427387904 ≤ D ∧ D ≤ 4611686018427387904) :
    Calls Tryd.prog 78 #[nv A B C D K] w (Gives (nv (-A) (-B) (-C) (-D) K) w) := by
  obtain ⟨hA1, hA2⟩ := hA
  obtain ⟨hB1, hB2⟩ := hB
  obtain ⟨hC1, hC2⟩ := hC
  obtain ⟨hD1, hD2⟩ := hD
  go_enter Tryd.func78, Tryd.ntmps78
  go_wp2
  exact bodyPost_ret (v := nv (-A) (-B) (-C) (-D) K) (by simp [results, Tryd.results78, go_sem]) rfl ⟨rfl, (by repeat (first | with_reducible exact Below.refl _ _ | with_reducible refine below_al ?_ _ | with_reducible refine below_dN ?_ _ | with_reducible refine Below.drew ?_ | (with_reducible refine Below.setCell ?_ (by simp <;> omega) _) | (with_reducible refine below_via (by assumption) ?_)))⟩

set_option maxHeartbeats 1000000 in
theorem conjugate_any (A B C D K : Int) (w : World) (hB : -4611686018427387904 ≤ B ∧ B ≤ 4611686018427387904) (hC : -4611686018427387904 ≤ C ∧ C ≤ 4611686018427387904) (hD : -4611686018427387904 ≤ D ∧ D ≤ 4611686018427387904) :
    Calls Tryd.prog 83 #[nv A B C D K] w (Gives (nv A (-D) (-C) (-B) K) w) := by
  obtain ⟨hB1, hB2⟩ := hB
  obtain ⟨hC1, hC2⟩ := hC
  obtain ⟨hD1, hD2⟩ := hD
  go_enter Tryd.func83, Tryd.ntmps83
  go_wp2
  exact bodyPost_ret (v := nv A (-D) (-C) (-B) K) (by simp [results, Tryd.results83, go_sem]) rfl ⟨rfl, (by repeat (first | with_reducible exact Below.refl _ _ | with_reducible refine below_al ?_ _ | with_reducible refine below_dN ?_ _ | with_reducible refine Below.drew ?_ | (with_reducible refine Below.setCell ?_ (by simp <;> omega) _) | (with_reducible refine below_via (by assumption) ?_)))⟩
end Go.Proofs.YtjalpolciofphaaDoor
