
/- The reference's small functions: beyond, Check, zero, even, halved. -/
import Derived.Test.YtjalpolciofphaaDoorWb
set_option linter.all false
set_option maxRecDepth 100000
namespace Go.Proofs.YtjalpolciofphaaDoor
open Go.RowKit

set_option maxHeartbeats 2000000 in
theorem r_beyond (A B C D K m : Int) (w : World) (hm : 0 ≤ m) (hm2 : m ≤ 1073741824) :
    Calls Tryd.prog 56 #[nv A B C D K, .int .i64 m] w (Gives (.bool (!inb A B C D m)) w) := by
  have hq : inb A B C D m = decide (¬ m < A ∧ ¬ A < -m ∧ ¬ m < B ∧ ¬ B < -m ∧ ¬ m < C ∧ ¬ C < -m ∧ ¬ m < D ∧ ¬ D < -m) := by
    unfold inb; congr 1; apply propext; constructor <;> intro h <;> omega
  rw [hq]
  clear hq
  by_cases h1 : m < A
  · (rw [show (!decide (¬ m < A ∧ ¬ A < -m ∧ ¬ m < B ∧ ¬ B < -m ∧ ¬ m < C ∧ ¬ C < -m ∧ ¬ m < D ∧ ¬ D < -m)) = true by simp; omega]; go_enter Tryd.func56, Tryd.ntmps56; go_wp2; go_ret; exact ⟨rfl, (by repeat (first | with_reducible exact Below.refl _ _ | with_reducible refine below_al ?_ _ | with_reducible refine below_dN ?_ _ | with_reducible refine Below.drew ?_ | (with_reducible refine Below.setCell ?_ (by simp <;> omega) _) | (with_reducible refine below_via (by assumption) ?_)))⟩)
  by_cases h2 : A < -m
  · (rw [show (!decide (¬ m < A ∧ ¬ A < -m ∧ ¬ m < B ∧ ¬ B < -m ∧ ¬ m < C ∧ ¬ C < -m ∧ ¬ m < D ∧ ¬ D < -m)) = true by simp; omega]; go_enter Tryd.func56, Tryd.ntmps56; go_wp2; go_ret; exact ⟨rfl, (by repeat (first | with_reducible exact Below.refl _ _ | with_reducible refine below_al ?_ _ | with_reducible refine below_dN ?_ _ | with_reducible refine Below.drew ?_ | (with_reducible refine Below.setCell ?_ (by simp <;> omega) _) | (with_reducible refine below_via (by assumption) ?_)))⟩)
  by_cases h3 : m < B
  · (rw [show (!decide (¬ m < A ∧ ¬ A < -m ∧ ¬ m < B ∧ ¬ B < -m ∧ ¬ m < C ∧ ¬ C < -m ∧ ¬ m < D ∧ ¬ D < -m)) = true by simp; omega]; go_enter Tryd.func56, Tryd.ntmps56; go_wp2; go_ret; exact ⟨rfl, (by repeat (first | with_reducible exact Below.refl _ _ | with_reducible refine below_al ?_ _ | with_reducible refine below_dN ?_ _ | with_reducible refine Below.drew ?_ | (with_reducible refine Below.setCell ?_ (by simp <;> omega) _) | (with_reducible refine below_via (by assumption) ?_)))⟩)
  by_cases h4 : B < -m
  · (rw [show (!decide (¬ m < A ∧ ¬ A < -m ∧ ¬ m < B ∧ ¬ B < -m ∧ ¬ m < C ∧ ¬ C < -m ∧ ¬ m < D ∧ ¬ D < -m)) = true by simp; omega]; go_enter Tryd.func56, Tryd.ntmps56; go_wp2; go_ret; exact ⟨rfl, (by repeat (first | with_reducible exact Below.refl _ _ | with_reducible refine below_al ?_ _ | with_reducible refine below_dN ?_ _ | with_reducible refine Below.drew ?_ | (with_reducible refine Below.setCell ?_ (by simp <;> omega) _) | (with_reducible refine below_via (by assumption) ?_)))⟩)
  by_cases h5 : m < C
  · (rw [show (!decide (¬ m < A ∧ ¬ A < -m ∧ ¬ m < B ∧ ¬ B < -m ∧ ¬ m < C ∧ ¬ C < -m ∧ ¬ m < D ∧ ¬ D < -m)) = true by simp; omega]; go_enter Tryd.func56, Tryd.ntmps56; go_wp2; go_ret; exact ⟨rfl, (by repeat (first | with_reducible exact Below.refl _ _ | with_reducible refine below_al ?_ _ | with_reducible refine below_dN ?_ _ | with_reducible refine Below.drew ?_ | (with_reducible refine Below.setCell ?_ (by simp <;> omega) _) | (with_reducible refine below_via (by assumption) ?_)))⟩)
  by_cases h6 : C < -m
  · (rw [show (!decide (¬ m < A ∧ ¬ A < -m ∧ ¬ m < B ∧ ¬ B < -m ∧ ¬ m < C ∧ ¬ C < -m ∧ ¬ m < D ∧ ¬ D < -m)) = true by simp; omega]; go_enter Tryd.func56, Tryd.ntmps56; go_wp2; go_ret; exact ⟨rfl, (by repeat (first | with_reducible exact Below.refl _ _ | with_reducible refine below_al ?_ _ | with_reducible refine below_dN ?_ _ | with_reducible refine Below.drew ?_ | (with_reducible refine Below.setCell ?_ (by simp <;> omega) _) | (with_reducible refine below_via (by assumption) ?_)))⟩)
  by_cases h7 : m < D
  · (rw [show (!decide (¬ m < A ∧ ¬ A < -m ∧ ¬ m < B ∧ ¬ B < -m ∧ ¬ m < C ∧ ¬ C < -m ∧ ¬ m < D ∧ ¬ D < -m)) = true by simp; omega]; go_enter Tryd.func56, Tryd.ntmps56; go_wp2; go_ret; exact ⟨rfl, (by repeat (first | with_reducible exact Below.refl _ _ | with_reducible refine below_al ?_ _ | with_reducible refine below_dN ?_ _ | with_reducible refine Below.drew ?_ | (with_reducible refine Below.setCell ?_ (by simp <;> omega) _) | (with_reducible refine below_via (by assumption) ?_)))⟩)
  by_cases h8 : D < -m
  · (rw [show (!decide (¬ m < A ∧ ¬ A < -m ∧ ¬ m < B ∧ ¬ B < -m ∧ ¬ m < C ∧ ¬ C < -m ∧ ¬ m < D ∧ ¬ D < -m)) = true by simp; omega]; go_enter Tryd.func56, Tryd.ntmps56; go_wp2; go_ret; exact ⟨rfl, (by repeat (first | with_reducible exact Below.refl _ _ | with_reducible refine below_al ?_ _ | with_reducible refine below_dN ?_ _ | with_reducible refine Below.drew ?_ | (with_reducible refine Below.setCell ?_ (by simp <;> omega) _) | (with_reducible refine below_via (by assumption) ?_)))⟩)
  rw [show (!decide (¬ m < A ∧ ¬ A < -m ∧ ¬ m < B ∧ ¬ B < -m ∧ ¬ m < C ∧ ¬ C < -m ∧ ¬ m < D ∧ ¬ D < -m)) = false by simp; omega]
  go_enter Tryd.func56, Tryd.ntmps56
  go_wp2
  go_ret
  exact ⟨rfl, (by repeat (first | with_reducible exact Below.refl _ _ | with_reducible refine below_al ?_ _ | with_reducible refine below_dN ?_ _ | with_reducible refine Below.drew ?_ | (with_reducible refine Below.setCell ?_ (by simp <;> omega) _) | (with_reducible refine below_via (by assumption) ?_)))⟩

set_option maxHeartbeats 1000000 in
theorem r_check (A B C D K : Int) (w : World) : Calls Tryd.prog 49 #[nv A B C D K] w (Gives (.int .i64 (chk A B C D K)) w) := by
  by_cases h1 : K < 0
  · rw [show chk A B C D K = 3 by simp [chk, h1]]
    go_enter Tryd.func49, Tryd.ntmps49
    go_wp2_with fail
    go_ret
    exact ⟨rfl, (by repeat (first | with_reducible exact Below.refl _ _ | with_reducible refine below_al ?_ _ | with_reducible refine below_dN ?_ _ | with_reducible refine Below.drew ?_ | (with_reducible refine Below.setCell ?_ (by simp <;> omega) _) | (with_reducible refine below_via (by assumption) ?_)))⟩
  by_cases h2 : 60 < K
  · rw [show chk A B C D K = 3 by simp [chk, h2]]
    go_enter Tryd.func49, Tryd.ntmps49
    go_wp2_with fail
    go_ret
    exact ⟨rfl, (by repeat (first | with_reducible exact Below.refl _ _ | with_reducible refine below_al ?_ _ | with_reducible refine below_dN ?_ _ | with_reducible refine Below.drew ?_ | (with_reducible refine Below.setCell ?_ (by simp <;> omega) _) | (with_reducible refine below_via (by assumption) ?_)))⟩
  have HB : Hid (∀ w, Calls Tryd.prog 56 #[nv A B C D K, .int .i64 1073741824] w (Gives (.bool (!inb A B C D 1073741824)) w)) := fun w => r_beyond A B C D K _ w (by omega) (by omega)
  cases hi : inb A B C D 1073741824 with
  | true =>
    rw [show chk A B C D K = 0 by simp [chk, h1, h2, hi]]
    rw [hi] at HB
    go_enter Tryd.func49, Tryd.ntmps49
    go_wp2_with fail
    refine (HB.out _).mono ?_
    rintro e w1 ⟨rfl, hb⟩
    go_wp2_with fail
    go_ret
    exact ⟨rfl, (by repeat (first | with_reducible exact Below.refl _ _ | with_reducible refine below_al ?_ _ | with_reducible refine below_dN ?_ _ | with_reducible refine Below.drew ?_ | (with_reducible refine Below.setCell ?_ (by simp <;> omega) _) | (with_reducible refine below_via (by assumption) ?_)))⟩
  | false =>
    rw [show chk A B C D K = 8 by simp [chk, h1, h2, hi]]
    rw [hi] at HB
    go_enter Tryd.func49, Tryd.ntmps49
    go_wp2_with fail
    refine (HB.out _).mono ?_
    rintro e w1 ⟨rfl, hb⟩
    go_wp2_with fail
    go_ret
    exact ⟨rfl, (by repeat (first | with_reducible exact Below.refl _ _ | with_reducible refine below_al ?_ _ | with_reducible refine below_dN ?_ _ | with_reducible refine Below.drew ?_ | (with_reducible refine Below.setCell ?_ (by simp <;> omega) _) | (with_reducible refine below_via (by assumption) ?_)))⟩

set_option maxHeartbeats 1000000 in
theorem r_zero (A B C D K : Int) (w : World) : Calls Tryd.prog 57 #[nv A B C D K] w (Gives (.bool (Nm.zero ⟨A, B, C, D, K⟩)) w) := by
  by_cases h1 : A = 0
  · by_cases h2 : B = 0
    · by_cases h3 : C = 0
      · by_cases h4 : D = 0
        · (go_enter Tryd.func57, Tryd.ntmps57; go_wp2; go_ret; exact ⟨by simp [Nm.zero, *], (by repeat (first | with_reducible exact Below.refl _ _ | with_reducible refine below_al ?_ _ | with_reducible refine below_dN ?_ _ | with_reducible refine Below.drew ?_ | (with_reducible refine Below.setCell ?_ (by simp <;> omega) _) | (with_reducible refine below_via (by assumption) ?_)))⟩)
        · have h4' : (D == 0) = false := by simp [h4]
          (go_enter Tryd.func57, Tryd.ntmps57; go_wp2; go_ret; exact ⟨by simp [Nm.zero, *], (by repeat (first | with_reducible exact Below.refl _ _ | with_reducible refine below_al ?_ _ | with_reducible refine below_dN ?_ _ | with_reducible refine Below.drew ?_ | (with_reducible refine Below.setCell ?_ (by simp <;> omega) _) | (with_reducible refine below_via (by assumption) ?_)))⟩)
      · have h3' : (C == 0) = false := by simp [h3]
        (go_enter Tryd.func57, Tryd.ntmps57; go_wp2; go_ret; exact ⟨by simp [Nm.zero, *], (by repeat (first | with_reducible exact Below.refl _ _ | with_reducible refine below_al ?_ _ | with_reducible refine below_dN ?_ _ | with_reducible refine Below.drew ?_ | (with_reducible refine Below.setCell ?_ (by simp <;> omega) _) | (with_reducible refine below_via (by assumption) ?_)))⟩)
    · have h2' : (B == 0) = false := by simp [h2]
      (go_enter Tryd.func57, Tryd.ntmps57; go_wp2; go_ret; exact ⟨by simp [Nm.zero, *], (by repeat (first | with_reducible exact Below.refl _ _ | with_reducible refine below_al ?_ _ | with_reducible refine below_dN ?_ _ | with_reducible refine Below.drew ?_ | (with_reducible refine Below.setCell ?_ (by simp <;> omega) _) | (with_reducible refine below_via (by assumption) ?_)))⟩)
  · have h1' : (A == 0) = false := by simp [h1]
    (go_enter Tryd.func57, Tryd.ntmps57; go_wp2; go_ret; exact ⟨by simp [Nm.zero, *], (by repeat (first | with_reducible exact Below.refl _ _ | with_reducible refine below_al ?_ _ | with_reducible refine below_dN ?_ _ | with_reducible refine Below.drew ?_ | (with_reducible refine Below.setCell ?_ (by simp <;> omega) _) | (with_reducible refine below_via (by assumption) ?_)))⟩)

set_option maxHeartbeats 1000000 in
theorem r_even (A B C D K : Int) (w : World) : Calls Tryd.prog 59 #[nv A B C D K] w (Gives (.bool (Nm.even ⟨A, B, C, D, K⟩)) w) := by
  have b1 := bits_and1 A
  have b2 := bits_and1 B
  have b3 := bits_and1 C
  have b4 := bits_and1 D
  by_cases h1 : A % 2 = C % 2
  · have g1 : (A % 2 == C % 2) = true := by simp [h1]
    by_cases h2 : B % 2 = D % 2
    · have g2 : (B % 2 == D % 2) = true := by simp [h2]
      have e : Nm.even ⟨A, B, C, D, K⟩ = true := decide_eq_true ⟨by dsimp only; omega, by dsimp only; omega⟩
      rw [e]
      clear h1 h2 e
      go_enter Tryd.func59, Tryd.ntmps59
      go_wp2
      go_ret
      exact ⟨rfl, (by repeat (first | with_reducible exact Below.refl _ _ | with_reducible refine below_al ?_ _ | with_reducible refine below_dN ?_ _ | with_reducible refine Below.drew ?_ | (with_reducible refine Below.setCell ?_ (by simp <;> omega) _) | (with_reducible refine below_via (by assumption) ?_)))⟩
    · have g2 : (B % 2 == D % 2) = false := by simp [h2]
      have e : Nm.even ⟨A, B, C, D, K⟩ = false := decide_eq_false fun h => by dsimp only at h; omega
      rw [e]
      clear h1 h2 e
      go_enter Tryd.func59, Tryd.ntmps59
      go_wp2
      go_ret
      exact ⟨rfl, (by repeat (first | with_reducible exact Below.refl _ _ | with_reducible refine below_al ?_ _ | with_reducible refine below_dN ?_ _ | with_reducible refine Below.drew ?_ | (with_reducible refine Below.setCell ?_ (by simp <;> omega) _) | (with_reducible refine below_via (by assumption) ?_)))⟩
  · have g1 : (A % 2 == C % 2) = false := by simp [h1]
    have e : Nm.even ⟨A, B, C, D, K⟩ = false := decide_eq_false fun h => by dsimp only at h; omega
    rw [e]
    clear h1 e
    go_enter Tryd.func59, Tryd.ntmps59
    go_wp2
    go_ret
    exact ⟨rfl, (by repeat (first | with_reducible exact Below.refl _ _ | with_reducible refine below_al ?_ _ | with_reducible refine below_dN ?_ _ | with_reducible refine Below.drew ?_ | (with_reducible refine Below.setCell ?_ (by simp <;> omega) _) | (with_reducible refine below_via (by assumption) ?_)))⟩

/-- Halved, with the same K. -/
def halfK (x : Nm) : Nm := ⟨x.B / 2 - x.D / 2, x.A / 2 + x.C / 2 + x.A % 2, x.B / 2 + x.D / 2 + x.B % 2, x.C / 2 - x.A / 2, x.K⟩
set_option maxHeartbeats 1000000 in
theorem r_halved (A B C D K : Int) (w : World) (hx : Nm.wide ⟨A, B, C, D, K⟩) : Calls Tryd.prog 60 #[nv A B C D K] w (Gives (halfK ⟨A, B, C, D, K⟩).v w) := by
  obtain ⟨⟨hA1, hA2⟩, ⟨hB1, hB2⟩, ⟨hC1, hC2⟩, ⟨hD1, hD2⟩⟩ := hx
  dsimp only at *
  have b1 := bits_and1 A
  have b2 := bits_and1 B
  go_enter Tryd.func60, Tryd.ntmps60
  go_wp2
  exact bodyPost_ret (v := (halfK ⟨A, B, C, D, K⟩).v) (by simp [results, Tryd.results60, go_sem, halfK]) rfl ⟨rfl, (by repeat (first | with_reducible exact Below.refl _ _ | with_reducible refine below_al ?_ _ | with_reducible refine below_dN ?_ _ | with_reducible refine Below.drew ?_ | (with_reducible refine Below.setCell ?_ (by simp <;> omega) _) | (with_reducible refine below_via (by assumption) ?_)))⟩
end Go.Proofs.YtjalpolciofphaaDoor
