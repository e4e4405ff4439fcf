/- The reference's Same. -/
import Derived.Test.YtcdmcndjbajhlaaGreatDoorJa
import Derived.Test.YtcdmcndjbajhlaaGreatDoorJc
import Derived.Test.YtcdmcndjbajhlaaGreatDoorJo
set_option linter.all false
set_option maxRecDepth 100000
namespace Go.Proofs.YtcdmcndjbajhlaaGreatDoor
open Go.RowKit

set_option maxHeartbeats 2000000 in
theorem r_beyond (A B C D K m : Int) (w : World) (hm : 0 ≤ m) (hm2 : m ≤ 1073741824) :
    Calls Tryz.prog 84 #[nv A B C D K, .int .i64 m] w (Gives (.bool (!inb A B C D m)) w) := by
  have hq : inb A B C D m = decide (¬ m < A ∧ ¬ A < -m ∧ ¬ m < B ∧ ¬ B < -m ∧ ¬ m < C ∧ ¬ C < -m ∧ ¬ m < D ∧ ¬ D < -m) := by
    unfold inb; congr 1; apply propext; constructor <;> intro h <;> omega
  rw [hq]
  clear hq
  by_cases h1 : m < A
  · (rw [show (!decide (¬ m < A ∧ ¬ A < -m ∧ ¬ m < B ∧ ¬ B < -m ∧ ¬ m < C ∧ ¬ C < -m ∧ ¬ m < D ∧ ¬ D < -m)) = true by simp; omega]; go_enter Tryz.func84, Tryz.ntmps84; go_wp2; go_ret; exact ⟨rfl, (by repeat (first | with_reducible exact Below.refl _ _ | with_reducible refine below_al ?_ _ | with_reducible refine below_dN ?_ _ | with_reducible refine Below.drew ?_ | (with_reducible refine Below.setCell ?_ (by simp <;> omega) _) | (with_reducible refine below_via (by assumption) ?_)))⟩)
  by_cases h2 : A < -m
  · (rw [show (!decide (¬ m < A ∧ ¬ A < -m ∧ ¬ m < B ∧ ¬ B < -m ∧ ¬ m < C ∧ ¬ C < -m ∧ ¬ m < D ∧ ¬ D < -m)) = true by simp; omega]; go_enter Tryz.func84, Tryz.ntmps84; go_wp2; go_ret; exact ⟨rfl, (by repeat (first | with_reducible exact Below.refl _ _ | with_reducible refine below_al ?_ _ | with_reducible refine below_dN ?_ _ | with_reducible refine Below.drew ?_ | (with_reducible refine Below.setCell ?_ (by simp <;> omega) _) | (with_reducible refine below_via (by assumption) ?_)))⟩)
  by_cases h3 : m < B
  · (rw [show (!decide (¬ m < A ∧ ¬ A < -m ∧ ¬ m < B ∧ ¬ B < -m ∧ ¬ m < C ∧ ¬ C < -m ∧ ¬ m < D ∧ ¬ D < -m)) = true by simp; omega]; go_enter Tryz.func84, Tryz.ntmps84; go_wp2; go_ret; exact ⟨rfl, (by repeat (first | with_reducible exact Below.refl _ _ | with_reducible refine below_al ?_ _ | with_reducible refine below_dN ?_ _ | with_reducible refine Below.drew ?_ | (with_reducible refine Below.setCell ?_ (by simp <;> omega) _) | (with_reducible refine below_via (by assumption) ?_)))⟩)
  by_cases h4 : B < -m
  · (rw [show (!decide (¬ m < A ∧ ¬ A < -m ∧ ¬ m < B ∧ ¬ B < -m ∧ ¬ m < C ∧ ¬ C < -m ∧ ¬ m < D ∧ ¬ D < -m)) = true by simp; omega]; go_enter Tryz.func84, Tryz.ntmps84; go_wp2; go_ret; exact ⟨rfl, (by repeat (first | with_reducible exact Below.refl _ _ | with_reducible refine below_al ?_ _ | with_reducible refine below_dN ?_ _ | with_reducible refine Below.drew ?_ | (with_reducible refine Below.setCell ?_ (by simp <;> omega) _) | (with_reducible refine below_via (by assumption) ?_)))⟩)
  by_cases h5 : m < C
  · (rw [show (!decide (¬ m < A ∧ ¬ A < -m ∧ ¬ m < B ∧ ¬ B < -m ∧ ¬ m < C ∧ ¬ C < -m ∧ ¬ m < D ∧ ¬ D < -m)) = true by simp; omega]; go_enter Tryz.func84, Tryz.ntmps84; go_wp2; go_ret; exact ⟨rfl, (by repeat (first | with_reducible exact Below.refl _ _ | with_reducible refine below_al ?_ _ | with_reducible refine below_dN ?_ _ | with_reducible refine Below.drew ?_ | (with_reducible refine Below.setCell ?_ (by simp <;> omega) _) | (with_reducible refine below_via (by assumption) ?_)))⟩)
  by_cases h6 : C < -m
  · (rw [show (!decide (¬ m < A ∧ ¬ A < -m ∧ ¬ m < B ∧ ¬ B < -m ∧ ¬ m < C ∧ ¬ C < -m ∧ ¬ m < D ∧ ¬ D < -m)) = true by simp; omega]; go_enter Tryz.func84, Tryz.ntmps84; go_wp2; go_ret; exact ⟨rfl, (by repeat (first | with_reducible exact Below.refl _ _ | with_reducible refine below_al ?_ _ | with_reducible refine below_dN ?_ _ | with_reducible refine Below.drew ?_ | (with_reducible refine Below.setCell ?_ (by simp <;> omega) _) | (with_reducible refine below_via (by assumption) ?_)))⟩)
  by_cases h7 : m < D
  · (rw [show (!decide (¬ m < A ∧ ¬ A < -m ∧ ¬ m < B ∧ ¬ B < -m ∧ ¬ m < C ∧ ¬ C < -m ∧ ¬ m < D ∧ ¬ D < -m)) = true by simp; omega]; go_enter Tryz.func84, Tryz.ntmps84; go_wp2; go_ret; exact ⟨rfl, (by repeat (first | with_reducible exact Below.refl _ _ | with_reducible refine below_al ?_ _ | with_reducible refine below_dN ?_ _ | with_reducible refine Below.drew ?_ | (with_reducible refine Below.setCell ?_ (by simp <;> omega) _) | (with_reducible refine below_via (by assumption) ?_)))⟩)
  by_cases h8 : D < -m
  · (rw [show (!decide (¬ m < A ∧ ¬ A < -m ∧ ¬ m < B ∧ ¬ B < -m ∧ ¬ m < C ∧ ¬ C < -m ∧ ¬ m < D ∧ ¬ D < -m)) = true by simp; omega]; go_enter Tryz.func84, Tryz.ntmps84; go_wp2; go_ret; exact ⟨rfl, (by repeat (first | with_reducible exact Below.refl _ _ | with_reducible refine below_al ?_ _ | with_reducible refine below_dN ?_ _ | with_reducible refine Below.drew ?_ | (with_reducible refine Below.setCell ?_ (by simp <;> omega) _) | (with_reducible refine below_via (by assumption) ?_)))⟩)
  rw [show (!decide (¬ m < A ∧ ¬ A < -m ∧ ¬ m < B ∧ ¬ B < -m ∧ ¬ m < C ∧ ¬ C < -m ∧ ¬ m < D ∧ ¬ D < -m)) = false by simp; omega]
  go_enter Tryz.func84, Tryz.ntmps84
  go_wp2
  go_ret
  exact ⟨rfl, (by repeat (first | with_reducible exact Below.refl _ _ | with_reducible refine below_al ?_ _ | with_reducible refine below_dN ?_ _ | with_reducible refine Below.drew ?_ | (with_reducible refine Below.setCell ?_ (by simp <;> omega) _) | (with_reducible refine below_via (by assumption) ?_)))⟩

set_option maxHeartbeats 1000000 in
theorem r_check (A B C D K : Int) (w : World) : Calls Tryz.prog 41 #[nv A B C D K] w (Gives (.int .i64 (chk A B C D K)) w) := by
  by_cases h1 : K < 0
  · rw [show chk A B C D K = 3 by simp [chk, h1]]
    go_enter Tryz.func41, Tryz.ntmps41
    go_wp2_with fail
    go_ret
    exact ⟨rfl, (by repeat (first | with_reducible exact Below.refl _ _ | with_reducible refine below_al ?_ _ | with_reducible refine below_dN ?_ _ | with_reducible refine Below.drew ?_ | (with_reducible refine Below.setCell ?_ (by simp <;> omega) _) | (with_reducible refine below_via (by assumption) ?_)))⟩
  by_cases h2 : 60 < K
  · rw [show chk A B C D K = 3 by simp [chk, h2]]
    go_enter Tryz.func41, Tryz.ntmps41
    go_wp2_with fail
    go_ret
    exact ⟨rfl, (by repeat (first | with_reducible exact Below.refl _ _ | with_reducible refine below_al ?_ _ | with_reducible refine below_dN ?_ _ | with_reducible refine Below.drew ?_ | (with_reducible refine Below.setCell ?_ (by simp <;> omega) _) | (with_reducible refine below_via (by assumption) ?_)))⟩
  have HB : Hid (∀ w, Calls Tryz.prog 84 #[nv A B C D K, .int .i64 1073741824] w (Gives (.bool (!inb A B C D 1073741824)) w)) := fun w => r_beyond A B C D K _ w (by omega) (by omega)
  cases hi : inb A B C D 1073741824 with
  | true =>
    rw [show chk A B C D K = 0 by simp [chk, h1, h2, hi]]
    rw [hi] at HB
    go_enter Tryz.func41, Tryz.ntmps41
    go_wp2_with fail
    refine (HB.out _).mono ?_
    rintro e w1 ⟨rfl, hb⟩
    go_wp2_with fail
    go_ret
    exact ⟨rfl, (by repeat (first | with_reducible exact Below.refl _ _ | with_reducible refine below_al ?_ _ | with_reducible refine below_dN ?_ _ | with_reducible refine Below.drew ?_ | (with_reducible refine Below.setCell ?_ (by simp <;> omega) _) | (with_reducible refine below_via (by assumption) ?_)))⟩
  | false =>
    rw [show chk A B C D K = 8 by simp [chk, h1, h2, hi]]
    rw [hi] at HB
    go_enter Tryz.func41, Tryz.ntmps41
    go_wp2_with fail
    refine (HB.out _).mono ?_
    rintro e w1 ⟨rfl, hb⟩
    go_wp2_with fail
    go_ret
    exact ⟨rfl, (by repeat (first | with_reducible exact Below.refl _ _ | with_reducible refine below_al ?_ _ | with_reducible refine below_dN ?_ _ | with_reducible refine Below.drew ?_ | (with_reducible refine Below.setCell ?_ (by simp <;> omega) _) | (with_reducible refine below_via (by assumption) ?_)))⟩

set_option maxHeartbeats 1000000 in
theorem r_zero (A B C D K : Int) (w : World) : Calls Tryz.prog 94 #[nv A B C D K] w (Gives (.bool (Nm.zero ⟨A, B, C, D, K⟩)) w) := by
  by_cases h1 : A = 0
  · by_cases h2 : B = 0
    · by_cases h3 : C = 0
      · by_cases h4 : D = 0
        · (go_enter Tryz.func94, Tryz.ntmps94; go_wp2; go_ret; exact ⟨by simp [Nm.zero, *], (by repeat (first | with_reducible exact Below.refl _ _ | with_reducible refine below_al ?_ _ | with_reducible refine below_dN ?_ _ | with_reducible refine Below.drew ?_ | (with_reducible refine Below.setCell ?_ (by simp <;> omega) _) | (with_reducible refine below_via (by assumption) ?_)))⟩)
        · have h4' : (D == 0) = false := by simp [h4]
          (go_enter Tryz.func94, Tryz.ntmps94; go_wp2; go_ret; exact ⟨by simp [Nm.zero, *], (by repeat (first | with_reducible exact Below.refl _ _ | with_reducible refine below_al ?_ _ | with_reducible refine below_dN ?_ _ | with_reducible refine Below.drew ?_ | (with_reducible refine Below.setCell ?_ (by simp <;> omega) _) | (with_reducible refine below_via (by assumption) ?_)))⟩)
      · have h3' : (C == 0) = false := by simp [h3]
        (go_enter Tryz.func94, Tryz.ntmps94; go_wp2; go_ret; exact ⟨by simp [Nm.zero, *], (by repeat (first | with_reducible exact Below.refl _ _ | with_reducible refine below_al ?_ _ | with_reducible refine below_dN ?_ _ | with_reducible refine Below.drew ?_ | (with_reducible refine Below.setCell ?_ (by simp <;> omega) _) | (with_reducible refine below_via (by assumption) ?_)))⟩)
    · have h2' : (B == 0) = false := by simp [h2]
      (go_enter Tryz.func94, Tryz.ntmps94; go_wp2; go_ret; exact ⟨by simp [Nm.zero, *], (by repeat (first | with_reducible exact Below.refl _ _ | with_reducible refine below_al ?_ _ | with_reducible refine below_dN ?_ _ | with_reducible refine Below.drew ?_ | (with_reducible refine Below.setCell ?_ (by simp <;> omega) _) | (with_reducible refine below_via (by assumption) ?_)))⟩)
  · have h1' : (A == 0) = false := by simp [h1]
    (go_enter Tryz.func94, Tryz.ntmps94; go_wp2; go_ret; exact ⟨by simp [Nm.zero, *], (by repeat (first | with_reducible exact Below.refl _ _ | with_reducible refine below_al ?_ _ | with_reducible refine below_dN ?_ _ | with_reducible refine Below.drew ?_ | (with_reducible refine Below.setCell ?_ (by simp <;> omega) _) | (with_reducible refine below_via (by assumption) ?_)))⟩)

set_option maxHeartbeats 1000000 in
theorem r_even (A B C D K : Int) (w : World) : Calls Tryz.prog 95 #[nv A B C D K] w (Gives (.bool (Nm.even ⟨A, B, C, D, K⟩)) w) := by
  have b1 := bits_and1 A
  have b2 := bits_and1 B
  have b3 := bits_and1 C
  have b4 := bits_and1 D
  by_cases h1 : A % 2 = C % 2
  · have g1 : (A % 2 == C % 2) = true := by simp [h1]
    by_cases h2 : B % 2 = D % 2
    · have g2 : (B % 2 == D % 2) = true := by simp [h2]
      have e : Nm.even ⟨A, B, C, D, K⟩ = true := decide_eq_true ⟨by dsimp only; omega, by dsimp only; omega⟩
      rw [e]
      clear h1 h2 e
      go_enter Tryz.func95, Tryz.ntmps95
      go_wp2
      go_ret
      exact ⟨rfl, (by repeat (first | with_reducible exact Below.refl _ _ | with_reducible refine below_al ?_ _ | with_reducible refine below_dN ?_ _ | with_reducible refine Below.drew ?_ | (with_reducible refine Below.setCell ?_ (by simp <;> omega) _) | (with_reducible refine below_via (by assumption) ?_)))⟩
    · have g2 : (B % 2 == D % 2) = false := by simp [h2]
      have e : Nm.even ⟨A, B, C, D, K⟩ = false := decide_eq_false fun h => by dsimp only at h; omega
      rw [e]
      clear h1 h2 e
      go_enter Tryz.func95, Tryz.ntmps95
      go_wp2
      go_ret
      exact ⟨rfl, (by repeat (first | with_reducible exact Below.refl _ _ | with_reducible refine below_al ?_ _ | with_reducible refine below_dN ?_ _ | with_reducible refine Below.drew ?_ | (with_reducible refine Below.setCell ?_ (by simp <;> omega) _) | (with_reducible refine below_via (by assumption) ?_)))⟩
  · have g1 : (A % 2 == C % 2) = false := by simp [h1]
    have e : Nm.even ⟨A, B, C, D, K⟩ = false := decide_eq_false fun h => by dsimp only at h; omega
    rw [e]
    clear h1 e
    go_enter Tryz.func95, Tryz.ntmps95
    go_wp2
    go_ret
    exact ⟨rfl, (by repeat (first | with_reducible exact Below.refl _ _ | with_reducible refine below_al ?_ _ | with_reducible refine below_dN ?_ _ | with_reducible refine Below.drew ?_ | (with_reducible refine Below.setCell ?_ (by simp <;> omega) _) | (with_reducible refine below_via (by assumption) ?_)))⟩

/-- Halved, with the same K. -/
def halfK (x : Nm) : Nm := ⟨x.B / 2 - x.D / 2, x.A / 2 + x.C / 2 + x.A % 2, x.B / 2 + x.D / 2 + x.B % 2, x.C / 2 - x.A / 2, x.K⟩
set_option maxHeartbeats 1000000 in
theorem r_halved (A B C D K : Int) (w : World) (hx : Nm.wide ⟨A, B, C, D, K⟩) : Calls Tryz.prog 96 #[nv A B C D K] w (Gives (halfK ⟨A, B, C, D, K⟩).v w) := by
  obtain ⟨⟨hA1, hA2⟩, ⟨hB1, hB2⟩, ⟨hC1, hC2⟩, ⟨hD1, hD2⟩⟩ := hx
  dsimp only at *
  have b1 := bits_and1 A
  have b2 := bits_and1 B
  go_enter Tryz.func96, Tryz.ntmps96
  go_wp2
  exact bodyPost_ret (v := (halfK ⟨A, B, C, D, K⟩).v) (by simp [results, Tryz.results96, go_sem, halfK]) rfl ⟨rfl, (by repeat (first | with_reducible exact Below.refl _ _ | with_reducible refine below_al ?_ _ | with_reducible refine below_dN ?_ _ | with_reducible refine Below.drew ?_ | (with_reducible refine Below.setCell ?_ (by simp <;> omega) _) | (with_reducible refine below_via (by assumption) ?_)))⟩
end Go.Proofs.YtcdmcndjbajhlaaGreatDoor
namespace Go.Proofs.YtcdmcndjbajhlaaGreatDoor
open Go.RowKit

/-- The K of the number in block b, as far as it is above 0. -/
def kAt (w : World) (b : Nat) : Nat := match w.cell? ⟨b, 4, none⟩ with
  | some (.int _ n) => n.toNat
  | _ => 0
theorem kAt_box {w : World} {b T : Nat} {x : Nm} (h : Box w b T x) : kAt w b = x.K.toNat := by
  unfold kAt; rw [h.cell.2.2.2.2]
theorem form_stop {x : Nm} (h : x.K ≤ 0 ∨ x.even = false) : form x.K.toNat x = x := by
  rcases h with h | h
  · rw [show x.K.toNat = 0 by omega]; rfl
  · cases x.K.toNat with
    | zero => rfl
    | succ n => rw [form, h]; rfl
theorem form_next {x : Nm} (h : 0 < x.K) (he : x.even = true) : form x.K.toNat x = form x.half.K.toNat x.half := by
  have hk : x.K.toNat = x.half.K.toNat + 1 := by show _ = (x.K - 1).toNat + 1; omega
  rw [hk, form, if_pos he]
theorem Box.other {w : World} {b b' o T : Nat} {x : Nm} {v : Value} (h : Box w b T x) (hn : b ≠ b') : Box (w.setCell ⟨b', o, none⟩ v) b T x := by
  unfold Box; rw [Below.heap_setCell _ _ _ _ hn]; exact h
theorem box_cells {w : World} {b T : Nat} {x : Nm} (h : Box w b T x) (y : Nm) :
    Box (((((w.setCell ⟨b, 0, none⟩ (.int .i64 y.A)).setCell ⟨b, 1, none⟩ (.int .i64 y.B)).setCell ⟨b, 2, none⟩ (.int .i64 y.C)).setCell ⟨b, 3, none⟩ (.int .i64 y.D)).setCell ⟨b, 4, none⟩ (.int .i64 y.K)) b T y :=
  heap_set (heap_set (heap_set (heap_set (heap_set h))))

set_option maxHeartbeats 4000000 in
theorem r_form (x : Nm) (w : World) (hx : x.wide) (hK : -1000 ≤ x.K ∧ x.K ≤ 1000) :
    Calls Tryz.prog 63 #[x.v] w (Gives x.least.v w) := by
  have HZ : Hid (∀ w, Calls Tryz.prog 94 #[x.v] w (Gives (.bool x.zero) w)) := fun w => r_zero x.A x.B x.C x.D x.K w
  have hl : x.least = if x.zero = true then nul else form x.K.toNat x := rfl
  cases hz : x.zero with
  | true =>
    rw [hl, hz, if_pos rfl]
    rw [hz] at HZ
    clear hl hz hx hK
    obtain ⟨A, B, C, D, K⟩ := x
    go_enter Tryz.func63, Tryz.ntmps63
    go_wp2_with fail
    refine (HZ.out _).mono ?_
    rintro e w1 ⟨rfl, hb⟩
    obtain ⟨hc, hf⟩ := bcell hb
    go_wp2_with fail
    exact bodyPost_ret (v := nul.v) (by simp [results, Tryz.results63, go_sem, hc, hf]) rfl ⟨rfl, (by repeat (first | with_reducible exact Below.refl _ _ | with_reducible refine below_al ?_ _ | with_reducible refine below_dN ?_ _ | with_reducible refine Below.drew ?_ | (with_reducible refine Below.setCell ?_ (by simp <;> omega) _) | (with_reducible refine below_via (by assumption) ?_)))⟩
  | false =>
    rw [hl, hz, if_neg (by simp)]
    rw [hz] at HZ
    obtain ⟨R, hR⟩ : ∃ R, R = form x.K.toNat x := ⟨_, rfl⟩
    rw [← hR]
    have HR := Lib.hid hR
    have HX := Lib.hid hx
    have HK := Lib.hid hK
    clear hl hz hx hK hR
    obtain ⟨A, B, C, D, K⟩ := x
    go_enter Tryz.func63, Tryz.ntmps63
    go_wp2_with fail
    refine (HZ.out _).mono ?_
    rintro e w1 ⟨rfl, hb⟩
    have bx : Box w1 w.heap.size 23 ⟨A, B, C, D, K⟩ := (box_al (box_new w _ _ _ _ _ _) _).below hb (by simp <;> omega)
    have b2 : Box w1 (w.heap.size + 1) 23 nul := by
      have h := box_new (w.alloc (.cells #[.int .i64 A, .int .i64 B, .int .i64 C, .int .i64 D, .int .i64 K] 23)) 0 0 0 0 0 23
      rw [World.size_alloc] at h
      exact h.below hb (by simp <;> omega)
    have hw1 : Below w.heap.size w w1 := (by repeat (first | with_reducible exact Below.refl _ _ | with_reducible refine below_al ?_ _ | with_reducible refine below_dN ?_ _ | with_reducible refine Below.drew ?_ | (with_reducible refine Below.setCell ?_ (by simp <;> omega) _) | (with_reducible refine below_via (by assumption) ?_)))
    have HB1 := Lib.hid bx
    have HB2 := Lib.hid b2
    clear bx b2
    go_wp2_with fail
    go_loopw [12] (fun _ wr => ∃ y : Nm, Hid (Box wr w.heap.size 23 y) ∧ Hid (Box wr (w.heap.size + 1) 23 nul) ∧ Hid y.wide ∧ Hid (-1000 ≤ y.K ∧ y.K ≤ 1000) ∧ Below w.heap.size w wr ∧ Hid (R = form y.K.toNat y)) (fun _ wr => kAt wr w.heap.size)
    case atStart => exact ⟨⟨A, B, C, D, K⟩, HB1, HB2, HX, HK, hw1, HR⟩
    case round =>
      obtain ⟨y, HY, HN, HYW, HYK, hwr, HF⟩ := hrel
      clear HB1 HB2 HX HK HR HZ
      have HYB := HY.out
      have HYB := Lib.hid HYB
      obtain ⟨a, b, c, d, k⟩ := y
      obtain ⟨c0, c1, c2, c3, c4⟩ := HY.out.cell
      obtain ⟨f0, f1, f2, f3, f4⟩ := HY.out.free
      obtain ⟨z0, z1, z2, z3, z4⟩ := HN.out.cell
      obtain ⟨g0, g1, g2, g3, g4⟩ := HN.out.free
      have hlt := HN.out.lt
      dsimp only at c0 c1 c2 c3 c4 z0 z1 z2 z3 z4
      by_cases hk : 0 < k
      · have HE : Hid (∀ w, Calls Tryz.prog 95 #[nv a b c d k] w (Gives (.bool (Nm.even ⟨a, b, c, d, k⟩)) w)) := fun w => r_even a b c d k w
        cases he : Nm.even ⟨a, b, c, d, k⟩ with
        | true =>
          have HH : Hid (∀ w, Calls Tryz.prog 96 #[nv a b c d k] w (Gives (halfK ⟨a, b, c, d, k⟩).v w)) := fun w => r_halved a b c d k w HYW.out
          rw [he] at HE
          go_wp2_with fail
          refine (HE.out _).mono ?_
          rintro e w2 ⟨rfl, hb2⟩
          have hw2 : Below w.heap.size w w2 := below_via hb2 hwr
          have HY2 := Lib.hid (HY.out.below hb2 HY.out.lt)
          have HN2 := Lib.hid (HN.out.below hb2 HN.out.lt)
          clear c0 c1 c2 c3 c4 f0 f1 f2 f3 f4 z0 z1 z2 z3 z4 g0 g1 g2 g3 g4 HY HN hlt
          obtain ⟨c0, c1, c2, c3, c4⟩ := HY2.out.cell
          dsimp only at c0 c1 c2 c3 c4
          go_wp2_with fail
          refine (HH.out _).mono ?_
          rintro e w3 ⟨rfl, hb3⟩
          have hw3 : Below w.heap.size w w3 := below_via hb3 hw2
          have HY3 := Lib.hid (HY2.out.below hb3 HY2.out.lt)
          have HN3 := Lib.hid (HN2.out.below hb3 HN2.out.lt)
          clear c0 c1 c2 c3 c4 HY2 HN2
          obtain ⟨c0, c1, c2, c3, c4⟩ := HY3.out.cell
          obtain ⟨f0, f1, f2, f3, f4⟩ := HY3.out.free
          have hlt := HY3.out.lt
          (try dsimp only at c0 c1 c2 c3 c4)
          obtain ⟨hk1, hk2⟩ := HYK.out
          (try dsimp only at hk1 hk2)
          have hh1 : (halfK ⟨a, b, c, d, k⟩).K = k := rfl
          have hh2 : Nm.half ⟨a, b, c, d, k⟩ = ⟨(halfK ⟨a, b, c, d, k⟩).A, (halfK ⟨a, b, c, d, k⟩).B, (halfK ⟨a, b, c, d, k⟩).C, (halfK ⟨a, b, c, d, k⟩).D, (halfK ⟨a, b, c, d, k⟩).K - 1⟩ := rfl
          have hww := Nm.wide_half HYW.out he
          have hnx := HF.out.trans (form_next hk he)
          rw [hh2] at hww hnx
          generalize halfK ⟨a, b, c, d, k⟩ = h at *
          have HH1 := Lib.hid hh1
          have HWW := Lib.hid hww
          have HNX := Lib.hid hnx
          have hk3 : -1000 ≤ h.K := by omega
          have hk4 : h.K ≤ 1000 := by omega
          clear hh1 hh2 hww hnx he
          go_wp2_with fail
          have hbox := box_cells HY3.out h
          have hbox2 : Box ((((((w3.setCell ⟨w.heap.size, 0, none⟩ (.int .i64 h.A)).setCell ⟨w.heap.size, 1, none⟩ (.int .i64 h.B)).setCell ⟨w.heap.size, 2, none⟩ (.int .i64 h.C)).setCell ⟨w.heap.size, 3, none⟩ (.int .i64 h.D)).setCell ⟨w.heap.size, 4, none⟩ (.int .i64 h.K)).setCell ⟨w.heap.size, 4, none⟩ (.int .i64 (h.K - 1))) w.heap.size 23 ⟨h.A, h.B, h.C, h.D, h.K - 1⟩ := heap_set hbox
          have hkm := kAt_box hbox2
          dsimp only at hkm
          go_roundw
          case rel => exact ⟨⟨h.A, h.B, h.C, h.D, h.K - 1⟩, hbox2, (((((HN3.out.other (by omega)).other (by omega)).other (by omega)).other (by omega)).other (by omega)).other (by omega), HWW.out, (by show -1000 ≤ h.K - 1 ∧ h.K - 1 ≤ 1000; have := HH1.out; omega), (by repeat (first | with_reducible exact Below.refl _ _ | with_reducible refine below_al ?_ _ | with_reducible refine below_dN ?_ _ | with_reducible refine Below.drew ?_ | (with_reducible refine Below.setCell ?_ (by simp <;> omega) _) | (with_reducible refine below_via (by assumption) ?_))), HNX.out⟩
          case measure =>
            rw [hkm, kAt_box HYB.out]
            have := HH1.out
            dsimp only
            omega
        | false =>
          rw [he] at HE
          have hre : R = ⟨a, b, c, d, k⟩ := HF.out.trans (form_stop (.inr he))
          have HRE := Lib.hid hre
          clear hre he
          go_wp2_with fail
          refine (HE.out _).mono ?_
          rintro e w2 ⟨rfl, hb2⟩
          have hw2 : Below w.heap.size w w2 := below_via hb2 hwr
          have HY2 := Lib.hid (HY.out.below hb2 HY.out.lt)
          have HN2 := Lib.hid (HN.out.below hb2 HN.out.lt)
          clear c0 c1 c2 c3 c4 f0 f1 f2 f3 f4 z0 z1 z2 z3 z4 g0 g1 g2 g3 g4 HY HN hlt
          obtain ⟨c0, c1, c2, c3, c4⟩ := HY2.out.cell
          obtain ⟨z0, z1, z2, z3, z4⟩ := HN2.out.cell
          obtain ⟨g0, g1, g2, g3, g4⟩ := HN2.out.free
          have hlt := HN2.out.lt
          dsimp only at c0 c1 c2 c3 c4 z0 z1 z2 z3 z4
          go_wp2_with fail
          rw [HRE.out]
          exact bodyPost_ret (v := nv a b c d k) (by simp [results, Tryz.results63, go_sem, z0, z1, z2, z3, z4]) rfl ⟨rfl, (by repeat (first | with_reducible exact Below.refl _ _ | with_reducible refine below_al ?_ _ | with_reducible refine below_dN ?_ _ | with_reducible refine Below.drew ?_ | (with_reducible refine Below.setCell ?_ (by simp <;> omega) _) | (with_reducible refine below_via (by assumption) ?_)))⟩
      · have hre : R = ⟨a, b, c, d, k⟩ := HF.out.trans (form_stop (.inl (by dsimp only; omega)))
        have HRE := Lib.hid hre
        clear hre
        go_wp2_with fail
        rw [HRE.out]
        exact bodyPost_ret (v := nv a b c d k) (by simp [results, Tryz.results63, go_sem, z0, z1, z2, z3, z4]) rfl ⟨rfl, (by repeat (first | with_reducible exact Below.refl _ _ | with_reducible refine below_al ?_ _ | with_reducible refine below_dN ?_ _ | with_reducible refine Below.drew ?_ | (with_reducible refine Below.setCell ?_ (by simp <;> omega) _) | (with_reducible refine below_via (by assumption) ?_)))⟩
end Go.Proofs.YtcdmcndjbajhlaaGreatDoor
namespace Go.Proofs.YtcdmcndjbajhlaaGreatDoor
open Go.RowKit

/-- A row of two numbers. -/
def Two (w : World) (b T : Nat) (x y : Nm) : Prop := w.heap[b]? = some (.cells #[.int .i64 x.A, .int .i64 x.B, .int .i64 x.C, .int .i64 x.D, .int .i64 x.K, .int .i64 y.A, .int .i64 y.B, .int .i64 y.C, .int .i64 y.D, .int .i64 y.K] T (0, 0))
theorem Two.cell {w : World} {b T : Nat} {x y : Nm} (h : Two w b T x y) :
    (w.cell? ⟨b, 0, none⟩ = some (.int .i64 x.A) ∧ w.cell? ⟨b, 1, none⟩ = some (.int .i64 x.B) ∧ w.cell? ⟨b, 2, none⟩ = some (.int .i64 x.C) ∧ w.cell? ⟨b, 3, none⟩ = some (.int .i64 x.D) ∧ w.cell? ⟨b, 4, none⟩ = some (.int .i64 x.K)) ∧
    (w.cell? ⟨b, 5, none⟩ = some (.int .i64 y.A) ∧ w.cell? ⟨b, 6, none⟩ = some (.int .i64 y.B) ∧ w.cell? ⟨b, 7, none⟩ = some (.int .i64 y.C) ∧ w.cell? ⟨b, 8, none⟩ = some (.int .i64 y.D) ∧ w.cell? ⟨b, 9, none⟩ = some (.int .i64 y.K)) := by
  unfold Two at h
  simp [World.cell?, h]
theorem Two.below {w w' : World} {b B T : Nat} {x y : Nm} (h : Two w b T x y) (ho : Below B w w') (hn : b < B) : Two w' b T x y := by
  unfold Two; rw [ho.block b hn]; exact h
theorem Two.lt {w : World} {b T : Nat} {x y : Nm} (h : Two w b T x y) : b < w.heap.size := by
  rcases Nat.lt_or_ge b w.heap.size with h' | h'
  · exact h'
  · simp [Two, Array.getElem?_eq_none h'] at h

set_option maxHeartbeats 4000000 in
theorem r_checks2 (x y : Nm) (b T : Nat) (w : World) (hb : Two w b T x y) :
    Calls Tryz.prog 68 #[.slice (some ⟨b, 0, none⟩) 2 2] w (Gives (.int .i64 (chk2 x y)) w) := by
  have HX : Hid (∀ w, Calls Tryz.prog 41 #[nv x.A x.B x.C x.D x.K] w (Gives (.int .i64 x.chk) w)) := fun w => r_check _ _ _ _ _ w
  have HY : Hid (∀ w, Calls Tryz.prog 41 #[nv y.A y.B y.C y.D y.K] w (Gives (.int .i64 y.chk) w)) := fun w => r_check _ _ _ _ _ w
  have hR : chk2 x y = if x.chk = 0 then y.chk else x.chk := rfl
  have HB := Lib.hid hb
  clear hb
  by_cases hx : x.chk = 0
  · rw [hR, if_pos hx]
    rw [hx] at HX
    by_cases hy : y.chk = 0
    · rw [hy] at HY
      rw [hy]
      clear hR hx hy
      go_enter Tryz.func68, Tryz.ntmps68
      go_wp2
      go_loopw [3] (fun i wr => ∃ k : Nat, k ≤ 2 ∧ i = .int .i64 k ∧ Below w.heap.size w wr) (fun i _ => 2 - (intOf i).toNat)
      case atStart => exact ⟨0, by omega, rfl, Below.refl _ _⟩
      case round =>
        obtain ⟨k, hk, rfl, hwr⟩ := hrel
        obtain ⟨⟨c0, c1, c2, c3, c4⟩, d0, d1, d2, d3, d4⟩ := (HB.out.below hwr HB.out.lt).cell
        have hk3 : k = 0 ∨ k = 1 ∨ k = 2 := by omega
        rcases hk3 with rfl | rfl | rfl
        · go_wp2_with (go_at_call 41; (with_reducible refine (HX.out _).mono ?_); rintro e w1 ⟨rfl, hb⟩)
          go_roundw
          case rel => exact ⟨1, by omega, by go_num, below_via hb hwr⟩
          case measure => simp [intOf]
        · go_wp2_with (go_at_call 41; (with_reducible refine (HY.out _).mono ?_); rintro e w1 ⟨rfl, hb⟩)
          go_roundw
          case rel => exact ⟨2, by omega, by go_num, below_via hb hwr⟩
          case measure => simp [intOf]
        · go_wp2_with fail
          go_ret
          exact ⟨rfl, hwr⟩
    · have hy2 : (y.chk != 0) = true := bne_iff_ne.2 hy
      generalize y.chk = q at *
      clear hR hx hy
      go_enter Tryz.func68, Tryz.ntmps68
      go_wp2
      go_loopw [3] (fun i wr => ∃ k : Nat, k ≤ 1 ∧ i = .int .i64 k ∧ Below w.heap.size w wr) (fun i _ => 2 - (intOf i).toNat)
      case atStart => exact ⟨0, by omega, rfl, Below.refl _ _⟩
      case round =>
        obtain ⟨k, hk, rfl, hwr⟩ := hrel
        obtain ⟨⟨c0, c1, c2, c3, c4⟩, d0, d1, d2, d3, d4⟩ := (HB.out.below hwr HB.out.lt).cell
        have hk3 : k = 0 ∨ k = 1 := by omega
        rcases hk3 with rfl | rfl
        · go_wp2_with (go_at_call 41; (with_reducible refine (HX.out _).mono ?_); rintro e w1 ⟨rfl, hb⟩)
          go_roundw
          case rel => exact ⟨1, by omega, by go_num, below_via hb hwr⟩
          case measure => simp [intOf]
        · go_wp2_with (go_at_call 41; (with_reducible refine (HY.out _).mono ?_); rintro e w1 ⟨rfl, hb⟩)
          go_ret
          exact ⟨rfl, below_via hb hwr⟩
  · rw [hR, if_neg hx]
    have hx2 : (x.chk != 0) = true := bne_iff_ne.2 hx
    generalize x.chk = q at *
    clear hR hx
    obtain ⟨⟨c0, c1, c2, c3, c4⟩, _⟩ := HB.out.cell
    go_enter Tryz.func68, Tryz.ntmps68
    go_wp2
    go_loopw [3] (fun i wr => i = .int .i64 0 ∧ wr = w) (fun i _ => 2 - (intOf i).toNat)
    case atStart => exact ⟨rfl, rfl⟩
    case round =>
      obtain ⟨rfl, rfl⟩ := hrel
      go_wp2_with (go_at_call 41; (with_reducible refine (HX.out _).mono ?_); rintro e w1 ⟨rfl, hb⟩)
      go_ret
      exact ⟨rfl, hb⟩

set_option maxHeartbeats 2000000 in
theorem r_least (A B C D K : Int) (w : World) :
    Calls Tryz.prog 38 #[nv A B C D K] w (Gives (.tuple #[(if chk A B C D K = 0 then Nm.least ⟨A, B, C, D, K⟩ else nul).v, .int .i64 (chk A B C D K)]) w) := by
  have HC : Hid (∀ w, Calls Tryz.prog 41 #[nv A B C D K] w (Gives (.int .i64 (chk A B C D K)) w)) := fun w => r_check A B C D K w
  by_cases h : chk A B C D K = 0
  · have hk := chk_ok h
    have HF : Hid (∀ w, Calls Tryz.prog 63 #[nv A B C D K] w (Gives (Nm.least ⟨A, B, C, D, K⟩).v w)) := fun w => r_form ⟨A, B, C, D, K⟩ w (right_wide h) (by show -1000 ≤ K ∧ K ≤ 1000; omega)
    rw [if_pos h, h]
    rw [h] at HC
    generalize Nm.least ⟨A, B, C, D, K⟩ = r at *
    clear h hk
    go_enter Tryz.func38, Tryz.ntmps38
    go_wp2_with fail
    refine (HC.out _).mono ?_
    rintro e w1 ⟨rfl, hb⟩
    obtain ⟨hc, hf⟩ := bcell hb
    have hw1 : Below w.heap.size w w1 := (by repeat (first | with_reducible exact Below.refl _ _ | with_reducible refine below_al ?_ _ | with_reducible refine below_dN ?_ _ | with_reducible refine Below.drew ?_ | (with_reducible refine Below.setCell ?_ (by simp <;> omega) _) | (with_reducible refine below_via (by assumption) ?_)))
    have b2 : Box w1 (w.heap.size + 1) 23 nul := by
      have h := box_new (w.alloc (.cells #[.int .i64 A, .int .i64 B, .int .i64 C, .int .i64 D, .int .i64 K] 23)) 0 0 0 0 0 23
      rw [World.size_alloc] at h
      exact h.below hb (by simp <;> omega)
    have HB2 := Lib.hid b2
    clear b2
    go_wp2_with fail
    refine (HF.out _).mono ?_
    rintro e w2 ⟨rfl, hb2⟩
    have hb22 := HB2.out.below hb2 HB2.out.lt
    obtain ⟨z0, z1, z2, z3, z4⟩ := hb22.cell
    obtain ⟨g0, g1, g2, g3, g4⟩ := hb22.free
    have hlt := hb22.lt
    (try dsimp only at z0 z1 z2 z3 z4)
    clear hb22
    have hw2 : Below w.heap.size w w2 := below_via hb2 hw1
    go_wp2_with fail
    exact bodyPost_ret (v := .tuple #[r.v, .int .i64 0]) (by simp [results, Tryz.results38, go_sem, z0, z1, z2, z3, z4]) rfl ⟨rfl, (by repeat (first | with_reducible exact Below.refl _ _ | with_reducible refine below_al ?_ _ | with_reducible refine below_dN ?_ _ | with_reducible refine Below.drew ?_ | (with_reducible refine Below.setCell ?_ (by simp <;> omega) _) | (with_reducible refine below_via (by assumption) ?_)))⟩
  · rw [if_neg h]
    have h2 : (chk A B C D K != 0) = true := bne_iff_ne.2 h
    generalize chk A B C D K = q at *
    go_enter Tryz.func38, Tryz.ntmps38
    go_wp2_with fail
    refine (HC.out _).mono ?_
    rintro e w1 ⟨rfl, hb⟩
    obtain ⟨hc, hf⟩ := bcell hb
    go_wp2_with fail
    exact bodyPost_ret (v := .tuple #[nul.v, .int .i64 q]) (by simp [results, Tryz.results38, go_sem, hc]) rfl ⟨rfl, (by repeat (first | with_reducible exact Below.refl _ _ | with_reducible refine below_al ?_ _ | with_reducible refine below_dN ?_ _ | with_reducible refine Below.drew ?_ | (with_reducible refine Below.setCell ?_ (by simp <;> omega) _) | (with_reducible refine below_via (by assumption) ?_)))⟩

/-- Within a region: both numbers lie where they lay, and nothing below has changed. -/
def InTwo (w : World) (bx by_ : Nat) (x y : Nm) (W : World) : Prop := Below w.heap.size w W ∧ Box W bx 23 x ∧ Box W by_ 23 y
theorem InTwo.call {w W W' : World} {bx by_ : Nat} {x y : Nm} (h : InTwo w bx by_ x y W) (hb : Below W.heap.size W W') : InTwo w bx by_ x y W' :=
  ⟨below_via hb h.1, h.2.1.below hb h.2.1.lt, h.2.2.below hb h.2.2.lt⟩

set_option maxHeartbeats 2000000 in
theorem r_equal (x y : Nm) (w : World) (hx : x.wide) (hy : y.wide) (hK : -1000 ≤ x.K ∧ x.K ≤ 1000) (hk : -1000 ≤ y.K ∧ y.K ≤ 1000) :
    Calls Tryz.prog 83 #[x.v, y.v] w (Gives (.bool (eq5 x.least y.least)) w) := by
  have HX : Hid (∀ w, Calls Tryz.prog 63 #[x.v] w (Gives x.least.v w)) := fun w => r_form x w hx hK
  have HY : Hid (∀ w, Calls Tryz.prog 63 #[y.v] w (Gives y.least.v w)) := fun w => r_form y w hy hk
  clear hx hy hK hk
  generalize x.least = r at *
  generalize y.least = s at *
  have hC : InTwo w w.heap.size (w.heap.size + 1) x y ((w.alloc (.cells #[.int .i64 x.A, .int .i64 x.B, .int .i64 x.C, .int .i64 x.D, .int .i64 x.K] 23)).alloc (.cells #[.int .i64 y.A, .int .i64 y.B, .int .i64 y.C, .int .i64 y.D, .int .i64 y.K] 23)) := by
    refine ⟨(by repeat (first | with_reducible exact Below.refl _ _ | with_reducible refine below_al ?_ _ | with_reducible refine below_dN ?_ _ | with_reducible refine Below.drew ?_ | (with_reducible refine Below.setCell ?_ (by simp <;> omega) _) | (with_reducible refine below_via (by assumption) ?_))), box_al (box_new w _ _ _ _ _ _) _, ?_⟩
    have h := box_new (w.alloc (.cells #[.int .i64 x.A, .int .i64 x.B, .int .i64 x.C, .int .i64 x.D, .int .i64 x.K] 23)) y.A y.B y.C y.D y.K 23
    rw [World.size_alloc] at h
    exact h
  have HC := Lib.hid hC
  clear hC
  go_enter Tryz.func83, Tryz.ntmps83
  go_wp2_with fail
  refine region_fin (InTwo w w.heap.size (w.heap.size + 1) x y) 5 [x.v, r.v, y.v, s.v, .bool (eq5 r s)] 4 (.bool (eq5 r s)) (by kernel_rfl) (by kernel_rfl) (by kernel_rfl) (by kernel_rfl) (HC.out.call (below_dN (Below.refl _ _) 1)) ?_ ?_
  · intro w' hC
    rename_i hK
    refine hK _ _ ?_
    refine wp_ret ?_
    exact bodyPost_ret (v := .bool (eq5 r s)) (by kernel_rfl) rfl ⟨rfl, hC.1⟩
  refine eachOp_cons (ok_load (by kernel_rfl) (by kernel_rfl) (fun _ hC => load_num (b := w.heap.size) (x := x) rfl (by kernel_rfl) hC.2.1)) ?_
  refine eachOp_cons (ok_call 63 #[x.v] (by kernel_rfl) (by kernel_rfl) (fun _ => by kernel_rfl) (fun w' hC => (HX.out w').mono fun _ _ h => ⟨h.1, hC.call h.2⟩)) ?_
  refine eachOp_cons (ok_load (by kernel_rfl) (by kernel_rfl) (fun _ hC => load_num (b := w.heap.size + 1) (x := y) rfl (by kernel_rfl) hC.2.2)) ?_
  refine eachOp_cons (ok_call 63 #[y.v] (by kernel_rfl) (by kernel_rfl) (fun _ => by kernel_rfl) (fun w' hC => (HY.out w').mono fun _ _ h => ⟨h.1, hC.call h.2⟩)) ?_
  refine eachOp_cons (ok_val (by kernel_rfl) (by kernel_rfl) (fun _ => eql_num (x := r) (y := s) (b := eq5 r s) rfl (by kernel_rfl) (by kernel_rfl) rfl)) ?_
  refine eachOp_cons (ok_val (by kernel_rfl) (by kernel_rfl) (fun _ => by kernel_rfl)) ?_
  exact eachOp_nil
end Go.Proofs.YtcdmcndjbajhlaaGreatDoor
namespace Go.Proofs.YtcdmcndjbajhlaaGreatDoor
open Go.RowKit

theorem same_eq5 (r s : Nm) : sameN r s = eq5 r s := by
  unfold sameN eq5 eq4
  rw [Bool.eq_iff_iff]
  simp
  constructor
  · rintro ⟨h1, h2, h3, h4, h5⟩; exact ⟨h2, h3, h4, h5, h1⟩
  · rintro ⟨h2, h3, h4, h5, h1⟩; exact ⟨h1, h2, h3, h4, h5⟩
def sameV (x y : Nm) : Value := .tuple #[.bool (if chk2 x y = 0 then eq5 x.least y.least else false), .int .i64 (chk2 x y)]

theorem two_new2 (w : World) (a b : Obj) (x y : Nm) (T : Nat) : Two (((w.alloc a).alloc b).alloc (.cells #[.int .i64 x.A, .int .i64 x.B, .int .i64 x.C, .int .i64 x.D, .int .i64 x.K, .int .i64 y.A, .int .i64 y.B, .int .i64 y.C, .int .i64 y.D, .int .i64 y.K] T)) (w.heap.size + 1 + 1) T x y := by
  have h := heap_alloc_new ((w.alloc a).alloc b) (.cells #[.int .i64 x.A, .int .i64 x.B, .int .i64 x.C, .int .i64 x.D, .int .i64 x.K, .int .i64 y.A, .int .i64 y.B, .int .i64 y.C, .int .i64 y.D, .int .i64 y.K] T)
  simp only [World.size_alloc] at h
  exact h
theorem InTwo.al {w W : World} {bx by_ : Nat} {x y : Nm} (h : InTwo w bx by_ x y W) (o : Obj) : InTwo w bx by_ x y (W.alloc o) := ⟨below_al h.1 _, box_al h.2.1 _, box_al h.2.2 _⟩

set_option maxHeartbeats 2000000 in
theorem r_same (x y : Nm) (w : World) : Calls Tryz.prog 39 #[x.v, y.v] w (Gives (sameV x y) w) := by
  have hbx : InTwo w w.heap.size (w.heap.size + 1) x y ((w.alloc (.cells #[.int .i64 x.A, .int .i64 x.B, .int .i64 x.C, .int .i64 x.D, .int .i64 x.K] 23)).alloc (.cells #[.int .i64 y.A, .int .i64 y.B, .int .i64 y.C, .int .i64 y.D, .int .i64 y.K] 23)) := by
    refine ⟨(by repeat (first | with_reducible exact Below.refl _ _ | with_reducible refine below_al ?_ _ | with_reducible refine below_dN ?_ _ | with_reducible refine Below.drew ?_ | (with_reducible refine Below.setCell ?_ (by simp <;> omega) _) | (with_reducible refine below_via (by assumption) ?_))), box_al (box_new w _ _ _ _ _ _) _, ?_⟩
    have h := box_new (w.alloc (.cells #[.int .i64 x.A, .int .i64 x.B, .int .i64 x.C, .int .i64 x.D, .int .i64 x.K] 23)) y.A y.B y.C y.D y.K 23
    rw [World.size_alloc] at h
    exact h
  have HBX := Lib.hid hbx
  clear hbx
  have HC : Hid (∀ (b T : Nat) (w : World), Two w b T x y → Calls Tryz.prog 68 #[.slice (some ⟨b, 0, none⟩) 2 2] w (Gives (.int .i64 (chk2 x y)) w)) := fun b T w h => r_checks2 x y b T w h
  by_cases h : chk2 x y = 0
  · have hv : sameV x y = .tuple #[.bool (eq5 x.least y.least), .int .i64 0] := by unfold sameV; rw [if_pos h, h]
    have h12 := chk2_ok h
    have hk1 := chk_ok (A := x.A) (B := x.B) (C := x.C) (D := x.D) (K := x.K) h12.1
    have hk2 := chk_ok (A := y.A) (B := y.B) (C := y.C) (D := y.D) (K := y.K) h12.2
    have HE : Hid (∀ w, Calls Tryz.prog 83 #[x.v, y.v] w (Gives (.bool (eq5 x.least y.least)) w)) := fun w => r_equal x y w (right_wide h12.1) (right_wide h12.2) (by omega) (by omega)
    rw [hv]
    rw [h] at HC
    generalize eq5 x.least y.least = r at *
    clear h hv h12 hk1 hk2
    go_enter Tryz.func39, Tryz.ntmps39
    go_wp2_with fail
    refine (HC.out _ _ _ (two_new2 w _ _ x y _)).mono ?_
    rintro e w1 ⟨rfl, hb⟩
    have h1 := (HBX.out.al _).call hb
    obtain ⟨c0, c1, c2, c3, c4⟩ := h1.2.1.cell
    obtain ⟨d0, d1, d2, d3, d4⟩ := h1.2.2.cell
    have hw1 := h1.1
    clear h1
    go_wp2_with fail
    refine (HE.out _).mono ?_
    rintro e w2 ⟨rfl, hb2⟩
    go_wp2_with fail
    go_ret2
    exact ⟨rfl, below_via hb2 hw1⟩
  · have hv : sameV x y = .tuple #[.bool false, .int .i64 (chk2 x y)] := by unfold sameV; rw [if_neg h]
    have h2 : (chk2 x y != 0) = true := bne_iff_ne.2 h
    rw [hv]
    generalize chk2 x y = q at *
    clear h hv
    go_enter Tryz.func39, Tryz.ntmps39
    go_wp2_with fail
    refine (HC.out _ _ _ (two_new2 w _ _ x y _)).mono ?_
    rintro e w1 ⟨rfl, hb⟩
    have h1 := (HBX.out.al _).call hb
    have hw1 := h1.1
    clear h1
    go_wp2_with fail
    go_ret2
    exact ⟨rfl, hw1⟩
end Go.Proofs.YtcdmcndjbajhlaaGreatDoor
