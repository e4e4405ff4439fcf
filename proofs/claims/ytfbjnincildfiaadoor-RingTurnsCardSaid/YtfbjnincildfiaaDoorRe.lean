/- The reference's Same. -/
import Derived.Test.YtfbjnincildfiaaDoorRs
import Derived.Test.YtfbjnincildfiaaDoorPq
set_option linter.all false
set_option maxRecDepth 100000
namespace Go.Proofs.YtfbjnincildfiaaDoor
open Go.RowKit

theorem same_eq5 (r s : Nm) : sameN r s = eq5 r s := by
  unfold sameN eq5 eq4
  rw [Bool.eq_iff_iff]
  simp
  constructor
  · rintro ⟨h1, h2, h3, h4, h5⟩; exact ⟨h2, h3, h4, h5, h1⟩
  · rintro ⟨h2, h3, h4, h5, h1⟩; exact ⟨h1, h2, h3, h4, h5⟩
def sameV (x y : Nm) : Value := .tuple #[.bool (if chk2 x y = 0 then eq5 x.least y.least else false), .int .i64 (chk2 x y)]

theorem two_new2 (w : World) (a b : Obj) (x y : Nm) (T : Nat) : Two (((w.alloc a).alloc b).alloc (.cells #[.int .i64 x.A, .int .i64 x.B, .int .i64 x.C, .int .i64 x.D, .int .i64 x.K, .int .i64 y.A, .int .i64 y.B, .int .i64 y.C, .int .i64 y.D, .int .i64 y.K] T)) (w.heap.size + 1 + 1) T x y := by
  have h := heap_alloc_new ((w.alloc a).alloc b) (.cells #[.int .i64 x.A, .int .i64 x.B, .int .i64 x.C, .int .i64 x.D, .int .i64 x.K, .int .i64 y.A, .int .i64 y.B, .int .i64 y.C, .int .i64 y.D, .int .i64 y.K] T)
  simp only [World.size_alloc] at h
  exact h
theorem InTwo.al {w W : World} {bx by_ : Nat} {x y : Nm} (h : InTwo w bx by_ x y W) (o : Obj) : InTwo w bx by_ x y (W.alloc o) := ⟨below_al h.1 _, box_al h.2.1 _, box_al h.2.2 _⟩

set_option maxHeartbeats 2000000 in
theorem r_same (x y : Nm) (w : World) : Calls Tryd.prog 8 #[x.v, y.v] w (Gives (sameV x y) w) := by
  have hbx : InTwo w w.heap.size (w.heap.size + 1) x y ((w.alloc (.cells #[.int .i64 x.A, .int .i64 x.B, .int .i64 x.C, .int .i64 x.D, .int .i64 x.K] 23)).alloc (.cells #[.int .i64 y.A, .int .i64 y.B, .int .i64 y.C, .int .i64 y.D, .int .i64 y.K] 23)) := by
    refine ⟨(by repeat (first | with_reducible exact Below.refl _ _ | with_reducible refine below_al ?_ _ | with_reducible refine below_dN ?_ _ | with_reducible refine Below.drew ?_ | (with_reducible refine Below.setCell ?_ (by simp <;> omega) _) | (with_reducible refine below_via (by assumption) ?_))), box_al (box_new w _ _ _ _ _ _) _, ?_⟩
    have h := box_new (w.alloc (.cells #[.int .i64 x.A, .int .i64 x.B, .int .i64 x.C, .int .i64 x.D, .int .i64 x.K] 23)) y.A y.B y.C y.D y.K 23
    rw [World.size_alloc] at h
    exact h
  have HBX := Lib.hid hbx
  clear hbx
  have HC : Hid (∀ (b T : Nat) (w : World), Two w b T x y → Calls Tryd.prog 33 #[.slice (some ⟨b, 0, none⟩) 2 2] w (Gives (.int .i64 (chk2 x y)) w)) := fun b T w h => r_checks2 x y b T w h
  by_cases h : chk2 x y = 0
  · have hv : sameV x y = .tuple #[.bool (eq5 x.least y.least), .int .i64 0] := by unfold sameV; rw [if_pos h, h]
    have h12 := chk2_ok h
    have hk1 := chk_ok (A := x.A) (B := x.B) (C := x.C) (D := x.D) (K := x.K) h12.1
    have hk2 := chk_ok (A := y.A) (B := y.B) (C := y.C) (D := y.D) (K := y.K) h12.2
    have HE : Hid (∀ w, Calls Tryd.prog 34 #[x.v, y.v] w (Gives (.bool (eq5 x.least y.least)) w)) := fun w => r_equal x y w (right_wide h12.1) (right_wide h12.2) (by omega) (by omega)
    rw [hv]
    rw [h] at HC
    generalize eq5 x.least y.least = r at *
    clear h hv h12 hk1 hk2
    go_enter Tryd.func8, Tryd.ntmps8
    go_wp2_with fail
    refine (HC.out _ _ _ (two_new2 w _ _ x y _)).mono ?_
    rintro e w1 ⟨rfl, hb⟩
    have h1 := (HBX.out.al _).call hb
    obtain ⟨c0, c1, c2, c3, c4⟩ := h1.2.1.cell
    obtain ⟨d0, d1, d2, d3, d4⟩ := h1.2.2.cell
    have hw1 := h1.1
    clear h1
    go_wp2_with fail
    refine (HE.out _).mono ?_
    rintro e w2 ⟨rfl, hb2⟩
    go_wp2_with fail
    go_ret2
    exact ⟨rfl, below_via hb2 hw1⟩
  · have hv : sameV x y = .tuple #[.bool false, .int .i64 (chk2 x y)] := by unfold sameV; rw [if_neg h]
    have h2 : (chk2 x y != 0) = true := bne_iff_ne.2 h
    rw [hv]
    generalize chk2 x y = q at *
    clear h hv
    go_enter Tryd.func8, Tryd.ntmps8
    go_wp2_with fail
    refine (HC.out _ _ _ (two_new2 w _ _ x y _)).mono ?_
    rintro e w1 ⟨rfl, hb⟩
    have h1 := (HBX.out.al _).call hb
    have hw1 := h1.1
    clear h1
    go_wp2_with fail
    go_ret2
    exact ⟨rfl, hw1⟩
end Go.Proofs.YtfbjnincildfiaaDoor
