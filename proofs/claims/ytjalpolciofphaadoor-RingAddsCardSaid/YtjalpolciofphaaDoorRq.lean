
/- The reference's Mul. -/
import Derived.Test.YtjalpolciofphaaDoorSe
import Derived.Test.YtjalpolciofphaaDoorTn
set_option linter.all false
set_option maxRecDepth 100000
namespace Go.Proofs.YtjalpolciofphaaDoor
open Go.RowKit

def mulV (x y : Nm) : Value := .tuple #[(jointN x y (mulN x y)).v, .int .i64 (jointE x y (mulN x y))]
set_option maxHeartbeats 4000000 in
theorem r_Mul (x y : Nm) (w : World) : Calls Tryd.prog 10 #[x.v, y.v] w (Gives (mulV x y) w) := by
  have hbx : InTwo w w.heap.size (w.heap.size + 1) x y ((w.alloc (.cells #[.int .i64 x.A, .int .i64 x.B, .int .i64 x.C, .int .i64 x.D, .int .i64 x.K] 23)).alloc (.cells #[.int .i64 y.A, .int .i64 y.B, .int .i64 y.C, .int .i64 y.D, .int .i64 y.K] 23)) := by
    refine ⟨(by repeat (first | with_reducible exact Below.refl _ _ | with_reducible refine below_al ?_ _ | with_reducible refine below_dN ?_ _ | with_reducible refine Below.drew ?_ | (with_reducible refine Below.setCell ?_ (by simp <;> omega) _) | (with_reducible refine below_via (by assumption) ?_))), box_al (box_new w _ _ _ _ _ _) _, ?_⟩
    have h := box_new (w.alloc (.cells #[.int .i64 x.A, .int .i64 x.B, .int .i64 x.C, .int .i64 x.D, .int .i64 x.K] 23)) y.A y.B y.C y.D y.K 23
    rw [World.size_alloc] at h
    exact h
  have HBX := Lib.hid hbx
  clear hbx
  have HC : Hid (∀ (b T : Nat) (w : World), Two w b T x y → Calls Tryd.prog 35 #[.slice (some ⟨b, 0, none⟩) 2 2] w (Gives (.int .i64 (chk2 x y)) w)) := fun b T w h => r_checks2 x y b T w h
  by_cases h : chk2 x y = 0
  · have h12 := chk2_ok h
    have hk1 := chk_ok (A := x.A) (B := x.B) (C := x.C) (D := x.D) (K := x.K) h12.1
    have hk2 := chk_ok (A := y.A) (B := y.B) (C := y.C) (D := y.D) (K := y.K) h12.2
    have hK : (mulN x y).K = x.K + y.K := rfl
    have hv : mulV x y = .tuple #[(fitN (mulN x y)).v, .int .i64 (fitE (mulN x y))] := by unfold mulV jointN jointE; rw [if_pos h, if_pos h]
    have HX : Hid (∀ w, Calls Tryd.prog 40 #[x.v, y.v] w (Gives (mulN x y).v w)) := fun w => r_product x y _ _ w (right_le h12.1) (right_le h12.2) (by omega) (by omega) (by omega)
    have HY : Hid (∀ w, Calls Tryd.prog 38 #[(mulN x y).v] w (Gives (.tuple #[(fitN (mulN x y)).v, .int .i64 (fitE (mulN x y))]) w)) := fun w => r_fits _ w (le_wide (mulN_le (right_le h12.1) (right_le h12.2)) (by omega)) (by omega)
    rw [hv]
    rw [h] at HC
    clear h12 h hk1 hk2 hK hv
    generalize fitN (mulN x y) = f at *
    generalize fitE (mulN x y) = q at *
    generalize mulN x y = v at *
    go_enter Tryd.func10, Tryd.ntmps10
    go_wp2_with fail
    refine (HC.out _ _ _ (two_new3 w _ _ _ x y _)).mono ?_
    rintro e w1 ⟨rfl, hb⟩
    have h1 : InAdd w x y w1 := by
      have h2 := ((HBX.out.al (.cells #[.int .i64 0, .int .i64 0, .int .i64 0, .int .i64 0, .int .i64 0] 23)).al _).call hb
      refine ⟨h2.1, h2.2.1, h2.2.2, ?_⟩
      have h := box_new ((w.alloc (.cells #[.int .i64 x.A, .int .i64 x.B, .int .i64 x.C, .int .i64 x.D, .int .i64 x.K] 23)).alloc (.cells #[.int .i64 y.A, .int .i64 y.B, .int .i64 y.C, .int .i64 y.D, .int .i64 y.K] 23)) 0 0 0 0 0 23
      simp only [World.size_alloc] at h
      exact (box_al h _).below hb (by simp <;> omega)
    clear hb HBX HC
    obtain ⟨c0, c1, c2, c3, c4⟩ := h1.2.1.cell
    obtain ⟨d0, d1, d2, d3, d4⟩ := h1.2.2.1.cell
    have hlt := h1.2.2.2.lt
    have HI := Lib.hid h1
    clear h1
    go_wp2_with fail
    refine (HX.out _).mono ?_
    rintro e w2 ⟨rfl, hb2⟩
    have HI2 := Lib.hid (HI.out.call hb2)
    clear c0 c1 c2 c3 c4 d0 d1 d2 d3 d4 hlt hb2 HI
    go_wp2_with fail
    refine (HY.out _).mono ?_
    rintro e w3 ⟨rfl, hb3⟩
    have h3 := HI2.out.call hb3
    clear hb3 HI2 HX HY
    obtain ⟨z0, z1, z2, z3, z4⟩ := h3.2.2.2.cell
    obtain ⟨g0, g1, g2, g3, g4⟩ := h3.2.2.2.free
    have hlt := h3.2.2.2.lt
    have hw2 := h3.1
    have hle3 : w.heap.size ≤ w.heap.size + 1 + 1 := by omega
    clear h3
    dsimp only at z0 z1 z2 z3 z4
    go_wp2_with fail
    exact bodyPost_ret (v := .tuple #[f.v, .int .i64 q]) (by simp [results, Tryd.results10, go_sem, z0, z1, z2, z3, z4]) rfl ⟨rfl, by first | exact hw2 | exact ((((hw2.setCell hle3 _).setCell hle3 _).setCell hle3 _).setCell hle3 _).setCell hle3 _⟩
  · have hv : mulV x y = .tuple #[nul.v, .int .i64 (chk2 x y)] := by unfold mulV jointN jointE; rw [if_neg h, if_neg h]
    have h2 : (chk2 x y != 0) = true := bne_iff_ne.2 h
    rw [hv]
    generalize chk2 x y = q at *
    clear h hv
    go_enter Tryd.func10, Tryd.ntmps10
    go_wp2_with fail
    refine (HC.out _ _ _ (two_new3 w _ _ _ x y _)).mono ?_
    rintro e w1 ⟨rfl, hb⟩
    have h1 : InAdd w x y w1 := by
      have h2 := ((HBX.out.al (.cells #[.int .i64 0, .int .i64 0, .int .i64 0, .int .i64 0, .int .i64 0] 23)).al _).call hb
      refine ⟨h2.1, h2.2.1, h2.2.2, ?_⟩
      have h := box_new ((w.alloc (.cells #[.int .i64 x.A, .int .i64 x.B, .int .i64 x.C, .int .i64 x.D, .int .i64 x.K] 23)).alloc (.cells #[.int .i64 y.A, .int .i64 y.B, .int .i64 y.C, .int .i64 y.D, .int .i64 y.K] 23)) 0 0 0 0 0 23
      simp only [World.size_alloc] at h
      exact (box_al h _).below hb (by simp <;> omega)
    clear hb HBX HC
    obtain ⟨z0, z1, z2, z3, z4⟩ := h1.2.2.2.cell
    obtain ⟨g0, g1, g2, g3, g4⟩ := h1.2.2.2.free
    have hlt := h1.2.2.2.lt
    have hw2 := h1.1
    have hle3 : w.heap.size ≤ w.heap.size + 1 + 1 := by omega
    clear h1
    dsimp only at z0 z1 z2 z3 z4
    go_wp2_with fail
    exact bodyPost_ret (v := .tuple #[nul.v, .int .i64 q]) (by simp [results, Tryd.results10, go_sem, z0, z1, z2, z3, z4]) rfl ⟨rfl, by first | exact hw2 | exact ((((hw2.setCell hle3 _).setCell hle3 _).setCell hle3 _).setCell hle3 _).setCell hle3 _⟩
end Go.Proofs.YtjalpolciofphaaDoor
