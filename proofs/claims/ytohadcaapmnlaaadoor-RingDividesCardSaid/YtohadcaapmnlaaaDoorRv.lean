
/- The reference's Divide: what is not right. -/
import Derived.Test.YtohadcaapmnlaaaDoorDx
import Derived.Test.YtohadcaapmnlaaaDoorJk
set_option linter.all false
set_option maxRecDepth 100000
namespace Go.Proofs.YtohadcaapmnlaaaDoor
open Go.RowKit

set_option maxHeartbeats 4000000 in
theorem r_Divide_bad (x y : Nm) (w : World) (h : chk2 x y ≠ 0) : Calls Tryd.prog 11 #[x.v, y.v] w (Gives (.tuple #[nul.v, .int .i64 (chk2 x y)]) w) := by
  have hbx : InTwo w w.heap.size (w.heap.size + 1) x y ((w.alloc (.cells #[.int .i64 x.A, .int .i64 x.B, .int .i64 x.C, .int .i64 x.D, .int .i64 x.K] 23)).alloc (.cells #[.int .i64 y.A, .int .i64 y.B, .int .i64 y.C, .int .i64 y.D, .int .i64 y.K] 23)) := by
    refine ⟨(by repeat (first | with_reducible exact Below.refl _ _ | with_reducible refine below_al ?_ _ | with_reducible refine below_dN ?_ _ | with_reducible refine Below.drew ?_ | (with_reducible refine Below.setCell ?_ (by simp <;> omega) _) | (with_reducible refine below_via (by assumption) ?_))), box_al (box_new w _ _ _ _ _ _) _, ?_⟩
    have h := box_new (w.alloc (.cells #[.int .i64 x.A, .int .i64 x.B, .int .i64 x.C, .int .i64 x.D, .int .i64 x.K] 23)) y.A y.B y.C y.D y.K 23
    rw [World.size_alloc] at h
    exact h
  have HBX := Lib.hid hbx
  clear hbx
  have HC : Hid (∀ (b T : Nat) (w : World), Two w b T x y → Calls Tryd.prog 35 #[.slice (some ⟨b, 0, none⟩) 2 2] w (Gives (.int .i64 (chk2 x y)) w)) := fun b T w h => r_checks2 x y b T w h
  have h2 : (chk2 x y != 0) = true := bne_iff_ne.2 h
  generalize chk2 x y = q at *
  clear h
  go_enter Tryd.func11, Tryd.ntmps11
  go_wp2_with fail
  refine (HC.out _ _ _ (two_new3 w _ _ _ x y _)).mono ?_
  rintro e w1 ⟨rfl, hb⟩
  have h1 : InAdd w x y w1 := by
    have h2 := ((HBX.out.al (.cells #[.int .i64 0, .int .i64 0, .int .i64 0, .int .i64 0, .int .i64 0] 23)).al _).call hb
    refine ⟨h2.1, h2.2.1, h2.2.2, ?_⟩
    have h := box_new ((w.alloc (.cells #[.int .i64 x.A, .int .i64 x.B, .int .i64 x.C, .int .i64 x.D, .int .i64 x.K] 23)).alloc (.cells #[.int .i64 y.A, .int .i64 y.B, .int .i64 y.C, .int .i64 y.D, .int .i64 y.K] 23)) 0 0 0 0 0 23
    simp only [World.size_alloc] at h
    exact (box_al h _).below hb (by simp <;> omega)
  clear hb HBX HC
  obtain ⟨z0, z1, z2, z3, z4⟩ := h1.2.2.2.cell
  obtain ⟨g0, g1, g2, g3, g4⟩ := h1.2.2.2.free
  have hlt := h1.2.2.2.lt
  have hw2 := h1.1
  have hle3 : w.heap.size ≤ w.heap.size + 1 + 1 := by omega
  clear h1
  dsimp only at z0 z1 z2 z3 z4
  go_wp2_with fail
  exact bodyPost_ret (v := .tuple #[nul.v, .int .i64 q]) (by simp [results, Tryd.results11, go_sem, z0, z1, z2, z3, z4]) rfl ⟨rfl, by first | exact hw2 | exact ((((hw2.setCell hle3 _).setCell hle3 _).setCell hle3 _).setCell hle3 _).setCell hle3 _⟩
end Go.Proofs.YtohadcaapmnlaaaDoor
