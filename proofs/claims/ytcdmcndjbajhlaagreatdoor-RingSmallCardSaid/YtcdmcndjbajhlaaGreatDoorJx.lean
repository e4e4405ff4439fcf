/- The law RingDivides, for all numbers, by way of what the reference's Divide gives. -/
import Derived.Test.YtcdmcndjbajhlaaGreatDoorJw
import Derived.Test.YtcdmcndjbajhlaaGreatDoorJk
import Derived.Test.YtcdmcndjbajhlaaGreatDoorJu
set_option linter.all false
set_option maxRecDepth 100000
namespace Go.Proofs.YtcdmcndjbajhlaaGreatDoor
open Go.RowKit

set_option maxHeartbeats 4000000 in
theorem r_Divide_bad (x y : Nm) (w : World) (h : chk2 x y ≠ 0) : Calls Tryz.prog 53 #[x.v, y.v] w (Gives (.tuple #[nul.v, .int .i64 (chk2 x y)]) w) := by
  have hbx : InTwo w w.heap.size (w.heap.size + 1) x y ((w.alloc (.cells #[.int .i64 x.A, .int .i64 x.B, .int .i64 x.C, .int .i64 x.D, .int .i64 x.K] 23)).alloc (.cells #[.int .i64 y.A, .int .i64 y.B, .int .i64 y.C, .int .i64 y.D, .int .i64 y.K] 23)) := by
    refine ⟨(by repeat (first | with_reducible exact Below.refl _ _ | with_reducible refine below_al ?_ _ | with_reducible refine below_dN ?_ _ | with_reducible refine Below.drew ?_ | (with_reducible refine Below.setCell ?_ (by simp <;> omega) _) | (with_reducible refine below_via (by assumption) ?_))), box_al (box_new w _ _ _ _ _ _) _, ?_⟩
    have h := box_new (w.alloc (.cells #[.int .i64 x.A, .int .i64 x.B, .int .i64 x.C, .int .i64 x.D, .int .i64 x.K] 23)) y.A y.B y.C y.D y.K 23
    rw [World.size_alloc] at h
    exact h
  have HBX := Lib.hid hbx
  clear hbx
  have HC : Hid (∀ (b T : Nat) (w : World), Two w b T x y → Calls Tryz.prog 68 #[.slice (some ⟨b, 0, none⟩) 2 2] w (Gives (.int .i64 (chk2 x y)) w)) := fun b T w h => r_checks2 x y b T w h
  have h2 : (chk2 x y != 0) = true := bne_iff_ne.2 h
  generalize chk2 x y = q at *
  clear h
  go_enter Tryz.func53, Tryz.ntmps53
  go_wp2_with fail
  refine (HC.out _ _ _ (two_new3 w _ _ _ x y _)).mono ?_
  rintro e w1 ⟨rfl, hb⟩
  have h1 : InAdd w x y w1 := by
    have h2 := ((HBX.out.al (.cells #[.int .i64 0, .int .i64 0, .int .i64 0, .int .i64 0, .int .i64 0] 23)).al _).call hb
    refine ⟨h2.1, h2.2.1, h2.2.2, ?_⟩
    have h := box_new ((w.alloc (.cells #[.int .i64 x.A, .int .i64 x.B, .int .i64 x.C, .int .i64 x.D, .int .i64 x.K] 23)).alloc (.cells #[.int .i64 y.A, .int .i64 y.B, .int .i64 y.C, .int .i64 y.D, .int .i64 y.K] 23)) 0 0 0 0 0 23
    simp only [World.size_alloc] at h
    exact (box_al h _).below hb (by simp <;> omega)
  clear hb HBX HC
  obtain ⟨z0, z1, z2, z3, z4⟩ := h1.2.2.2.cell
  obtain ⟨g0, g1, g2, g3, g4⟩ := h1.2.2.2.free
  have hlt := h1.2.2.2.lt
  have hw2 := h1.1
  have hle3 : w.heap.size ≤ w.heap.size + 1 + 1 := by omega
  clear h1
  dsimp only at z0 z1 z2 z3 z4
  go_wp2_with fail
  exact bodyPost_ret (v := .tuple #[nul.v, .int .i64 q]) (by simp [results, Tryz.results53, go_sem, z0, z1, z2, z3, z4]) rfl ⟨rfl, by first | exact hw2 | exact ((((hw2.setCell hle3 _).setCell hle3 _).setCell hle3 _).setCell hle3 _).setCell hle3 _⟩
end Go.Proofs.YtcdmcndjbajhlaaGreatDoor
namespace Go.Proofs.YtcdmcndjbajhlaaGreatDoor
open Go.RowKit Go.Shelf

set_option maxHeartbeats 8000000 in
theorem RingDivides_of (x y : Nm) (w : World) (hv : Vars w)
    (H1 : Hid (∀ w, Calls Tryz.prog 53 #[x.v, y.v] w (Gives (.tuple #[(DivN x y).v, .int .i64 (DivE x y)]) w))) :
    Calls Tryz.prog 13 #[x.v, y.v] w (Gives (.bool true) w) := by
  have HA : Hid (∀ w', Below w.heap.size w w' → Calls Tryz.prog 9 #[] w' (Gives (.bool true) w')) := fun w' hb => awake_below hv hb
  have H2 : Hid (∀ w, Calls Tryz.prog 36 #[x.v, y.v] w (Gives (.tuple #[(DivN x y).v, .int .i64 (DivE x y)]) w)) := fun w => Divide_any x.A x.B x.C x.D x.K y.A y.B y.C y.D y.K w
  have G0 := Lib.hid (Got.two w x y)
  clear hv
  generalize DivN x y = r1 at *
  generalize DivE x y = q1 at *
  go_enter Tryz.func13, Tryz.ntmps13
  go_wp2_with fail
  refine (H1.out _).mono ?_
  rintro e u1 ⟨rfl, hb⟩
  have g := G0.out.call hb
  obtain ⟨y0, y1, y2, y3, y4⟩ := (g.2 _ (.head _)).cell
  obtain ⟨x0, x1, x2, x3, x4⟩ := (g.2 _ (.tail _ (.head _))).cell
  have hlt := (g.2 _ (.head _)).lt
  have hlt0 := (g.2 _ (.tail _ (.head _))).lt
  dsimp only at x0 x1 x2 x3 x4 y0 y1 y2 y3 y4 hlt hlt0
  have G1 := Lib.hid (g.box r1)
  clear g hb G0
  go_wp2_with fail
  clear x0 x1 x2 x3 x4 y0 y1 y2 y3 y4 hlt hlt0
  refine (H2.out _).mono ?_
  rintro e u2 ⟨rfl, hb⟩
  have g := G1.out.call hb
  obtain ⟨b10, b11, b12, b13, b14⟩ := (g.2 _ (.head _)).cell
  have lt1 := (g.2 _ (.head _)).lt
  dsimp only at b10 b11 b12 b13 b14 lt1
  have G2 := Lib.hid (g.box r1)
  clear g hb G1
  have hq1 : (q1 == q1) = true := by simp
  go_wp2_with fail
  refine (HA.out _ G2.out.1).mono ?_
  rintro e u9 ⟨rfl, hb⟩
  go_wp2_with fail
  go_ret
  exact ⟨rfl, below_via hb G2.out.1⟩
end Go.Proofs.YtcdmcndjbajhlaaGreatDoor
