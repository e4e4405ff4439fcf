
/- The law RingOrders, for all numbers. -/
import Derived.Test.YtjalpolciofphaaDoorRp
import Derived.Test.YtjalpolciofphaaDoorRl
set_option linter.all false
set_option maxRecDepth 100000
namespace Go.Proofs.YtjalpolciofphaaDoor
open Go.RowKit Go.Shelf

set_option maxHeartbeats 8000000 in
theorem RingOrders_any (x y : Nm) (w : World) (hv : Vars w) : Calls Tryd.prog 6 #[x.v, y.v] w (Gives (.bool true) w) := by
  have HA : Hid (∀ w', Below w.heap.size w w' → Calls Tryd.prog 14 #[] w' (Gives (.bool true) w')) := fun w' hb => awake_below hv hb
  have H1 : Hid (∀ w, Calls Tryd.prog 25 #[x.v] w (Gives (.tuple #[.bool (if x.chk = 0 then realN x else false), .int .i64 x.chk]) w)) := fun w => r_Real x w
  have H2 : Hid (∀ w, Calls Tryd.prog 26 #[x.v, y.v] w (Gives (.tuple #[.bool (lessN x y), .int .i64 (lessE x y)]) w)) := fun w => r_Less x y w
  have H3 : Hid (∀ w, Calls Tryd.prog 27 #[x.v, y.v] w (Gives (.tuple #[.int .i64 (if chk2 x y = 0 then (phaseR x y).1 else 0), .int .i64 (if chk2 x y = 0 then (phaseR x y).2 else chk2 x y)]) w)) := fun w => r_Phase x y w
  have H4 : Hid (∀ w, Calls Tryd.prog 28 #[x.v] w (Gives (.tuple #[.bool (if x.chk = 0 then realN x else false), .int .i64 x.chk]) w)) := fun w => Real_any x.A x.B x.C x.D x.K w
  have H5 : Hid (∀ w, Calls Tryd.prog 29 #[x.v, y.v] w (Gives (.tuple #[.bool (lessN x y), .int .i64 (lessE x y)]) w)) := fun w => Less_any x.A x.B x.C x.D x.K y.A y.B y.C y.D y.K w
  have H6 : Hid (∀ w, Calls Tryd.prog 30 #[x.v, y.v] w (Gives (.tuple #[.int .i64 (if chk2 x y = 0 then (phaseR x y).1 else 0), .int .i64 (if chk2 x y = 0 then (phaseR x y).2 else chk2 x y)]) w)) := fun w => by
    have h := Phase_any x.A x.B x.C x.D x.K y.A y.B y.C y.D y.K w
    have e := phase_same x y
    rw [← e]
    exact h
  have G0 := Lib.hid (Got.two w x y)
  clear hv
  generalize (if x.chk = 0 then realN x else false) = r1 at *
  generalize x.chk = q1 at *
  generalize lessN x y = r2 at *
  generalize lessE x y = q2 at *
  generalize (if chk2 x y = 0 then (phaseR x y).1 else 0) = r3 at *
  generalize (if chk2 x y = 0 then (phaseR x y).2 else chk2 x y) = q3 at *
  go_enter Tryd.func6, Tryd.ntmps6
  go_wp2_with fail
  refine (H1.out _).mono ?_
  rintro e u1 ⟨rfl, hb⟩
  have g := G0.out.call hb
  obtain ⟨y0, y1, y2, y3, y4⟩ := (g.2 _ (.head _)).cell
  obtain ⟨x0, x1, x2, x3, x4⟩ := (g.2 _ (.tail _ (.head _))).cell
  have hlt := (g.2 _ (.head _)).lt
  have hlt0 := (g.2 _ (.tail _ (.head _))).lt
  dsimp only at x0 x1 x2 x3 x4 y0 y1 y2 y3 y4 hlt hlt0
  have G1 := Lib.hid g
  clear g hb G0
  go_wp2_with fail
  refine (H2.out _).mono ?_
  rintro e u2 ⟨rfl, hb⟩
  have g := G1.out.call hb
  clear x0 x1 x2 x3 x4 y0 y1 y2 y3 y4 hlt hlt0
  obtain ⟨y0, y1, y2, y3, y4⟩ := (g.2 _ (.head _)).cell
  obtain ⟨x0, x1, x2, x3, x4⟩ := (g.2 _ (.tail _ (.head _))).cell
  have hlt := (g.2 _ (.head _)).lt
  have hlt0 := (g.2 _ (.tail _ (.head _))).lt
  dsimp only at x0 x1 x2 x3 x4 y0 y1 y2 y3 y4 hlt hlt0
  have G2 := Lib.hid g
  clear g hb G1
  go_wp2_with fail
  refine (H3.out _).mono ?_
  rintro e u3 ⟨rfl, hb⟩
  have g := G2.out.call hb
  clear x0 x1 x2 x3 x4 y0 y1 y2 y3 y4 hlt hlt0
  obtain ⟨y0, y1, y2, y3, y4⟩ := (g.2 _ (.head _)).cell
  obtain ⟨x0, x1, x2, x3, x4⟩ := (g.2 _ (.tail _ (.head _))).cell
  have hlt := (g.2 _ (.head _)).lt
  have hlt0 := (g.2 _ (.tail _ (.head _))).lt
  dsimp only at x0 x1 x2 x3 x4 y0 y1 y2 y3 y4 hlt hlt0
  have G3 := Lib.hid g
  clear g hb G2
  go_wp2_with fail
  refine (H4.out _).mono ?_
  rintro e u4 ⟨rfl, hb⟩
  have g := G3.out.call hb
  clear x0 x1 x2 x3 x4 y0 y1 y2 y3 y4 hlt hlt0
  obtain ⟨y0, y1, y2, y3, y4⟩ := (g.2 _ (.head _)).cell
  obtain ⟨x0, x1, x2, x3, x4⟩ := (g.2 _ (.tail _ (.head _))).cell
  have hlt := (g.2 _ (.head _)).lt
  have hlt0 := (g.2 _ (.tail _ (.head _))).lt
  dsimp only at x0 x1 x2 x3 x4 y0 y1 y2 y3 y4 hlt hlt0
  have G4 := Lib.hid g
  clear g hb G3
  go_wp2_with fail
  refine (H5.out _).mono ?_
  rintro e u5 ⟨rfl, hb⟩
  have g := G4.out.call hb
  clear x0 x1 x2 x3 x4 y0 y1 y2 y3 y4 hlt hlt0
  obtain ⟨y0, y1, y2, y3, y4⟩ := (g.2 _ (.head _)).cell
  obtain ⟨x0, x1, x2, x3, x4⟩ := (g.2 _ (.tail _ (.head _))).cell
  have hlt := (g.2 _ (.head _)).lt
  have hlt0 := (g.2 _ (.tail _ (.head _))).lt
  dsimp only at x0 x1 x2 x3 x4 y0 y1 y2 y3 y4 hlt hlt0
  have G5 := Lib.hid g
  clear g hb G4
  go_wp2_with fail
  refine (H6.out _).mono ?_
  rintro e u6 ⟨rfl, hb⟩
  have g := G5.out.call hb
  clear x0 x1 x2 x3 x4 y0 y1 y2 y3 y4 hlt hlt0
  have G6 := Lib.hid g
  clear g hb G5
  have hq1 : (q1 == q1) = true := by simp
  have hq2 : (q2 == q2) = true := by simp
  have hq3 : (q3 == q3) = true := by simp
  have hr1 : (r1 == r1) = true := by simp
  have hr2 : (r2 == r2) = true := by simp
  have hr3 : (r3 == r3) = true := by simp
  go_wp2_with fail
  refine (HA.out _ G6.out.1).mono ?_
  rintro e u9 ⟨rfl, hb⟩
  go_wp2_with fail
  go_ret
  exact ⟨rfl, below_via hb G6.out.1⟩
end Go.Proofs.YtjalpolciofphaaDoor
