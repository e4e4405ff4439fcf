
/- The law RingDivides, for all numbers, by way of what the reference's Divide gives. -/
import Derived.Test.YtohadcaapmnlaaaDoorDx
import Derived.Test.YtohadcaapmnlaaaDoorRl
set_option linter.all false
set_option maxRecDepth 100000
namespace Go.Proofs.YtohadcaapmnlaaaDoor
open Go.RowKit Go.Shelf

set_option maxHeartbeats 8000000 in
theorem RingDivides_of (x y : Nm) (w : World) (hv : Vars w)
    (H1 : Hid (∀ w, Calls Tryd.prog 11 #[x.v, y.v] w (Gives (.tuple #[(DivN x y).v, .int .i64 (DivE x y)]) w))) :
    Calls Tryd.prog 3 #[x.v, y.v] w (Gives (.bool true) w) := by
  have HA : Hid (∀ w', Below w.heap.size w w' → Calls Tryd.prog 13 #[] w' (Gives (.bool true) w')) := fun w' hb => awake_below hv hb
  have H2 : Hid (∀ w, Calls Tryd.prog 12 #[x.v, y.v] w (Gives (.tuple #[(DivN x y).v, .int .i64 (DivE x y)]) w)) := fun w => Divide_any x.A x.B x.C x.D x.K y.A y.B y.C y.D y.K w
  have G0 := Lib.hid (Got.two w x y)
  clear hv
  generalize DivN x y = r1 at *
  generalize DivE x y = q1 at *
  go_enter Tryd.func3, Tryd.ntmps3
  go_wp2_with fail
  refine (H1.out _).mono ?_
  rintro e u1 ⟨rfl, hb⟩
  have g := G0.out.call hb
  obtain ⟨y0, y1, y2, y3, y4⟩ := (g.2 _ (.head _)).cell
  obtain ⟨x0, x1, x2, x3, x4⟩ := (g.2 _ (.tail _ (.head _))).cell
  have hlt := (g.2 _ (.head _)).lt
  have hlt0 := (g.2 _ (.tail _ (.head _))).lt
  dsimp only at x0 x1 x2 x3 x4 y0 y1 y2 y3 y4 hlt hlt0
  have G1 := Lib.hid (g.box r1)
  clear g hb G0
  go_wp2_with fail
  clear x0 x1 x2 x3 x4 y0 y1 y2 y3 y4 hlt hlt0
  refine (H2.out _).mono ?_
  rintro e u2 ⟨rfl, hb⟩
  have g := G1.out.call hb
  obtain ⟨b10, b11, b12, b13, b14⟩ := (g.2 _ (.head _)).cell
  have lt1 := (g.2 _ (.head _)).lt
  dsimp only at b10 b11 b12 b13 b14 lt1
  have G2 := Lib.hid (g.box r1)
  clear g hb G1
  have hq1 : (q1 == q1) = true := by simp
  go_wp2_with fail
  refine (HA.out _ G2.out.1).mono ?_
  rintro e u9 ⟨rfl, hb⟩
  go_wp2_with fail
  go_ret
  exact ⟨rfl, below_via hb G2.out.1⟩
end Go.Proofs.YtohadcaapmnlaaaDoor
