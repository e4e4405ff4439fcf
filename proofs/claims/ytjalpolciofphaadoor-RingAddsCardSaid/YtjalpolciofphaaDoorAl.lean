
/- The law RingAdds, for all numbers. -/
import Derived.Test.YtjalpolciofphaaDoorRq
import Derived.Test.YtjalpolciofphaaDoorAa
import Derived.Test.YtjalpolciofphaaDoorRl
set_option linter.all false
set_option maxRecDepth 100000
namespace Go.Proofs.YtjalpolciofphaaDoor
open Go.RowKit Go.Shelf

set_option maxHeartbeats 8000000 in
theorem RingAdds_any (x y : Nm) (w : World) (hv : Vars w) : Calls Tryd.prog 3 #[x.v, y.v] w (Gives (.bool true) w) := by
  have HA : Hid (∀ w', Below w.heap.size w w' → Calls Tryd.prog 14 #[] w' (Gives (.bool true) w')) := fun w' hb => awake_below hv hb
  have H1 : Hid (∀ w, Calls Tryd.prog 8 #[x.v, y.v] w (Gives (.tuple #[(jointN x y (addN x y)).v, .int .i64 (jointE x y (addN x y))]) w)) := fun w => r_Add x y w
  have H2 : Hid (∀ w, Calls Tryd.prog 9 #[x.v, y.v] w (Gives (.tuple #[(jointN x y (subN x y)).v, .int .i64 (jointE x y (subN x y))]) w)) := fun w => r_Sub x y w
  have H3 : Hid (∀ w, Calls Tryd.prog 10 #[x.v, y.v] w (Gives (.tuple #[(jointN x y (mulN x y)).v, .int .i64 (jointE x y (mulN x y))]) w)) := fun w => r_Mul x y w
  have H4 : Hid (∀ w, Calls Tryd.prog 11 #[x.v, y.v] w (Gives (.tuple #[(jointN x y (addN x y)).v, .int .i64 (jointE x y (addN x y))]) w)) := fun w => Add_any x.A x.B x.C x.D x.K y.A y.B y.C y.D y.K w
  have H5 : Hid (∀ w, Calls Tryd.prog 12 #[x.v, y.v] w (Gives (.tuple #[(jointN x y (subN x y)).v, .int .i64 (jointE x y (subN x y))]) w)) := fun w => Sub_any x.A x.B x.C x.D x.K y.A y.B y.C y.D y.K w
  have H6 : Hid (∀ w, Calls Tryd.prog 13 #[x.v, y.v] w (Gives (.tuple #[(jointN x y (mulN x y)).v, .int .i64 (jointE x y (mulN x y))]) w)) := fun w => Mul_any x.A x.B x.C x.D x.K y.A y.B y.C y.D y.K w
  have G0 := Lib.hid (Got.two w x y)
  clear hv
  generalize jointN x y (addN x y) = r1 at *
  generalize jointE x y (addN x y) = q1 at *
  generalize jointN x y (subN x y) = r2 at *
  generalize jointE x y (subN x y) = q2 at *
  generalize jointN x y (mulN x y) = r3 at *
  generalize jointE x y (mulN x y) = q3 at *
  go_enter Tryd.func3, Tryd.ntmps3
  go_wp2_with fail
  refine (H1.out _).mono ?_
  rintro e u1 ⟨rfl, hb⟩
  have g := G0.out.call hb
  obtain ⟨y0, y1, y2, y3, y4⟩ := (g.2 _ (.head _)).cell
  obtain ⟨x0, x1, x2, x3, x4⟩ := (g.2 _ (.tail _ (.head _))).cell
  have hlt := (g.2 _ (.head _)).lt
  have hlt0 := (g.2 _ (.tail _ (.head _))).lt
  dsimp only at x0 x1 x2 x3 x4 y0 y1 y2 y3 y4 hlt hlt0
  have G1 := Lib.hid (g.box r1)
  clear g hb G0
  go_wp2_with fail
  clear x0 x1 x2 x3 x4 y0 y1 y2 y3 y4 hlt hlt0
  refine (H2.out _).mono ?_
  rintro e u2 ⟨rfl, hb⟩
  have g := G1.out.call hb
  obtain ⟨y0, y1, y2, y3, y4⟩ := (g.2 _ (.tail _ (.head _))).cell
  obtain ⟨x0, x1, x2, x3, x4⟩ := (g.2 _ (.tail _ (.tail _ (.head _)))).cell
  have hlt := (g.2 _ (.tail _ (.head _))).lt
  have hlt0 := (g.2 _ (.tail _ (.tail _ (.head _)))).lt
  dsimp only at x0 x1 x2 x3 x4 y0 y1 y2 y3 y4 hlt hlt0
  have G2 := Lib.hid (g.box r2)
  clear g hb G1
  go_wp2_with fail
  clear x0 x1 x2 x3 x4 y0 y1 y2 y3 y4 hlt hlt0
  refine (H3.out _).mono ?_
  rintro e u3 ⟨rfl, hb⟩
  have g := G2.out.call hb
  obtain ⟨y0, y1, y2, y3, y4⟩ := (g.2 _ (.tail _ (.tail _ (.head _)))).cell
  obtain ⟨x0, x1, x2, x3, x4⟩ := (g.2 _ (.tail _ (.tail _ (.tail _ (.head _))))).cell
  have hlt := (g.2 _ (.tail _ (.tail _ (.head _)))).lt
  have hlt0 := (g.2 _ (.tail _ (.tail _ (.tail _ (.head _))))).lt
  dsimp only at x0 x1 x2 x3 x4 y0 y1 y2 y3 y4 hlt hlt0
  have G3 := Lib.hid (g.box r3)
  clear g hb G2
  go_wp2_with fail
  clear x0 x1 x2 x3 x4 y0 y1 y2 y3 y4 hlt hlt0
  refine (H4.out _).mono ?_
  rintro e u4 ⟨rfl, hb⟩
  have g := G3.out.call hb
  obtain ⟨y0, y1, y2, y3, y4⟩ := (g.2 _ (.tail _ (.tail _ (.tail _ (.head _))))).cell
  obtain ⟨x0, x1, x2, x3, x4⟩ := (g.2 _ (.tail _ (.tail _ (.tail _ (.tail _ (.head _)))))).cell
  have hlt := (g.2 _ (.tail _ (.tail _ (.tail _ (.head _))))).lt
  have hlt0 := (g.2 _ (.tail _ (.tail _ (.tail _ (.tail _ (.head _)))))).lt
  dsimp only at x0 x1 x2 x3 x4 y0 y1 y2 y3 y4 hlt hlt0
  have G4 := Lib.hid (g.box r1)
  clear g hb G3
  go_wp2_with fail
  clear x0 x1 x2 x3 x4 y0 y1 y2 y3 y4 hlt hlt0
  refine (H5.out _).mono ?_
  rintro e u5 ⟨rfl, hb⟩
  have g := G4.out.call hb
  obtain ⟨y0, y1, y2, y3, y4⟩ := (g.2 _ (.tail _ (.tail _ (.tail _ (.tail _ (.head _)))))).cell
  obtain ⟨x0, x1, x2, x3, x4⟩ := (g.2 _ (.tail _ (.tail _ (.tail _ (.tail _ (.tail _ (.head _))))))).cell
  have hlt := (g.2 _ (.tail _ (.tail _ (.tail _ (.tail _ (.head _)))))).lt
  have hlt0 := (g.2 _ (.tail _ (.tail _ (.tail _ (.tail _ (.tail _ (.head _))))))).lt
  dsimp only at x0 x1 x2 x3 x4 y0 y1 y2 y3 y4 hlt hlt0
  have G5 := Lib.hid (g.box r2)
  clear g hb G4
  go_wp2_with fail
  clear x0 x1 x2 x3 x4 y0 y1 y2 y3 y4 hlt hlt0
  refine (H6.out _).mono ?_
  rintro e u6 ⟨rfl, hb⟩
  have g := G5.out.call hb
  obtain ⟨b50, b51, b52, b53, b54⟩ := (g.2 _ (.head _)).cell
  have lt5 := (g.2 _ (.head _)).lt
  dsimp only at b50 b51 b52 b53 b54 lt5
  obtain ⟨b40, b41, b42, b43, b44⟩ := (g.2 _ (.tail _ (.head _))).cell
  have lt4 := (g.2 _ (.tail _ (.head _))).lt
  dsimp only at b40 b41 b42 b43 b44 lt4
  obtain ⟨b30, b31, b32, b33, b34⟩ := (g.2 _ (.tail _ (.tail _ (.head _)))).cell
  have lt3 := (g.2 _ (.tail _ (.tail _ (.head _)))).lt
  dsimp only at b30 b31 b32 b33 b34 lt3
  obtain ⟨b20, b21, b22, b23, b24⟩ := (g.2 _ (.tail _ (.tail _ (.tail _ (.head _))))).cell
  have lt2 := (g.2 _ (.tail _ (.tail _ (.tail _ (.head _))))).lt
  dsimp only at b20 b21 b22 b23 b24 lt2
  obtain ⟨b10, b11, b12, b13, b14⟩ := (g.2 _ (.tail _ (.tail _ (.tail _ (.tail _ (.head _)))))).cell
  have lt1 := (g.2 _ (.tail _ (.tail _ (.tail _ (.tail _ (.head _)))))).lt
  dsimp only at b10 b11 b12 b13 b14 lt1
  have G6 := Lib.hid (g.box r3)
  clear g hb G5
  have hq1 : (q1 == q1) = true := by simp
  have hq2 : (q2 == q2) = true := by simp
  have hq3 : (q3 == q3) = true := by simp
  go_wp2_with fail
  refine (HA.out _ G6.out.1).mono ?_
  rintro e u9 ⟨rfl, hb⟩
  go_wp2_with fail
  go_ret
  exact ⟨rfl, below_via hb G6.out.1⟩
end Go.Proofs.YtjalpolciofphaaDoor
