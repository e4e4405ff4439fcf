
/- The law RingTurns, for all numbers. -/
import Derived.Test.YtcdmcndjbajhlaaGreatDoorJs
import Derived.Test.YtcdmcndjbajhlaaGreatDoorJu
set_option linter.all false
set_option maxRecDepth 100000
namespace Go.Proofs.YtcdmcndjbajhlaaGreatDoor
open Go.RowKit Go.Shelf

theorem turn_same {x y : Nm} (hy : x.chk = 0 → y.inb 1073741824 = true ∧ 0 ≤ y.K ∧ y.K ≤ 60) : Value.tuple #[(aloneN x y).v, .int .i64 (aloneE x y)] = turnV x y := by
  unfold aloneN aloneE turnV fitN fitE
  by_cases h : x.chk = 0
  · have := hy h
    rw [if_pos h, if_pos h, if_pos h, if_pos (least_fine this.1 this.2), if_pos (least_fine this.1 this.2), h]
  · rw [if_neg h, if_neg h, if_neg h]
theorem neg_turn (x : Nm) : Value.tuple #[(aloneN x (negN x)).v, .int .i64 (aloneE x (negN x))] = turnV x (negN x) :=
  turn_same fun h => by
    have := chk_in h
    refine ⟨?_, ?_⟩
    · refine decide_eq_true ?_; dsimp only [negN]; omega
    · show 0 ≤ x.K ∧ x.K ≤ 60; omega
theorem conj_turn (x : Nm) : Value.tuple #[(aloneN x (conjN x)).v, .int .i64 (aloneE x (conjN x))] = turnV x (conjN x) :=
  turn_same fun h => by
    have := chk_in h
    refine ⟨?_, ?_⟩
    · refine decide_eq_true ?_; dsimp only [conjN]; omega
    · show 0 ≤ x.K ∧ x.K ≤ 60; omega
theorem dot_turn (x : Nm) : Value.tuple #[(aloneN x (dotN x)).v, .int .i64 (aloneE x (dotN x))] = turnV x (dotN x) :=
  turn_same fun h => by
    have := chk_in h
    refine ⟨?_, ?_⟩
    · unfold dotN; split <;> (refine decide_eq_true ?_; dsimp only; omega)
    · rw [dotN_K]; omega

set_option maxHeartbeats 8000000 in
theorem RingTurns_any (x : Nm) (w : World) (hv : Vars w) : Calls Tryz.prog 12 #[x.v] w (Gives (.bool true) w) := by
  have HA : Hid (∀ w', Below w.heap.size w w' → Calls Tryz.prog 9 #[] w' (Gives (.bool true) w')) := fun w' hb => awake_below hv hb
  have H1 : Hid (∀ w, Calls Tryz.prog 47 #[x.v] w (Gives (.tuple #[(if x.chk = 0 then (negN x).least else nul).v, .int .i64 x.chk]) w)) := fun w => r_Neg x w
  have H2 : Hid (∀ w, Calls Tryz.prog 48 #[x.v] w (Gives (.tuple #[(if x.chk = 0 then (conjN x).least else nul).v, .int .i64 x.chk]) w)) := fun w => r_Conj x w
  have H3 : Hid (∀ w, Calls Tryz.prog 49 #[x.v] w (Gives (.tuple #[(if x.chk = 0 then (dotN x).least else nul).v, .int .i64 x.chk]) w)) := fun w => r_Dot x w
  have H4 : Hid (∀ w, Calls Tryz.prog 50 #[x.v] w (Gives (.tuple #[(if x.chk = 0 then fitN (normN x) else nul).v, .int .i64 (if x.chk = 0 then fitE (normN x) else x.chk)]) w)) := fun w => r_Norm x w
  have H5 : Hid (∀ w, Calls Tryz.prog 51 #[x.v] w (Gives (.tuple #[(if x.chk = 0 then (negN x).least else nul).v, .int .i64 x.chk]) w)) := Tells.of (Neg_any x.A x.B x.C x.D x.K) (neg_turn x)
  have H6 : Hid (∀ w, Calls Tryz.prog 52 #[x.v] w (Gives (.tuple #[(if x.chk = 0 then (conjN x).least else nul).v, .int .i64 x.chk]) w)) := Tells.of (Conj_any x.A x.B x.C x.D x.K) (conj_turn x)
  have H7 : Hid (∀ w, Calls Tryz.prog 33 #[x.v] w (Gives (.tuple #[(if x.chk = 0 then (dotN x).least else nul).v, .int .i64 x.chk]) w)) := Tells.of (Dot_any x.A x.B x.C x.D x.K) (dot_turn x)
  have H8 : Hid (∀ w, Calls Tryz.prog 34 #[x.v] w (Gives (.tuple #[(if x.chk = 0 then fitN (normN x) else nul).v, .int .i64 (if x.chk = 0 then fitE (normN x) else x.chk)]) w)) := fun w => Norm_any x.A x.B x.C x.D x.K w
  have G0 : Hid (Got w [(w.heap.size, x)] (w.alloc (.cells #[.int .i64 x.A, .int .i64 x.B, .int .i64 x.C, .int .i64 x.D, .int .i64 x.K] 23))) := (Got.none w).box x
  clear hv
  generalize (if x.chk = 0 then (negN x).least else nul) = r1 at *
  generalize (if x.chk = 0 then (conjN x).least else nul) = r2 at *
  generalize (if x.chk = 0 then (dotN x).least else nul) = r3 at *
  generalize (if x.chk = 0 then fitN (normN x) else nul) = r4 at *
  generalize (if x.chk = 0 then fitE (normN x) else x.chk) = q4 at *
  generalize x.chk = q at *
  go_enter Tryz.func12, Tryz.ntmps12
  go_wp2_with fail
  refine (H1.out _).mono ?_
  rintro e u1 ⟨rfl, hb⟩
  have g := G0.out.call hb
  obtain ⟨x0, x1, x2, x3, x4⟩ := (g.2 _ (.head _)).cell
  have hlt := (g.2 _ (.head _)).lt
  dsimp only at x0 x1 x2 x3 x4 hlt
  have G1 := Lib.hid (g.box r1)
  clear g hb G0
  go_wp2_with fail
  clear x0 x1 x2 x3 x4 hlt
  refine (H2.out _).mono ?_
  rintro e u2 ⟨rfl, hb⟩
  have g := G1.out.call hb
  obtain ⟨x0, x1, x2, x3, x4⟩ := (g.2 _ (.tail _ (.head _))).cell
  have hlt := (g.2 _ (.tail _ (.head _))).lt
  dsimp only at x0 x1 x2 x3 x4 hlt
  have G2 := Lib.hid (g.box r2)
  clear g hb G1
  go_wp2_with fail
  clear x0 x1 x2 x3 x4 hlt
  refine (H3.out _).mono ?_
  rintro e u3 ⟨rfl, hb⟩
  have g := G2.out.call hb
  obtain ⟨x0, x1, x2, x3, x4⟩ := (g.2 _ (.tail _ (.tail _ (.head _)))).cell
  have hlt := (g.2 _ (.tail _ (.tail _ (.head _)))).lt
  dsimp only at x0 x1 x2 x3 x4 hlt
  have G3 := Lib.hid (g.box r3)
  clear g hb G2
  go_wp2_with fail
  clear x0 x1 x2 x3 x4 hlt
  refine (H4.out _).mono ?_
  rintro e u4 ⟨rfl, hb⟩
  have g := G3.out.call hb
  obtain ⟨x0, x1, x2, x3, x4⟩ := (g.2 _ (.tail _ (.tail _ (.tail _ (.head _))))).cell
  have hlt := (g.2 _ (.tail _ (.tail _ (.tail _ (.head _))))).lt
  dsimp only at x0 x1 x2 x3 x4 hlt
  have G4 := Lib.hid (g.box r4)
  clear g hb G3
  go_wp2_with fail
  clear x0 x1 x2 x3 x4 hlt
  refine (H5.out _).mono ?_
  rintro e u5 ⟨rfl, hb⟩
  have g := G4.out.call hb
  obtain ⟨x0, x1, x2, x3, x4⟩ := (g.2 _ (.tail _ (.tail _ (.tail _ (.tail _ (.head _)))))).cell
  have hlt := (g.2 _ (.tail _ (.tail _ (.tail _ (.tail _ (.head _)))))).lt
  dsimp only at x0 x1 x2 x3 x4 hlt
  have G5 := Lib.hid (g.box r1)
  clear g hb G4
  go_wp2_with fail
  clear x0 x1 x2 x3 x4 hlt
  refine (H6.out _).mono ?_
  rintro e u6 ⟨rfl, hb⟩
  have g := G5.out.call hb
  obtain ⟨x0, x1, x2, x3, x4⟩ := (g.2 _ (.tail _ (.tail _ (.tail _ (.tail _ (.tail _ (.head _))))))).cell
  have hlt := (g.2 _ (.tail _ (.tail _ (.tail _ (.tail _ (.tail _ (.head _))))))).lt
  dsimp only at x0 x1 x2 x3 x4 hlt
  have G6 := Lib.hid (g.box r2)
  clear g hb G5
  go_wp2_with fail
  clear x0 x1 x2 x3 x4 hlt
  refine (H7.out _).mono ?_
  rintro e u7 ⟨rfl, hb⟩
  have g := G6.out.call hb
  obtain ⟨x0, x1, x2, x3, x4⟩ := (g.2 _ (.tail _ (.tail _ (.tail _ (.tail _ (.tail _ (.tail _ (.head _)))))))).cell
  have hlt := (g.2 _ (.tail _ (.tail _ (.tail _ (.tail _ (.tail _ (.tail _ (.head _)))))))).lt
  dsimp only at x0 x1 x2 x3 x4 hlt
  have G7 := Lib.hid (g.box r3)
  clear g hb G6
  go_wp2_with fail
  clear x0 x1 x2 x3 x4 hlt
  refine (H8.out _).mono ?_
  rintro e u8 ⟨rfl, hb⟩
  have g := G7.out.call hb
  obtain ⟨b70, b71, b72, b73, b74⟩ := (g.2 _ (.head _)).cell
  have lt7 := (g.2 _ (.head _)).lt
  dsimp only at b70 b71 b72 b73 b74 lt7
  obtain ⟨b60, b61, b62, b63, b64⟩ := (g.2 _ (.tail _ (.head _))).cell
  have lt6 := (g.2 _ (.tail _ (.head _))).lt
  dsimp only at b60 b61 b62 b63 b64 lt6
  obtain ⟨b50, b51, b52, b53, b54⟩ := (g.2 _ (.tail _ (.tail _ (.head _)))).cell
  have lt5 := (g.2 _ (.tail _ (.tail _ (.head _)))).lt
  dsimp only at b50 b51 b52 b53 b54 lt5
  obtain ⟨b40, b41, b42, b43, b44⟩ := (g.2 _ (.tail _ (.tail _ (.tail _ (.head _))))).cell
  have lt4 := (g.2 _ (.tail _ (.tail _ (.tail _ (.head _))))).lt
  dsimp only at b40 b41 b42 b43 b44 lt4
  obtain ⟨b30, b31, b32, b33, b34⟩ := (g.2 _ (.tail _ (.tail _ (.tail _ (.tail _ (.head _)))))).cell
  have lt3 := (g.2 _ (.tail _ (.tail _ (.tail _ (.tail _ (.head _)))))).lt
  dsimp only at b30 b31 b32 b33 b34 lt3
  obtain ⟨b20, b21, b22, b23, b24⟩ := (g.2 _ (.tail _ (.tail _ (.tail _ (.tail _ (.tail _ (.head _))))))).cell
  have lt2 := (g.2 _ (.tail _ (.tail _ (.tail _ (.tail _ (.tail _ (.head _))))))).lt
  dsimp only at b20 b21 b22 b23 b24 lt2
  obtain ⟨b10, b11, b12, b13, b14⟩ := (g.2 _ (.tail _ (.tail _ (.tail _ (.tail _ (.tail _ (.tail _ (.head _)))))))).cell
  have lt1 := (g.2 _ (.tail _ (.tail _ (.tail _ (.tail _ (.tail _ (.tail _ (.head _)))))))).lt
  dsimp only at b10 b11 b12 b13 b14 lt1
  have G8 := Lib.hid (g.box r4)
  clear g hb G7
  have hq : (q == q) = true := by simp
  have hq4 : (q4 == q4) = true := by simp
  go_wp2_with fail
  refine (HA.out _ G8.out.1).mono ?_
  rintro e u9 ⟨rfl, hb⟩
  go_wp2_with fail
  go_ret
  exact ⟨rfl, below_via hb G8.out.1⟩
end Go.Proofs.YtcdmcndjbajhlaaGreatDoor
