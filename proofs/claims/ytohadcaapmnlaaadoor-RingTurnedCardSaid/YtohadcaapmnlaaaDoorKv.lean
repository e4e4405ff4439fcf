
/- The law RingTurned, for all bytes. -/
import Derived.Test.YtohadcaapmnlaaaDoorKw
set_option linter.all false
set_option maxRecDepth 100000
namespace Go.Proofs.YtohadcaapmnlaaaDoor
open Go.RowKit Go.Shelf

set_option maxHeartbeats 16000000 in
theorem RingTurned_any (p : Option Addr) (n c : Nat) (w : World) (hg : Given w p n c) (hv : Vars w) : Calls Tryd.prog 5 #[.slice p n c] w (Gives (.bool true) w) := by
  have HA : Hid (∀ w', Below w.heap.size w w' → Calls Tryd.prog 13 #[] w' (Gives (.bool true) w')) := fun w' hb => awake_below hv hb
  have HO : Hid (Calls Tryd.prog 14 #[.slice p n c] w (Stored w)) := Of_any p n c w hg
  clear hv hg
  go_enter Tryd.func5, Tryd.ntmps5
  go_wp2_with fail
  refine HO.out.mono ?_
  rintro e v0 ⟨b, rfl, hge, hs, hb⟩
  have S0 := Lib.hid hs
  have B0 := Lib.hid hb
  have GE := Lib.hid (show w.heap.size ≤ b ∧ w.heap.size ≤ v0.heap.size from ⟨hge, hb.size⟩)
  have hL : b < v0.heap.size := hs.1.1
  clear hs hb hge HO
  go_wp2_with fail
  refine (Num_any b _ 0 60 8 _ (by omega) (by omega) (by omega) (by omega) (by omega) S0.out).mono ?_
  rintro e v1 ⟨x, rfl, hn, hs, hb⟩
  have Fx : Hid (Fine x 60 8) := ⟨hn.1, hn.2.1, hn.2.2⟩
  have S1 := Lib.hid hs
  have B1 := Lib.hid (below_store B0.out hb GE.out)
  clear hn hs hb S0 B0
  go_wp2_with fail
  refine (Num_any b _ (0 + 5) 60 8 _ (by omega) (by omega) (by omega) (by omega) (by omega) S1.out).mono ?_
  rintro e v2 ⟨y, rfl, hn, hs, hb⟩
  have Fy : Hid (Fine y 60 8) := ⟨hn.1, hn.2.1, hn.2.2⟩
  have S2 := Lib.hid hs
  have B2 := Lib.hid (below_store B1.out hb GE.out)
  clear hn hs hb S1 B1
  go_wp2_with fail
  obtain ⟨ta, tb, lx, ca, cm, cs, da, dm, ds, hT⟩ := conj_turns Fx.out Fy.out
  obtain ⟨ta', tb', lx', ca', cm', cs', da', dm', ds', hT'⟩ := dot_turns Fx.out Fy.out
  obtain ⟨za, zc, ze, hZ⟩ := both_turns Fx.out
  have HT := Lib.hid hT
  have HT' := Lib.hid hT'
  have HZ := Lib.hid hZ
  clear hT hT' hZ
  have g0 := ((show Got w [] v2 from ⟨B2.out, by simp⟩).box x).box y
  simp only [World.size_alloc] at g0
  have g1 : Goc w _ [] _ := ⟨g0, by simp⟩
  have g2 := g1.two (.func (.func 21) #[] #[]) (.func (.func 22) #[] #[]) 35
  simp only [World.size_alloc] at g2
  have g := g2
  obtain ⟨x_0, x_1, x_2, x_3, x_4⟩ := (g.1.2 _ (.tail _ (.head _))).cell
  have x_t := (g.1.2 _ (.tail _ (.head _))).lt
  dsimp only at x_0 x_1 x_2 x_3 x_4 x_t
  have G0 := Lib.hid g2
  clear g0 g1 g2 g
  refine wp_loop_rounds 3 ?_
  rw [rounds_succ]
  go_wp2_with fail
  clear x_0 x_1 x_2 x_3 x_4 x_t
  refine (HT.out.h1 _).mono ?_
  rintro e u1 ⟨rfl, hb⟩
  have g := G0.out.call hb
  obtain ⟨y_0, y_1, y_2, y_3, y_4⟩ := (g.1.2 _ (.head _)).cell
  have y_t := (g.1.2 _ (.head _)).lt
  dsimp only at y_0 y_1 y_2 y_3 y_4 y_t
  have G1 := Lib.hid (g.box ta)
  clear g hb G0
  go_wp2_with fail
  clear y_0 y_1 y_2 y_3 y_4 y_t
  refine (HT.out.h2 _).mono ?_
  rintro e u2 ⟨rfl, hb⟩
  have g := G1.out.call hb
  obtain ⟨a0_0, a0_1, a0_2, a0_3, a0_4⟩ := (g.1.2 _ (.head _)).cell
  have a0_t := (g.1.2 _ (.head _)).lt
  dsimp only at a0_0 a0_1 a0_2 a0_3 a0_4 a0_t
  have G2 := Lib.hid (g.box tb)
  clear g hb G1
  go_wp2_with fail
  clear a0_0 a0_1 a0_2 a0_3 a0_4 a0_t
  refine (HT.out.h3 _).mono ?_
  rintro e u3 ⟨rfl, hb⟩
  have g := G2.out.call hb
  obtain ⟨x_0, x_1, x_2, x_3, x_4⟩ := (g.1.2 _ (.tail _ (.tail _ (.tail _ (.head _))))).cell
  have x_t := (g.1.2 _ (.tail _ (.tail _ (.tail _ (.head _))))).lt
  dsimp only at x_0 x_1 x_2 x_3 x_4 x_t
  have G3 := Lib.hid (g.box lx)
  clear g hb G2
  go_wp2_with fail
  clear x_0 x_1 x_2 x_3 x_4 x_t
  refine (HT.out.h4 _).mono ?_
  rintro e u4 ⟨rfl, hb⟩
  have g := G3.out.call hb
  obtain ⟨back0_0, back0_1, back0_2, back0_3, back0_4⟩ := (g.1.2 _ (.head _)).cell
  have back0_t := (g.1.2 _ (.head _)).lt
  dsimp only at back0_0 back0_1 back0_2 back0_3 back0_4 back0_t
  have G4 := Lib.hid (g.box lx)
  clear g hb G3
  go_wp2_with fail
  clear back0_0 back0_1 back0_2 back0_3 back0_4 back0_t
  have g := G4.out.three (.func (.func 16) #[] #[]) (.func (.func 17) #[] #[]) (.func (.func 19) #[] #[]) 26
  simp only [World.size_alloc] at g
  obtain ⟨x_0, x_1, x_2, x_3, x_4⟩ := (g.1.2 _ (.tail _ (.tail _ (.tail _ (.tail _ (.tail _ (.head _))))))).cell
  have x_t := (g.1.2 _ (.tail _ (.tail _ (.tail _ (.tail _ (.tail _ (.head _))))))).lt
  obtain ⟨y_0, y_1, y_2, y_3, y_4⟩ := (g.1.2 _ (.tail _ (.tail _ (.tail _ (.tail _ (.head _)))))).cell
  have y_t := (g.1.2 _ (.tail _ (.tail _ (.tail _ (.tail _ (.head _)))))).lt
  dsimp only at x_0 x_1 x_2 x_3 x_4 x_t y_0 y_1 y_2 y_3 y_4 y_t
  have G5 := Lib.hid g
  clear g G4
  refine wp_loop_rounds 4 ?_
  rw [rounds_succ]
  go_wp2_with fail
  clear x_0 x_1 x_2 x_3 x_4 x_t y_0 y_1 y_2 y_3 y_4 y_t
  refine (HT.out.a1 _).mono ?_
  rintro e u6 ⟨rfl, hb⟩
  have g := G5.out.call hb
  have G6 := Lib.hid (g.box ca)
  clear g hb G5
  go_wp2_with fail
  refine (HT.out.a2 _).mono ?_
  rintro e u7 ⟨rfl, hb⟩
  have g := G6.out.call hb
  obtain ⟨a0_0, a0_1, a0_2, a0_3, a0_4⟩ := (g.1.2 _ (.tail _ (.tail _ (.tail _ (.tail _ (.head _)))))).cell
  have a0_t := (g.1.2 _ (.tail _ (.tail _ (.tail _ (.tail _ (.head _)))))).lt
  obtain ⟨b0_0, b0_1, b0_2, b0_3, b0_4⟩ := (g.1.2 _ (.tail _ (.tail _ (.tail _ (.head _))))).cell
  have b0_t := (g.1.2 _ (.tail _ (.tail _ (.tail _ (.head _))))).lt
  dsimp only at a0_0 a0_1 a0_2 a0_3 a0_4 a0_t b0_0 b0_1 b0_2 b0_3 b0_4 b0_t
  have G7 := Lib.hid (g.box da)
  clear g hb G6
  go_wp2_with fail
  clear a0_0 a0_1 a0_2 a0_3 a0_4 a0_t b0_0 b0_1 b0_2 b0_3 b0_4 b0_t
  refine (HT.out.a3 _).mono ?_
  rintro e u8 ⟨rfl, hb⟩
  have g := G7.out.call hb
  obtain ⟨d0a_0, d0a_1, d0a_2, d0a_3, d0a_4⟩ := (g.1.2 _ (.head _)).cell
  have d0a_t := (g.1.2 _ (.head _)).lt
  obtain ⟨x_0, x_1, x_2, x_3, x_4⟩ := (g.1.2 _ (.tail _ (.tail _ (.tail _ (.tail _ (.tail _ (.tail _ (.tail _ (.head _))))))))).cell
  have x_t := (g.1.2 _ (.tail _ (.tail _ (.tail _ (.tail _ (.tail _ (.tail _ (.tail _ (.head _))))))))).lt
  obtain ⟨y_0, y_1, y_2, y_3, y_4⟩ := (g.1.2 _ (.tail _ (.tail _ (.tail _ (.tail _ (.tail _ (.tail _ (.head _)))))))).cell
  have y_t := (g.1.2 _ (.tail _ (.tail _ (.tail _ (.tail _ (.tail _ (.tail _ (.head _)))))))).lt
  have f0m := (g.2 _ (.tail _ (.head _))).1
  have f0m_t := (g.2 _ (.tail _ (.head _))).2
  dsimp only at d0a_0 d0a_1 d0a_2 d0a_3 d0a_4 d0a_t x_0 x_1 x_2 x_3 x_4 x_t y_0 y_1 y_2 y_3 y_4 y_t f0m f0m_t
  have G8 := Lib.hid (g.box da)
  clear g hb G7
  go_wp2_with fail
  rw [rounds_succ]
  go_wp2_with fail
  clear d0a_0 d0a_1 d0a_2 d0a_3 d0a_4 d0a_t x_0 x_1 x_2 x_3 x_4 x_t y_0 y_1 y_2 y_3 y_4 y_t f0m f0m_t
  refine (HT.out.m1 _).mono ?_
  rintro e u9 ⟨rfl, hb⟩
  have g := G8.out.call hb
  have G9 := Lib.hid (g.box cm)
  clear g hb G8
  go_wp2_with fail
  refine (HT.out.m2 _).mono ?_
  rintro e u10 ⟨rfl, hb⟩
  have g := G9.out.call hb
  obtain ⟨a0_0, a0_1, a0_2, a0_3, a0_4⟩ := (g.1.2 _ (.tail _ (.tail _ (.tail _ (.tail _ (.tail _ (.tail _ (.tail _ (.head _))))))))).cell
  have a0_t := (g.1.2 _ (.tail _ (.tail _ (.tail _ (.tail _ (.tail _ (.tail _ (.tail _ (.head _))))))))).lt
  obtain ⟨b0_0, b0_1, b0_2, b0_3, b0_4⟩ := (g.1.2 _ (.tail _ (.tail _ (.tail _ (.tail _ (.tail _ (.tail _ (.head _)))))))).cell
  have b0_t := (g.1.2 _ (.tail _ (.tail _ (.tail _ (.tail _ (.tail _ (.tail _ (.head _)))))))).lt
  dsimp only at a0_0 a0_1 a0_2 a0_3 a0_4 a0_t b0_0 b0_1 b0_2 b0_3 b0_4 b0_t
  have G10 := Lib.hid (g.box dm)
  clear g hb G9
  go_wp2_with fail
  clear a0_0 a0_1 a0_2 a0_3 a0_4 a0_t b0_0 b0_1 b0_2 b0_3 b0_4 b0_t
  refine (HT.out.m3 _).mono ?_
  rintro e u11 ⟨rfl, hb⟩
  have g := G10.out.call hb
  obtain ⟨d0m_0, d0m_1, d0m_2, d0m_3, d0m_4⟩ := (g.1.2 _ (.head _)).cell
  have d0m_t := (g.1.2 _ (.head _)).lt
  obtain ⟨x_0, x_1, x_2, x_3, x_4⟩ := (g.1.2 _ (.tail _ (.tail _ (.tail _ (.tail _ (.tail _ (.tail _ (.tail _ (.tail _ (.tail _ (.tail _ (.head _)))))))))))).cell
  have x_t := (g.1.2 _ (.tail _ (.tail _ (.tail _ (.tail _ (.tail _ (.tail _ (.tail _ (.tail _ (.tail _ (.tail _ (.head _)))))))))))).lt
  obtain ⟨y_0, y_1, y_2, y_3, y_4⟩ := (g.1.2 _ (.tail _ (.tail _ (.tail _ (.tail _ (.tail _ (.tail _ (.tail _ (.tail _ (.tail _ (.head _))))))))))).cell
  have y_t := (g.1.2 _ (.tail _ (.tail _ (.tail _ (.tail _ (.tail _ (.tail _ (.tail _ (.tail _ (.tail _ (.head _))))))))))).lt
  have f0s := (g.2 _ (.tail _ (.tail _ (.head _)))).1
  have f0s_t := (g.2 _ (.tail _ (.tail _ (.head _)))).2
  dsimp only at d0m_0 d0m_1 d0m_2 d0m_3 d0m_4 d0m_t x_0 x_1 x_2 x_3 x_4 x_t y_0 y_1 y_2 y_3 y_4 y_t f0s f0s_t
  have G11 := Lib.hid (g.box dm)
  clear g hb G10
  go_wp2_with fail
  rw [rounds_succ]
  go_wp2_with fail
  clear d0m_0 d0m_1 d0m_2 d0m_3 d0m_4 d0m_t x_0 x_1 x_2 x_3 x_4 x_t y_0 y_1 y_2 y_3 y_4 y_t f0s f0s_t
  refine (HT.out.s1 _).mono ?_
  rintro e u12 ⟨rfl, hb⟩
  have g := G11.out.call hb
  have G12 := Lib.hid (g.box cs)
  clear g hb G11
  go_wp2_with fail
  refine (HT.out.s2 _).mono ?_
  rintro e u13 ⟨rfl, hb⟩
  have g := G12.out.call hb
  obtain ⟨a0_0, a0_1, a0_2, a0_3, a0_4⟩ := (g.1.2 _ (.tail _ (.tail _ (.tail _ (.tail _ (.tail _ (.tail _ (.tail _ (.tail _ (.tail _ (.tail _ (.head _)))))))))))).cell
  have a0_t := (g.1.2 _ (.tail _ (.tail _ (.tail _ (.tail _ (.tail _ (.tail _ (.tail _ (.tail _ (.tail _ (.tail _ (.head _)))))))))))).lt
  obtain ⟨b0_0, b0_1, b0_2, b0_3, b0_4⟩ := (g.1.2 _ (.tail _ (.tail _ (.tail _ (.tail _ (.tail _ (.tail _ (.tail _ (.tail _ (.tail _ (.head _))))))))))).cell
  have b0_t := (g.1.2 _ (.tail _ (.tail _ (.tail _ (.tail _ (.tail _ (.tail _ (.tail _ (.tail _ (.tail _ (.head _))))))))))).lt
  dsimp only at a0_0 a0_1 a0_2 a0_3 a0_4 a0_t b0_0 b0_1 b0_2 b0_3 b0_4 b0_t
  have G13 := Lib.hid (g.box ds)
  clear g hb G12
  go_wp2_with fail
  clear a0_0 a0_1 a0_2 a0_3 a0_4 a0_t b0_0 b0_1 b0_2 b0_3 b0_4 b0_t
  refine (HT.out.s3 _).mono ?_
  rintro e u14 ⟨rfl, hb⟩
  have g := G13.out.call hb
  obtain ⟨d0s_0, d0s_1, d0s_2, d0s_3, d0s_4⟩ := (g.1.2 _ (.head _)).cell
  have d0s_t := (g.1.2 _ (.head _)).lt
  obtain ⟨x_0, x_1, x_2, x_3, x_4⟩ := (g.1.2 _ (.tail _ (.tail _ (.tail _ (.tail _ (.tail _ (.tail _ (.tail _ (.tail _ (.tail _ (.tail _ (.tail _ (.tail _ (.tail _ (.head _))))))))))))))).cell
  have x_t := (g.1.2 _ (.tail _ (.tail _ (.tail _ (.tail _ (.tail _ (.tail _ (.tail _ (.tail _ (.tail _ (.tail _ (.tail _ (.tail _ (.tail _ (.head _))))))))))))))).lt
  have fo1 := (g.2 _ (.tail _ (.tail _ (.tail _ (.tail _ (.head _)))))).1
  have fo1_t := (g.2 _ (.tail _ (.tail _ (.tail _ (.tail _ (.head _)))))).2
  dsimp only at d0s_0 d0s_1 d0s_2 d0s_3 d0s_4 d0s_t x_0 x_1 x_2 x_3 x_4 x_t fo1 fo1_t
  have G14 := Lib.hid (g.box ds)
  clear g hb G13
  go_wp2_with fail
  rw [rounds_succ]
  go_wp2_with fail
  rw [rounds_succ]
  go_wp2_with fail
  clear d0s_0 d0s_1 d0s_2 d0s_3 d0s_4 d0s_t x_0 x_1 x_2 x_3 x_4 x_t fo1 fo1_t
  refine (HT'.out.h1 _).mono ?_
  rintro e u15 ⟨rfl, hb⟩
  have g := G14.out.call hb
  obtain ⟨y_0, y_1, y_2, y_3, y_4⟩ := (g.1.2 _ (.tail _ (.tail _ (.tail _ (.tail _ (.tail _ (.tail _ (.tail _ (.tail _ (.tail _ (.tail _ (.tail _ (.tail _ (.tail _ (.head _))))))))))))))).cell
  have y_t := (g.1.2 _ (.tail _ (.tail _ (.tail _ (.tail _ (.tail _ (.tail _ (.tail _ (.tail _ (.tail _ (.tail _ (.tail _ (.tail _ (.tail _ (.head _))))))))))))))).lt
  dsimp only at y_0 y_1 y_2 y_3 y_4 y_t
  have G15 := Lib.hid (g.box ta')
  clear g hb G14
  go_wp2_with fail
  clear y_0 y_1 y_2 y_3 y_4 y_t
  refine (HT'.out.h2 _).mono ?_
  rintro e u16 ⟨rfl, hb⟩
  have g := G15.out.call hb
  obtain ⟨a1_0, a1_1, a1_2, a1_3, a1_4⟩ := (g.1.2 _ (.head _)).cell
  have a1_t := (g.1.2 _ (.head _)).lt
  dsimp only at a1_0 a1_1 a1_2 a1_3 a1_4 a1_t
  have G16 := Lib.hid (g.box tb')
  clear g hb G15
  go_wp2_with fail
  clear a1_0 a1_1 a1_2 a1_3 a1_4 a1_t
  refine (HT'.out.h3 _).mono ?_
  rintro e u17 ⟨rfl, hb⟩
  have g := G16.out.call hb
  obtain ⟨x_0, x_1, x_2, x_3, x_4⟩ := (g.1.2 _ (.tail _ (.tail _ (.tail _ (.tail _ (.tail _ (.tail _ (.tail _ (.tail _ (.tail _ (.tail _ (.tail _ (.tail _ (.tail _ (.tail _ (.tail _ (.tail _ (.head _)))))))))))))))))).cell
  have x_t := (g.1.2 _ (.tail _ (.tail _ (.tail _ (.tail _ (.tail _ (.tail _ (.tail _ (.tail _ (.tail _ (.tail _ (.tail _ (.tail _ (.tail _ (.tail _ (.tail _ (.tail _ (.head _)))))))))))))))))).lt
  dsimp only at x_0 x_1 x_2 x_3 x_4 x_t
  have G17 := Lib.hid (g.box lx')
  clear g hb G16
  go_wp2_with fail
  clear x_0 x_1 x_2 x_3 x_4 x_t
  refine (HT'.out.h4 _).mono ?_
  rintro e u18 ⟨rfl, hb⟩
  have g := G17.out.call hb
  obtain ⟨back1_0, back1_1, back1_2, back1_3, back1_4⟩ := (g.1.2 _ (.head _)).cell
  have back1_t := (g.1.2 _ (.head _)).lt
  dsimp only at back1_0 back1_1 back1_2 back1_3 back1_4 back1_t
  have G18 := Lib.hid (g.box lx')
  clear g hb G17
  go_wp2_with fail
  clear back1_0 back1_1 back1_2 back1_3 back1_4 back1_t
  have g := G18.out.three (.func (.func 16) #[] #[]) (.func (.func 17) #[] #[]) (.func (.func 19) #[] #[]) 26
  simp only [World.size_alloc] at g
  obtain ⟨x_0, x_1, x_2, x_3, x_4⟩ := (g.1.2 _ (.tail _ (.tail _ (.tail _ (.tail _ (.tail _ (.tail _ (.tail _ (.tail _ (.tail _ (.tail _ (.tail _ (.tail _ (.tail _ (.tail _ (.tail _ (.tail _ (.tail _ (.tail _ (.head _)))))))))))))))))))).cell
  have x_t := (g.1.2 _ (.tail _ (.tail _ (.tail _ (.tail _ (.tail _ (.tail _ (.tail _ (.tail _ (.tail _ (.tail _ (.tail _ (.tail _ (.tail _ (.tail _ (.tail _ (.tail _ (.tail _ (.tail _ (.head _)))))))))))))))))))).lt
  obtain ⟨y_0, y_1, y_2, y_3, y_4⟩ := (g.1.2 _ (.tail _ (.tail _ (.tail _ (.tail _ (.tail _ (.tail _ (.tail _ (.tail _ (.tail _ (.tail _ (.tail _ (.tail _ (.tail _ (.tail _ (.tail _ (.tail _ (.tail _ (.head _))))))))))))))))))).cell
  have y_t := (g.1.2 _ (.tail _ (.tail _ (.tail _ (.tail _ (.tail _ (.tail _ (.tail _ (.tail _ (.tail _ (.tail _ (.tail _ (.tail _ (.tail _ (.tail _ (.tail _ (.tail _ (.tail _ (.head _))))))))))))))))))).lt
  dsimp only at x_0 x_1 x_2 x_3 x_4 x_t y_0 y_1 y_2 y_3 y_4 y_t
  have G19 := Lib.hid g
  clear g G18
  refine wp_loop_rounds 4 ?_
  rw [rounds_succ]
  go_wp2_with fail
  clear x_0 x_1 x_2 x_3 x_4 x_t y_0 y_1 y_2 y_3 y_4 y_t
  refine (HT'.out.a1 _).mono ?_
  rintro e u20 ⟨rfl, hb⟩
  have g := G19.out.call hb
  have G20 := Lib.hid (g.box ca')
  clear g hb G19
  go_wp2_with fail
  refine (HT'.out.a2 _).mono ?_
  rintro e u21 ⟨rfl, hb⟩
  have g := G20.out.call hb
  obtain ⟨a1_0, a1_1, a1_2, a1_3, a1_4⟩ := (g.1.2 _ (.tail _ (.tail _ (.tail _ (.tail _ (.head _)))))).cell
  have a1_t := (g.1.2 _ (.tail _ (.tail _ (.tail _ (.tail _ (.head _)))))).lt
  obtain ⟨b1_0, b1_1, b1_2, b1_3, b1_4⟩ := (g.1.2 _ (.tail _ (.tail _ (.tail _ (.head _))))).cell
  have b1_t := (g.1.2 _ (.tail _ (.tail _ (.tail _ (.head _))))).lt
  dsimp only at a1_0 a1_1 a1_2 a1_3 a1_4 a1_t b1_0 b1_1 b1_2 b1_3 b1_4 b1_t
  have G21 := Lib.hid (g.box da')
  clear g hb G20
  go_wp2_with fail
  clear a1_0 a1_1 a1_2 a1_3 a1_4 a1_t b1_0 b1_1 b1_2 b1_3 b1_4 b1_t
  refine (HT'.out.a3 _).mono ?_
  rintro e u22 ⟨rfl, hb⟩
  have g := G21.out.call hb
  obtain ⟨d1a_0, d1a_1, d1a_2, d1a_3, d1a_4⟩ := (g.1.2 _ (.head _)).cell
  have d1a_t := (g.1.2 _ (.head _)).lt
  obtain ⟨x_0, x_1, x_2, x_3, x_4⟩ := (g.1.2 _ (.tail _ (.tail _ (.tail _ (.tail _ (.tail _ (.tail _ (.tail _ (.tail _ (.tail _ (.tail _ (.tail _ (.tail _ (.tail _ (.tail _ (.tail _ (.tail _ (.tail _ (.tail _ (.tail _ (.tail _ (.head _)))))))))))))))))))))).cell
  have x_t := (g.1.2 _ (.tail _ (.tail _ (.tail _ (.tail _ (.tail _ (.tail _ (.tail _ (.tail _ (.tail _ (.tail _ (.tail _ (.tail _ (.tail _ (.tail _ (.tail _ (.tail _ (.tail _ (.tail _ (.tail _ (.tail _ (.head _)))))))))))))))))))))).lt
  obtain ⟨y_0, y_1, y_2, y_3, y_4⟩ := (g.1.2 _ (.tail _ (.tail _ (.tail _ (.tail _ (.tail _ (.tail _ (.tail _ (.tail _ (.tail _ (.tail _ (.tail _ (.tail _ (.tail _ (.tail _ (.tail _ (.tail _ (.tail _ (.tail _ (.tail _ (.head _))))))))))))))))))))).cell
  have y_t := (g.1.2 _ (.tail _ (.tail _ (.tail _ (.tail _ (.tail _ (.tail _ (.tail _ (.tail _ (.tail _ (.tail _ (.tail _ (.tail _ (.tail _ (.tail _ (.tail _ (.tail _ (.tail _ (.tail _ (.tail _ (.head _))))))))))))))))))))).lt
  have f1m := (g.2 _ (.tail _ (.head _))).1
  have f1m_t := (g.2 _ (.tail _ (.head _))).2
  dsimp only at d1a_0 d1a_1 d1a_2 d1a_3 d1a_4 d1a_t x_0 x_1 x_2 x_3 x_4 x_t y_0 y_1 y_2 y_3 y_4 y_t f1m f1m_t
  have G22 := Lib.hid (g.box da')
  clear g hb G21
  go_wp2_with fail
  rw [rounds_succ]
  go_wp2_with fail
  clear d1a_0 d1a_1 d1a_2 d1a_3 d1a_4 d1a_t x_0 x_1 x_2 x_3 x_4 x_t y_0 y_1 y_2 y_3 y_4 y_t f1m f1m_t
  refine (HT'.out.m1 _).mono ?_
  rintro e u23 ⟨rfl, hb⟩
  have g := G22.out.call hb
  have G23 := Lib.hid (g.box cm')
  clear g hb G22
  go_wp2_with fail
  refine (HT'.out.m2 _).mono ?_
  rintro e u24 ⟨rfl, hb⟩
  have g := G23.out.call hb
  obtain ⟨a1_0, a1_1, a1_2, a1_3, a1_4⟩ := (g.1.2 _ (.tail _ (.tail _ (.tail _ (.tail _ (.tail _ (.tail _ (.tail _ (.head _))))))))).cell
  have a1_t := (g.1.2 _ (.tail _ (.tail _ (.tail _ (.tail _ (.tail _ (.tail _ (.tail _ (.head _))))))))).lt
  obtain ⟨b1_0, b1_1, b1_2, b1_3, b1_4⟩ := (g.1.2 _ (.tail _ (.tail _ (.tail _ (.tail _ (.tail _ (.tail _ (.head _)))))))).cell
  have b1_t := (g.1.2 _ (.tail _ (.tail _ (.tail _ (.tail _ (.tail _ (.tail _ (.head _)))))))).lt
  dsimp only at a1_0 a1_1 a1_2 a1_3 a1_4 a1_t b1_0 b1_1 b1_2 b1_3 b1_4 b1_t
  have G24 := Lib.hid (g.box dm')
  clear g hb G23
  go_wp2_with fail
  clear a1_0 a1_1 a1_2 a1_3 a1_4 a1_t b1_0 b1_1 b1_2 b1_3 b1_4 b1_t
  refine (HT'.out.m3 _).mono ?_
  rintro e u25 ⟨rfl, hb⟩
  have g := G24.out.call hb
  obtain ⟨d1m_0, d1m_1, d1m_2, d1m_3, d1m_4⟩ := (g.1.2 _ (.head _)).cell
  have d1m_t := (g.1.2 _ (.head _)).lt
  obtain ⟨x_0, x_1, x_2, x_3, x_4⟩ := (g.1.2 _ (.tail _ (.tail _ (.tail _ (.tail _ (.tail _ (.tail _ (.tail _ (.tail _ (.tail _ (.tail _ (.tail _ (.tail _ (.tail _ (.tail _ (.tail _ (.tail _ (.tail _ (.tail _ (.tail _ (.tail _ (.tail _ (.tail _ (.tail _ (.head _))))))))))))))))))))))))).cell
  have x_t := (g.1.2 _ (.tail _ (.tail _ (.tail _ (.tail _ (.tail _ (.tail _ (.tail _ (.tail _ (.tail _ (.tail _ (.tail _ (.tail _ (.tail _ (.tail _ (.tail _ (.tail _ (.tail _ (.tail _ (.tail _ (.tail _ (.tail _ (.tail _ (.tail _ (.head _))))))))))))))))))))))))).lt
  obtain ⟨y_0, y_1, y_2, y_3, y_4⟩ := (g.1.2 _ (.tail _ (.tail _ (.tail _ (.tail _ (.tail _ (.tail _ (.tail _ (.tail _ (.tail _ (.tail _ (.tail _ (.tail _ (.tail _ (.tail _ (.tail _ (.tail _ (.tail _ (.tail _ (.tail _ (.tail _ (.tail _ (.tail _ (.head _)))))))))))))))))))))))).cell
  have y_t := (g.1.2 _ (.tail _ (.tail _ (.tail _ (.tail _ (.tail _ (.tail _ (.tail _ (.tail _ (.tail _ (.tail _ (.tail _ (.tail _ (.tail _ (.tail _ (.tail _ (.tail _ (.tail _ (.tail _ (.tail _ (.tail _ (.tail _ (.tail _ (.head _)))))))))))))))))))))))).lt
  have f1s := (g.2 _ (.tail _ (.tail _ (.head _)))).1
  have f1s_t := (g.2 _ (.tail _ (.tail _ (.head _)))).2
  dsimp only at d1m_0 d1m_1 d1m_2 d1m_3 d1m_4 d1m_t x_0 x_1 x_2 x_3 x_4 x_t y_0 y_1 y_2 y_3 y_4 y_t f1s f1s_t
  have G25 := Lib.hid (g.box dm')
  clear g hb G24
  go_wp2_with fail
  rw [rounds_succ]
  go_wp2_with fail
  clear d1m_0 d1m_1 d1m_2 d1m_3 d1m_4 d1m_t x_0 x_1 x_2 x_3 x_4 x_t y_0 y_1 y_2 y_3 y_4 y_t f1s f1s_t
  refine (HT'.out.s1 _).mono ?_
  rintro e u26 ⟨rfl, hb⟩
  have g := G25.out.call hb
  have G26 := Lib.hid (g.box cs')
  clear g hb G25
  go_wp2_with fail
  refine (HT'.out.s2 _).mono ?_
  rintro e u27 ⟨rfl, hb⟩
  have g := G26.out.call hb
  obtain ⟨a1_0, a1_1, a1_2, a1_3, a1_4⟩ := (g.1.2 _ (.tail _ (.tail _ (.tail _ (.tail _ (.tail _ (.tail _ (.tail _ (.tail _ (.tail _ (.tail _ (.head _)))))))))))).cell
  have a1_t := (g.1.2 _ (.tail _ (.tail _ (.tail _ (.tail _ (.tail _ (.tail _ (.tail _ (.tail _ (.tail _ (.tail _ (.head _)))))))))))).lt
  obtain ⟨b1_0, b1_1, b1_2, b1_3, b1_4⟩ := (g.1.2 _ (.tail _ (.tail _ (.tail _ (.tail _ (.tail _ (.tail _ (.tail _ (.tail _ (.tail _ (.head _))))))))))).cell
  have b1_t := (g.1.2 _ (.tail _ (.tail _ (.tail _ (.tail _ (.tail _ (.tail _ (.tail _ (.tail _ (.tail _ (.head _))))))))))).lt
  dsimp only at a1_0 a1_1 a1_2 a1_3 a1_4 a1_t b1_0 b1_1 b1_2 b1_3 b1_4 b1_t
  have G27 := Lib.hid (g.box ds')
  clear g hb G26
  go_wp2_with fail
  clear a1_0 a1_1 a1_2 a1_3 a1_4 a1_t b1_0 b1_1 b1_2 b1_3 b1_4 b1_t
  refine (HT'.out.s3 _).mono ?_
  rintro e u28 ⟨rfl, hb⟩
  have g := G27.out.call hb
  obtain ⟨d1s_0, d1s_1, d1s_2, d1s_3, d1s_4⟩ := (g.1.2 _ (.head _)).cell
  have d1s_t := (g.1.2 _ (.head _)).lt
  obtain ⟨x_0, x_1, x_2, x_3, x_4⟩ := (g.1.2 _ (.tail _ (.tail _ (.tail _ (.tail _ (.tail _ (.tail _ (.tail _ (.tail _ (.tail _ (.tail _ (.tail _ (.tail _ (.tail _ (.tail _ (.tail _ (.tail _ (.tail _ (.tail _ (.tail _ (.tail _ (.tail _ (.tail _ (.tail _ (.tail _ (.tail _ (.tail _ (.head _)))))))))))))))))))))))))))).cell
  have x_t := (g.1.2 _ (.tail _ (.tail _ (.tail _ (.tail _ (.tail _ (.tail _ (.tail _ (.tail _ (.tail _ (.tail _ (.tail _ (.tail _ (.tail _ (.tail _ (.tail _ (.tail _ (.tail _ (.tail _ (.tail _ (.tail _ (.tail _ (.tail _ (.tail _ (.tail _ (.tail _ (.tail _ (.head _)))))))))))))))))))))))))))).lt
  dsimp only at d1s_0 d1s_1 d1s_2 d1s_3 d1s_4 d1s_t x_0 x_1 x_2 x_3 x_4 x_t
  have G28 := Lib.hid (g.box ds')
  clear g hb G27
  go_wp2_with fail
  rw [rounds_succ]
  go_wp2_with fail
  rw [rounds_succ]
  go_wp2_with fail
  clear d1s_0 d1s_1 d1s_2 d1s_3 d1s_4 d1s_t x_0 x_1 x_2 x_3 x_4 x_t
  refine (HZ.out.h1 _).mono ?_
  rintro e u29 ⟨rfl, hb⟩
  have g := G28.out.call hb
  have G29 := Lib.hid (g.box za)
  clear g hb G28
  go_wp2_with fail
  refine (HZ.out.h2 _).mono ?_
  rintro e u30 ⟨rfl, hb⟩
  have g := G29.out.call hb
  obtain ⟨x_0, x_1, x_2, x_3, x_4⟩ := (g.1.2 _ (.tail _ (.tail _ (.tail _ (.tail _ (.tail _ (.tail _ (.tail _ (.tail _ (.tail _ (.tail _ (.tail _ (.tail _ (.tail _ (.tail _ (.tail _ (.tail _ (.tail _ (.tail _ (.tail _ (.tail _ (.tail _ (.tail _ (.tail _ (.tail _ (.tail _ (.tail _ (.tail _ (.tail _ (.head _)))))))))))))))))))))))))))))).cell
  have x_t := (g.1.2 _ (.tail _ (.tail _ (.tail _ (.tail _ (.tail _ (.tail _ (.tail _ (.tail _ (.tail _ (.tail _ (.tail _ (.tail _ (.tail _ (.tail _ (.tail _ (.tail _ (.tail _ (.tail _ (.tail _ (.tail _ (.tail _ (.tail _ (.tail _ (.tail _ (.tail _ (.tail _ (.tail _ (.tail _ (.head _)))))))))))))))))))))))))))))).lt
  dsimp only at x_0 x_1 x_2 x_3 x_4 x_t
  have G30 := Lib.hid (g.box ze)
  clear g hb G29
  go_wp2_with fail
  clear x_0 x_1 x_2 x_3 x_4 x_t
  refine (HZ.out.h3 _).mono ?_
  rintro e u31 ⟨rfl, hb⟩
  have g := G30.out.call hb
  have G31 := Lib.hid (g.box zc)
  clear g hb G30
  go_wp2_with fail
  refine (HZ.out.h4 _).mono ?_
  rintro e u32 ⟨rfl, hb⟩
  have g := G31.out.call hb
  obtain ⟨zb_0, zb_1, zb_2, zb_3, zb_4⟩ := (g.1.2 _ (.tail _ (.head _))).cell
  have zb_t := (g.1.2 _ (.tail _ (.head _))).lt
  dsimp only at zb_0 zb_1 zb_2 zb_3 zb_4 zb_t
  have G32 := Lib.hid (g.box ze)
  clear g hb G31
  go_wp2_with fail
  clear zb_0 zb_1 zb_2 zb_3 zb_4 zb_t
  refine (HA.out _ G32.out.1.1).mono ?_
  rintro e u99 ⟨rfl, hb⟩
  go_wp2_with fail
  go_ret
  exact ⟨rfl, below_via hb G32.out.1.1⟩
end Go.Proofs.YtohadcaapmnlaaaDoor
