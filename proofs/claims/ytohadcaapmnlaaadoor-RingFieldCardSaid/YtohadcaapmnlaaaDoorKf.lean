
/- The law RingField, for all bytes. -/
import Derived.Test.YtohadcaapmnlaaaDoorJd
import Derived.Test.YtohadcaapmnlaaaDoorJg
set_option linter.all false
set_option maxRecDepth 100000
namespace Go.Proofs.YtohadcaapmnlaaaDoor
open Go.RowKit Go.Shelf

set_option maxHeartbeats 16000000 in
theorem RingField_any (p : Option Addr) (n c : Nat) (w : World) (hg : Given w p n c) (hv : Vars w) : Calls Tryd.prog 4 #[.slice p n c] w (Gives (.bool true) w) := by
  have HA : Hid (∀ w', Below w.heap.size w w' → Calls Tryd.prog 13 #[] w' (Gives (.bool true) w')) := fun w' hb => awake_below hv hb
  have HO : Hid (Calls Tryd.prog 14 #[.slice p n c] w (Stored w)) := Of_any p n c w hg
  clear hv hg
  go_enter Tryd.func4, Tryd.ntmps4
  go_wp2_with fail
  refine HO.out.mono ?_
  rintro e v0 ⟨b, rfl, hge, hs, hb⟩
  have S0 := Lib.hid hs
  have B0 := Lib.hid hb
  have GE := Lib.hid (show w.heap.size ≤ b ∧ w.heap.size ≤ v0.heap.size from ⟨hge, hb.size⟩)
  have hL : b < v0.heap.size := hs.1.1
  clear hs hb hge HO
  go_wp2_with fail
  refine (Num_any b _ 0 60 8 _ (by omega) (by omega) (by omega) (by omega) (by omega) S0.out).mono ?_
  rintro e v1 ⟨x, rfl, hn, hs, hb⟩
  have Fx : Hid (Fine x 60 8) := ⟨hn.1, hn.2.1, hn.2.2⟩
  have S1 := Lib.hid hs
  have B1 := Lib.hid (below_store B0.out hb GE.out)
  clear hn hs hb S0 B0
  go_wp2_with fail
  refine (Num_any b _ (0 + 5) 60 8 _ (by omega) (by omega) (by omega) (by omega) (by omega) S1.out).mono ?_
  rintro e v2 ⟨y, rfl, hn, hs, hb⟩
  have Fy : Hid (Fine y 60 8) := ⟨hn.1, hn.2.1, hn.2.2⟩
  have S2 := Lib.hid hs
  have B2 := Lib.hid (below_store B1.out hb GE.out)
  clear hn hs hb S1 B1
  go_wp2_with fail
  refine (Num_any b _ (0 + 5 + 5) 9 3 _ (by omega) (by omega) (by omega) (by omega) (by omega) S2.out).mono ?_
  rintro e v3 ⟨z, rfl, hn, hs, hb⟩
  have Fz : Hid (Fine z 9 3) := ⟨hn.1, hn.2.1, hn.2.2⟩
  have S3 := Lib.hid hs
  have B3 := Lib.hid (below_store B2.out hb GE.out)
  clear hn hs hb S2 B2
  go_wp2_with fail
  have hT := field_tells Fx.out Fy.out Fz.out
  generalize (addN x y).least = s at hT
  generalize (mulN x y).least = pr at hT
  generalize (addN (addN x y) z).least = s3 at hT
  generalize (addN y z).least = yz at hT
  generalize (mulN (mulN x y) z).least = p3 at hT
  generalize (mulN y z).least = m at hT
  generalize (mulN (addN x y) z).least = q at hT
  generalize (mulN x z).least = r at hT
  generalize x.least = lx at hT
  have HT := Lib.hid hT
  clear hT
  have g0 := (((show Got w [] v3 from ⟨B3.out, by simp⟩).box x).box y).box z
  simp only [World.size_alloc] at g0
  have G0 := Lib.hid g0
  clear g0
  refine (HT.out.h1 _).mono ?_
  rintro e u1 ⟨rfl, hb⟩
  have g := G0.out.call hb
  obtain ⟨y_0, y_1, y_2, y_3, y_4⟩ := (g.2 _ (.tail _ (.head _))).cell
  have y_t := (g.2 _ (.tail _ (.head _))).lt
  obtain ⟨x_0, x_1, x_2, x_3, x_4⟩ := (g.2 _ (.tail _ (.tail _ (.head _)))).cell
  have x_t := (g.2 _ (.tail _ (.tail _ (.head _)))).lt
  dsimp only at y_0 y_1 y_2 y_3 y_4 y_t x_0 x_1 x_2 x_3 x_4 x_t
  have G1 := Lib.hid (g.box s)
  clear g hb G0
  go_wp2_with fail
  clear y_0 y_1 y_2 y_3 y_4 y_t x_0 x_1 x_2 x_3 x_4 x_t
  refine (HT.out.h2 _).mono ?_
  rintro e u2 ⟨rfl, hb⟩
  have g := G1.out.call hb
  obtain ⟨x_0, x_1, x_2, x_3, x_4⟩ := (g.2 _ (.tail _ (.tail _ (.tail _ (.head _))))).cell
  have x_t := (g.2 _ (.tail _ (.tail _ (.tail _ (.head _))))).lt
  obtain ⟨y_0, y_1, y_2, y_3, y_4⟩ := (g.2 _ (.tail _ (.tail _ (.head _)))).cell
  have y_t := (g.2 _ (.tail _ (.tail _ (.head _)))).lt
  dsimp only at x_0 x_1 x_2 x_3 x_4 x_t y_0 y_1 y_2 y_3 y_4 y_t
  have G2 := Lib.hid (g.box s)
  clear g hb G1
  go_wp2_with fail
  clear x_0 x_1 x_2 x_3 x_4 x_t y_0 y_1 y_2 y_3 y_4 y_t
  refine (HT.out.h3 _).mono ?_
  rintro e u3 ⟨rfl, hb⟩
  have g := G2.out.call hb
  obtain ⟨y_0, y_1, y_2, y_3, y_4⟩ := (g.2 _ (.tail _ (.tail _ (.tail _ (.head _))))).cell
  have y_t := (g.2 _ (.tail _ (.tail _ (.tail _ (.head _))))).lt
  obtain ⟨x_0, x_1, x_2, x_3, x_4⟩ := (g.2 _ (.tail _ (.tail _ (.tail _ (.tail _ (.head _)))))).cell
  have x_t := (g.2 _ (.tail _ (.tail _ (.tail _ (.tail _ (.head _)))))).lt
  dsimp only at y_0 y_1 y_2 y_3 y_4 y_t x_0 x_1 x_2 x_3 x_4 x_t
  have G3 := Lib.hid (g.box pr)
  clear g hb G2
  go_wp2_with fail
  clear y_0 y_1 y_2 y_3 y_4 y_t x_0 x_1 x_2 x_3 x_4 x_t
  refine (HT.out.h4 _).mono ?_
  rintro e u4 ⟨rfl, hb⟩
  have g := G3.out.call hb
  obtain ⟨a_0, a_1, a_2, a_3, a_4⟩ := (g.2 _ (.tail _ (.tail _ (.head _)))).cell
  have a_t := (g.2 _ (.tail _ (.tail _ (.head _)))).lt
  obtain ⟨b_0, b_1, b_2, b_3, b_4⟩ := (g.2 _ (.tail _ (.head _))).cell
  have b_t := (g.2 _ (.tail _ (.head _))).lt
  obtain ⟨c_0, c_1, c_2, c_3, c_4⟩ := (g.2 _ (.head _)).cell
  have c_t := (g.2 _ (.head _)).lt
  obtain ⟨z_0, z_1, z_2, z_3, z_4⟩ := (g.2 _ (.tail _ (.tail _ (.tail _ (.head _))))).cell
  have z_t := (g.2 _ (.tail _ (.tail _ (.tail _ (.head _))))).lt
  dsimp only at a_0 a_1 a_2 a_3 a_4 a_t b_0 b_1 b_2 b_3 b_4 b_t c_0 c_1 c_2 c_3 c_4 c_t z_0 z_1 z_2 z_3 z_4 z_t
  have G4 := Lib.hid (g.box pr)
  clear g hb G3
  go_wp2_with fail
  clear a_0 a_1 a_2 a_3 a_4 a_t b_0 b_1 b_2 b_3 b_4 b_t c_0 c_1 c_2 c_3 c_4 c_t z_0 z_1 z_2 z_3 z_4 z_t
  refine (HT.out.h5 _).mono ?_
  rintro e u5 ⟨rfl, hb⟩
  have g := G4.out.call hb
  obtain ⟨y_0, y_1, y_2, y_3, y_4⟩ := (g.2 _ (.tail _ (.tail _ (.tail _ (.tail _ (.tail _ (.head _))))))).cell
  have y_t := (g.2 _ (.tail _ (.tail _ (.tail _ (.tail _ (.tail _ (.head _))))))).lt
  obtain ⟨z_0, z_1, z_2, z_3, z_4⟩ := (g.2 _ (.tail _ (.tail _ (.tail _ (.tail _ (.head _)))))).cell
  have z_t := (g.2 _ (.tail _ (.tail _ (.tail _ (.tail _ (.head _)))))).lt
  dsimp only at y_0 y_1 y_2 y_3 y_4 y_t z_0 z_1 z_2 z_3 z_4 z_t
  have G5 := Lib.hid (g.box s3)
  clear g hb G4
  go_wp2_with fail
  clear y_0 y_1 y_2 y_3 y_4 y_t z_0 z_1 z_2 z_3 z_4 z_t
  refine (HT.out.h6 _).mono ?_
  rintro e u6 ⟨rfl, hb⟩
  have g := G5.out.call hb
  obtain ⟨x_0, x_1, x_2, x_3, x_4⟩ := (g.2 _ (.tail _ (.tail _ (.tail _ (.tail _ (.tail _ (.tail _ (.tail _ (.head _))))))))).cell
  have x_t := (g.2 _ (.tail _ (.tail _ (.tail _ (.tail _ (.tail _ (.tail _ (.tail _ (.head _))))))))).lt
  dsimp only at x_0 x_1 x_2 x_3 x_4 x_t
  have G6 := Lib.hid (g.box yz)
  clear g hb G5
  go_wp2_with fail
  clear x_0 x_1 x_2 x_3 x_4 x_t
  refine (HT.out.h7 _).mono ?_
  rintro e u7 ⟨rfl, hb⟩
  have g := G6.out.call hb
  obtain ⟨c_0, c_1, c_2, c_3, c_4⟩ := (g.2 _ (.tail _ (.tail _ (.tail _ (.head _))))).cell
  have c_t := (g.2 _ (.tail _ (.tail _ (.tail _ (.head _))))).lt
  obtain ⟨z_0, z_1, z_2, z_3, z_4⟩ := (g.2 _ (.tail _ (.tail _ (.tail _ (.tail _ (.tail _ (.tail _ (.head _)))))))).cell
  have z_t := (g.2 _ (.tail _ (.tail _ (.tail _ (.tail _ (.tail _ (.tail _ (.head _)))))))).lt
  dsimp only at c_0 c_1 c_2 c_3 c_4 c_t z_0 z_1 z_2 z_3 z_4 z_t
  have G7 := Lib.hid (g.box s3)
  clear g hb G6
  go_wp2_with fail
  clear c_0 c_1 c_2 c_3 c_4 c_t z_0 z_1 z_2 z_3 z_4 z_t
  refine (HT.out.h8 _).mono ?_
  rintro e u8 ⟨rfl, hb⟩
  have g := G7.out.call hb
  obtain ⟨y_0, y_1, y_2, y_3, y_4⟩ := (g.2 _ (.tail _ (.tail _ (.tail _ (.tail _ (.tail _ (.tail _ (.tail _ (.tail _ (.head _)))))))))).cell
  have y_t := (g.2 _ (.tail _ (.tail _ (.tail _ (.tail _ (.tail _ (.tail _ (.tail _ (.tail _ (.head _)))))))))).lt
  obtain ⟨z_0, z_1, z_2, z_3, z_4⟩ := (g.2 _ (.tail _ (.tail _ (.tail _ (.tail _ (.tail _ (.tail _ (.tail _ (.head _))))))))).cell
  have z_t := (g.2 _ (.tail _ (.tail _ (.tail _ (.tail _ (.tail _ (.tail _ (.tail _ (.head _))))))))).lt
  dsimp only at y_0 y_1 y_2 y_3 y_4 y_t z_0 z_1 z_2 z_3 z_4 z_t
  have G8 := Lib.hid (g.box p3)
  clear g hb G7
  go_wp2_with fail
  clear y_0 y_1 y_2 y_3 y_4 y_t z_0 z_1 z_2 z_3 z_4 z_t
  refine (HT.out.h9 _).mono ?_
  rintro e u9 ⟨rfl, hb⟩
  have g := G8.out.call hb
  obtain ⟨x_0, x_1, x_2, x_3, x_4⟩ := (g.2 _ (.tail _ (.tail _ (.tail _ (.tail _ (.tail _ (.tail _ (.tail _ (.tail _ (.tail _ (.tail _ (.head _)))))))))))).cell
  have x_t := (g.2 _ (.tail _ (.tail _ (.tail _ (.tail _ (.tail _ (.tail _ (.tail _ (.tail _ (.tail _ (.tail _ (.head _)))))))))))).lt
  dsimp only at x_0 x_1 x_2 x_3 x_4 x_t
  have G9 := Lib.hid (g.box m)
  clear g hb G8
  go_wp2_with fail
  clear x_0 x_1 x_2 x_3 x_4 x_t
  refine (HT.out.h10 _).mono ?_
  rintro e u10 ⟨rfl, hb⟩
  have g := G9.out.call hb
  obtain ⟨i_0, i_1, i_2, i_3, i_4⟩ := (g.2 _ (.tail _ (.tail _ (.tail _ (.tail _ (.head _)))))).cell
  have i_t := (g.2 _ (.tail _ (.tail _ (.tail _ (.tail _ (.head _)))))).lt
  obtain ⟨k_0, k_1, k_2, k_3, k_4⟩ := (g.2 _ (.tail _ (.tail _ (.head _)))).cell
  have k_t := (g.2 _ (.tail _ (.tail _ (.head _)))).lt
  obtain ⟨l_0, l_1, l_2, l_3, l_4⟩ := (g.2 _ (.tail _ (.head _))).cell
  have l_t := (g.2 _ (.tail _ (.head _))).lt
  obtain ⟨a_0, a_1, a_2, a_3, a_4⟩ := (g.2 _ (.tail _ (.tail _ (.tail _ (.tail _ (.tail _ (.tail _ (.tail _ (.tail _ (.head _)))))))))).cell
  have a_t := (g.2 _ (.tail _ (.tail _ (.tail _ (.tail _ (.tail _ (.tail _ (.tail _ (.tail _ (.head _)))))))))).lt
  obtain ⟨z_0, z_1, z_2, z_3, z_4⟩ := (g.2 _ (.tail _ (.tail _ (.tail _ (.tail _ (.tail _ (.tail _ (.tail _ (.tail _ (.tail _ (.head _))))))))))).cell
  have z_t := (g.2 _ (.tail _ (.tail _ (.tail _ (.tail _ (.tail _ (.tail _ (.tail _ (.tail _ (.tail _ (.head _))))))))))).lt
  dsimp only at i_0 i_1 i_2 i_3 i_4 i_t k_0 k_1 k_2 k_3 k_4 k_t l_0 l_1 l_2 l_3 l_4 l_t a_0 a_1 a_2 a_3 a_4 a_t z_0 z_1 z_2 z_3 z_4 z_t
  have G10 := Lib.hid (g.box p3)
  clear g hb G9
  go_wp2_with fail
  clear i_0 i_1 i_2 i_3 i_4 i_t k_0 k_1 k_2 k_3 k_4 k_t l_0 l_1 l_2 l_3 l_4 l_t a_0 a_1 a_2 a_3 a_4 a_t z_0 z_1 z_2 z_3 z_4 z_t
  refine (HT.out.h11 _).mono ?_
  rintro e u11 ⟨rfl, hb⟩
  have g := G10.out.call hb
  obtain ⟨x_0, x_1, x_2, x_3, x_4⟩ := (g.2 _ (.tail _ (.tail _ (.tail _ (.tail _ (.tail _ (.tail _ (.tail _ (.tail _ (.tail _ (.tail _ (.tail _ (.tail _ (.head _)))))))))))))).cell
  have x_t := (g.2 _ (.tail _ (.tail _ (.tail _ (.tail _ (.tail _ (.tail _ (.tail _ (.tail _ (.tail _ (.tail _ (.tail _ (.tail _ (.head _)))))))))))))).lt
  obtain ⟨z_0, z_1, z_2, z_3, z_4⟩ := (g.2 _ (.tail _ (.tail _ (.tail _ (.tail _ (.tail _ (.tail _ (.tail _ (.tail _ (.tail _ (.tail _ (.head _)))))))))))).cell
  have z_t := (g.2 _ (.tail _ (.tail _ (.tail _ (.tail _ (.tail _ (.tail _ (.tail _ (.tail _ (.tail _ (.tail _ (.head _)))))))))))).lt
  dsimp only at x_0 x_1 x_2 x_3 x_4 x_t z_0 z_1 z_2 z_3 z_4 z_t
  have G11 := Lib.hid (g.box q)
  clear g hb G10
  go_wp2_with fail
  clear x_0 x_1 x_2 x_3 x_4 x_t z_0 z_1 z_2 z_3 z_4 z_t
  refine (HT.out.h12 _).mono ?_
  rintro e u12 ⟨rfl, hb⟩
  have g := G11.out.call hb
  obtain ⟨m_0, m_1, m_2, m_3, m_4⟩ := (g.2 _ (.tail _ (.tail _ (.head _)))).cell
  have m_t := (g.2 _ (.tail _ (.tail _ (.head _)))).lt
  dsimp only at m_0 m_1 m_2 m_3 m_4 m_t
  have G12 := Lib.hid (g.box r)
  clear g hb G11
  go_wp2_with fail
  clear m_0 m_1 m_2 m_3 m_4 m_t
  refine (HT.out.h13 _).mono ?_
  rintro e u13 ⟨rfl, hb⟩
  have g := G12.out.call hb
  obtain ⟨r_0, r_1, r_2, r_3, r_4⟩ := (g.2 _ (.head _)).cell
  have r_t := (g.2 _ (.head _)).lt
  obtain ⟨m_0, m_1, m_2, m_3, m_4⟩ := (g.2 _ (.tail _ (.tail _ (.tail _ (.head _))))).cell
  have m_t := (g.2 _ (.tail _ (.tail _ (.tail _ (.head _))))).lt
  dsimp only at r_0 r_1 r_2 r_3 r_4 r_t m_0 m_1 m_2 m_3 m_4 m_t
  have G13 := Lib.hid (g.box q)
  clear g hb G12
  go_wp2_with fail
  clear r_0 r_1 r_2 r_3 r_4 r_t m_0 m_1 m_2 m_3 m_4 m_t
  refine (HT.out.h14 _ 0 _ _ (row_two _ r m (by simp))).mono ?_
  rintro e u14 ⟨rfl, hb⟩
  have g := (G13.out.al _).call hb
  obtain ⟨a_0, a_1, a_2, a_3, a_4⟩ := (g.2 _ (.tail _ (.tail _ (.tail _ (.tail _ (.tail _ (.tail _ (.tail _ (.tail _ (.tail _ (.tail _ (.tail _ (.tail _ (.head _)))))))))))))).cell
  have a_t := (g.2 _ (.tail _ (.tail _ (.tail _ (.tail _ (.tail _ (.tail _ (.tail _ (.tail _ (.tail _ (.tail _ (.tail _ (.tail _ (.head _)))))))))))))).lt
  obtain ⟨y_0, y_1, y_2, y_3, y_4⟩ := (g.2 _ (.tail _ (.tail _ (.tail _ (.tail _ (.tail _ (.tail _ (.tail _ (.tail _ (.tail _ (.tail _ (.tail _ (.tail _ (.tail _ (.tail _ (.head _)))))))))))))))).cell
  have y_t := (g.2 _ (.tail _ (.tail _ (.tail _ (.tail _ (.tail _ (.tail _ (.tail _ (.tail _ (.tail _ (.tail _ (.tail _ (.tail _ (.tail _ (.tail _ (.head _)))))))))))))))).lt
  dsimp only at a_0 a_1 a_2 a_3 a_4 a_t y_0 y_1 y_2 y_3 y_4 y_t
  have G14 := Lib.hid (g.box q)
  clear g hb G13
  go_wp2_with fail
  clear a_0 a_1 a_2 a_3 a_4 a_t y_0 y_1 y_2 y_3 y_4 y_t
  refine (HT.out.h15 _).mono ?_
  rintro e u15 ⟨rfl, hb⟩
  have g := G14.out.call hb
  obtain ⟨x_0, x_1, x_2, x_3, x_4⟩ := (g.2 _ (.tail _ (.tail _ (.tail _ (.tail _ (.tail _ (.tail _ (.tail _ (.tail _ (.tail _ (.tail _ (.tail _ (.tail _ (.tail _ (.tail _ (.tail _ (.tail _ (.head _)))))))))))))))))).cell
  have x_t := (g.2 _ (.tail _ (.tail _ (.tail _ (.tail _ (.tail _ (.tail _ (.tail _ (.tail _ (.tail _ (.tail _ (.tail _ (.tail _ (.tail _ (.tail _ (.tail _ (.tail _ (.head _)))))))))))))))))).lt
  dsimp only at x_0 x_1 x_2 x_3 x_4 x_t
  have G15 := Lib.hid (g.box lx)
  clear g hb G14
  go_wp2_with fail
  clear x_0 x_1 x_2 x_3 x_4 x_t
  refine (HT.out.h16 _).mono ?_
  rintro e u16 ⟨rfl, hb⟩
  have g := G15.out.call hb
  obtain ⟨q_0, q_1, q_2, q_3, q_4⟩ := (g.2 _ (.tail _ (.tail _ (.tail _ (.tail _ (.head _)))))).cell
  have q_t := (g.2 _ (.tail _ (.tail _ (.tail _ (.tail _ (.head _)))))).lt
  obtain ⟨t_0, t_1, t_2, t_3, t_4⟩ := (g.2 _ (.tail _ (.tail _ (.head _)))).cell
  have t_t := (g.2 _ (.tail _ (.tail _ (.head _)))).lt
  obtain ⟨u_0, u_1, u_2, u_3, u_4⟩ := (g.2 _ (.tail _ (.head _))).cell
  have u_t := (g.2 _ (.tail _ (.head _))).lt
  obtain ⟨v_0, v_1, v_2, v_3, v_4⟩ := (g.2 _ (.head _)).cell
  have v_t := (g.2 _ (.head _)).lt
  dsimp only at q_0 q_1 q_2 q_3 q_4 q_t t_0 t_1 t_2 t_3 t_4 t_t u_0 u_1 u_2 u_3 u_4 u_t v_0 v_1 v_2 v_3 v_4 v_t
  have G16 := Lib.hid (g.box lx)
  clear g hb G15
  go_wp2_with fail
  clear q_0 q_1 q_2 q_3 q_4 q_t t_0 t_1 t_2 t_3 t_4 t_t u_0 u_1 u_2 u_3 u_4 u_t v_0 v_1 v_2 v_3 v_4 v_t
  refine (HA.out _ G16.out.1).mono ?_
  rintro e u99 ⟨rfl, hb⟩
  go_wp2_with fail
  go_ret
  exact ⟨rfl, below_via hb G16.out.1⟩
end Go.Proofs.YtohadcaapmnlaaaDoor
