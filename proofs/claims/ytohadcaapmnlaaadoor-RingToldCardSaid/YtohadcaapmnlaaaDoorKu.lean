
/- The law RingTold, for all bytes and any truth value. -/
import Derived.Test.YtohadcaapmnlaaaDoorKt
set_option linter.all false
set_option maxRecDepth 100000
namespace Go.Proofs.YtohadcaapmnlaaaDoor
open Go.RowKit Go.Shelf

set_option maxHeartbeats 16000000 in
theorem RingTold_near (p : Option Addr) (n c : Nat) (w : World) (hg : Given w p n c) (hv : Vars w) : Calls Tryd.prog 9 #[.slice p n c, .bool false] w (Gives (.bool true) w) := by
  have HA : Hid (∀ w', Below w.heap.size w w' → Calls Tryd.prog 13 #[] w' (Gives (.bool true) w')) := fun w' hb => awake_below hv hb
  have HO : Hid (Calls Tryd.prog 14 #[.slice p n c] w (Stored w)) := Of_any p n c w hg
  have HV := Lib.hid hv
  clear hv hg
  go_enter Tryd.func9, Tryd.ntmps9
  go_wp2_with fail
  refine HO.out.mono ?_
  rintro e v0 ⟨b, rfl, hge, hs, hb⟩
  have S0 := Lib.hid hs
  have B0 := Lib.hid hb
  have GE := Lib.hid (show w.heap.size ≤ b ∧ w.heap.size ≤ v0.heap.size from ⟨hge, hb.size⟩)
  have hL : b < v0.heap.size := hs.1.1
  clear hs hb hge HO
  go_wp2_with fail
  refine (Num_any b _ 0 3 3 _ (by omega) (by omega) (by omega) (by omega) (by omega) S0.out).mono ?_
  rintro e v1 ⟨x, rfl, hn, hs, hb⟩
  have Fx : Hid (Fine x 3 3) := ⟨hn.1, hn.2.1, hn.2.2⟩
  have S1 := Lib.hid hs
  have B1 := Lib.hid (below_store B0.out hb GE.out)
  clear hn hs hb S0 B0
  go_wp2_with fail
  refine (Num_any b _ (0 + 5) 3 3 _ (by omega) (by omega) (by omega) (by omega) (by omega) S1.out).mono ?_
  rintro e v2 ⟨y, rfl, hn, hs, hb⟩
  have Fy : Hid (Fine y 3 3) := ⟨hn.1, hn.2.1, hn.2.2⟩
  have S2 := Lib.hid hs
  have B2 := Lib.hid (below_store B1.out hb GE.out)
  clear hn hs hb S1 B1
  go_wp2_with fail
  have hP : Pair w b v0.heap.size (0 + 5 + 5) v2.heap.size (v2.heap.size + 1) x y ((v2.alloc (.cells #[.int .i64 x.A, .int .i64 x.B, .int .i64 x.C, .int .i64 x.D, .int .i64 x.K] 23)).alloc (.cells #[.int .i64 y.A, .int .i64 y.B, .int .i64 y.C, .int .i64 y.D, .int .i64 y.K] 23)) := by
    have h := box_new (v2.alloc (.cells #[.int .i64 x.A, .int .i64 x.B, .int .i64 x.C, .int .i64 x.D, .int .i64 x.K] 23)) y.A y.B y.C y.D y.K 23
    rw [World.size_alloc] at h
    have hl := S2.out.1.2
    exact ⟨below_al (below_al B2.out _) _, (S2.out.al _).al _, GE.out, box_al (box_new v2 _ _ _ _ _ _) _, h, by omega, hl, by omega⟩
  have HP := Lib.hid hP
  clear hP
  have G0 := Lib.hid HP.out.gos
  clear HP
  obtain ⟨lx, sx, sy, q, hT⟩ : ∃ lx sx sy q, ToldT w x y lx sx sy q := ⟨_, _, _, _, told_tells HV.out (Fx.out.okay) (Fy.out.okay)⟩
  have HT := Lib.hid hT
  clear hT
  refine (HT.out.h1 _ G0.out.bel).mono ?_
  rintro e u1 ⟨rfl, hb⟩
  have g := G0.out.call hb
  obtain ⟨y_0, y_1, y_2, y_3, y_4⟩ := (g.box _ (.head _)).1.cell
  have y_t := (g.box _ (.head _)).1.lt
  dsimp only at y_0 y_1 y_2 y_3 y_4 y_t
  have G1 := Lib.hid g
  clear g hb G0
  go_wp2_with fail
  clear y_0 y_1 y_2 y_3 y_4 y_t
  refine (HT.out.h2 _ G1.out.bel).mono ?_
  rintro e u2 ⟨rfl, hb⟩
  have g := G1.out.call hb
  obtain ⟨x_0, x_1, x_2, x_3, x_4⟩ := (g.box _ (.tail _ (.head _))).1.cell
  have x_t := (g.box _ (.tail _ (.head _))).1.lt
  obtain ⟨y_0, y_1, y_2, y_3, y_4⟩ := (g.box _ (.head _)).1.cell
  have y_t := (g.box _ (.head _)).1.lt
  dsimp only at x_0 x_1 x_2 x_3 x_4 x_t y_0 y_1 y_2 y_3 y_4 y_t
  have G2 := Lib.hid g
  clear g hb G1
  go_wp2_with fail
  clear x_0 x_1 x_2 x_3 x_4 x_t y_0 y_1 y_2 y_3 y_4 y_t
  refine (HT.out.h3 _).mono ?_
  rintro e u3 ⟨rfl, hb⟩
  have g := G2.out.call hb
  obtain ⟨x_0, x_1, x_2, x_3, x_4⟩ := (g.box _ (.tail _ (.head _))).1.cell
  have x_t := (g.box _ (.tail _ (.head _))).1.lt
  dsimp only at x_0 x_1 x_2 x_3 x_4 x_t
  have G3 := Lib.hid g
  clear g hb G2
  go_wp2_with fail
  clear x_0 x_1 x_2 x_3 x_4 x_t
  refine (HT.out.h4 _).mono ?_
  rintro e u4 ⟨rfl, hb⟩
  have g := G3.out.call hb
  have G4 := Lib.hid (g.new lx)
  clear g hb G3
  go_wp2_with fail
  refine (HT.out.h5 _ G4.out.bel).mono ?_
  rintro e u5 ⟨rfl, hb⟩
  have g := G4.out.call hb
  obtain ⟨least_0, least_1, least_2, least_3, least_4⟩ := (g.box _ (.head _)).1.cell
  have least_t := (g.box _ (.head _)).1.lt
  dsimp only at least_0 least_1 least_2 least_3 least_4 least_t
  have G5 := Lib.hid (g.new lx)
  have hsame := HT.out.same
  clear g hb G4
  go_wp2_with fail
  clear least_0 least_1 least_2 least_3 least_4 least_t
  refine (HA.out _ G5.out.bel).mono ?_
  rintro e u99 ⟨rfl, hb⟩
  go_wp2_with fail
  go_ret
  exact ⟨rfl, below_via hb G5.out.bel⟩
set_option maxHeartbeats 16000000 in
theorem RingTold_far (p : Option Addr) (n c : Nat) (w : World) (hg : Given w p n c) (hv : Vars w) : Calls Tryd.prog 9 #[.slice p n c, .bool true] w (Gives (.bool true) w) := by
  have HA : Hid (∀ w', Below w.heap.size w w' → Calls Tryd.prog 13 #[] w' (Gives (.bool true) w')) := fun w' hb => awake_below hv hb
  have HO : Hid (Calls Tryd.prog 14 #[.slice p n c] w (Stored w)) := Of_any p n c w hg
  have HV := Lib.hid hv
  clear hv hg
  go_enter Tryd.func9, Tryd.ntmps9
  go_wp2_with fail
  refine HO.out.mono ?_
  rintro e v0 ⟨b, rfl, hge, hs, hb⟩
  have S0 := Lib.hid hs
  have B0 := Lib.hid hb
  have GE := Lib.hid (show w.heap.size ≤ b ∧ w.heap.size ≤ v0.heap.size from ⟨hge, hb.size⟩)
  have hL : b < v0.heap.size := hs.1.1
  clear hs hb hge HO
  go_wp2_with fail
  refine (Num_any b _ 0 3 3 _ (by omega) (by omega) (by omega) (by omega) (by omega) S0.out).mono ?_
  rintro e v1 ⟨x, rfl, hn, hs, hb⟩
  have Fx : Hid (Fine x 3 3) := ⟨hn.1, hn.2.1, hn.2.2⟩
  have S1 := Lib.hid hs
  have B1 := Lib.hid (below_store B0.out hb GE.out)
  clear hn hs hb S0 B0
  go_wp2_with fail
  refine (Num_any b _ (0 + 5) 3 3 _ (by omega) (by omega) (by omega) (by omega) (by omega) S1.out).mono ?_
  rintro e v2 ⟨y, rfl, hn, hs, hb⟩
  have Fy : Hid (Fine y 3 3) := ⟨hn.1, hn.2.1, hn.2.2⟩
  have S2 := Lib.hid hs
  have B2 := Lib.hid (below_store B1.out hb GE.out)
  clear hn hs hb S1 B1
  go_wp2_with fail
  have hP : Pair w b v0.heap.size (0 + 5 + 5) v2.heap.size (v2.heap.size + 1) x y ((v2.alloc (.cells #[.int .i64 x.A, .int .i64 x.B, .int .i64 x.C, .int .i64 x.D, .int .i64 x.K] 23)).alloc (.cells #[.int .i64 y.A, .int .i64 y.B, .int .i64 y.C, .int .i64 y.D, .int .i64 y.K] 23)) := by
    have h := box_new (v2.alloc (.cells #[.int .i64 x.A, .int .i64 x.B, .int .i64 x.C, .int .i64 x.D, .int .i64 x.K] 23)) y.A y.B y.C y.D y.K 23
    rw [World.size_alloc] at h
    have hl := S2.out.1.2
    exact ⟨below_al (below_al B2.out _) _, (S2.out.al _).al _, GE.out, box_al (box_new v2 _ _ _ _ _ _) _, h, by omega, hl, by omega⟩
  have HP := Lib.hid hP
  clear hP
  refine (Num_any b _ _ 1073741824 60 _ (by omega) (by omega) (by omega) (by omega) (by omega) HP.out.sto).mono ?_
  rintro e v3 ⟨z, rfl, hn, hs, hB⟩
  have Fz : Hid (Fine z 1073741824 60) := ⟨hn.1, hn.2.1, hn.2.2⟩
  have hP := HP.out.draw hs hB
  obtain ⟨bx, hbx⟩ : ∃ k, v2.heap.size = k := ⟨_, rfl⟩
  rw [hbx] at hP ⊢
  obtain ⟨x_0, x_1, x_2, x_3, x_4⟩ := hP.hx.cell
  obtain ⟨xf0, xf1, xf2, xf3, xf4⟩ := hP.hx.free
  have x_t := hP.hx.lt
  obtain ⟨y_0, y_1, y_2, y_3, y_4⟩ := hP.hy.cell
  obtain ⟨yf0, yf1, yf2, yf3, yf4⟩ := hP.hy.free
  have y_t := hP.hy.lt
  have HP3 := Lib.hid hP
  clear hn hs hB hP HP hbx
  go_wp2_with fail
  clear x_0 x_1 x_2 x_3 x_4 xf0 xf1 xf2 xf3 xf4 x_t y_0 y_1 y_2 y_3 y_4 yf0 yf1 yf2 yf3 yf4 y_t
  have hP := (HP3.out.setx z).sety z
  refine (seldom_any b _ _ 2 _ (by omega) (by omega) hP.sto).mono ?_
  rintro e v4 ⟨v, rfl, ⟨t, rfl⟩, hs, hB⟩
  have HP4 := Lib.hid (hP.draw hs hB)
  clear hP hs hB HP3
  cases t
  · obtain ⟨x_0, x_1, x_2, x_3, x_4⟩ := HP4.out.hx.cell
    have x_t := HP4.out.hx.lt
    go_wp2_with fail
    clear x_0 x_1 x_2 x_3 x_4 x_t
    have G0 := Lib.hid HP4.out.gos
    clear HP4
    obtain ⟨lx, sx, sy, q, hT⟩ : ∃ lx sx sy q, ToldT w z z lx sx sy q := ⟨_, _, _, _, told_tells HV.out (Fz.out) (Fz.out)⟩
    have HT := Lib.hid hT
    clear hT
    refine (HT.out.h1 _ G0.out.bel).mono ?_
    rintro e u1 ⟨rfl, hb⟩
    have g := G0.out.call hb
    obtain ⟨y_0, y_1, y_2, y_3, y_4⟩ := (g.box _ (.head _)).1.cell
    have y_t := (g.box _ (.head _)).1.lt
    dsimp only at y_0 y_1 y_2 y_3 y_4 y_t
    have G1 := Lib.hid g
    clear g hb G0
    go_wp2_with fail
    clear y_0 y_1 y_2 y_3 y_4 y_t
    refine (HT.out.h2 _ G1.out.bel).mono ?_
    rintro e u2 ⟨rfl, hb⟩
    have g := G1.out.call hb
    obtain ⟨x_0, x_1, x_2, x_3, x_4⟩ := (g.box _ (.tail _ (.head _))).1.cell
    have x_t := (g.box _ (.tail _ (.head _))).1.lt
    obtain ⟨y_0, y_1, y_2, y_3, y_4⟩ := (g.box _ (.head _)).1.cell
    have y_t := (g.box _ (.head _)).1.lt
    dsimp only at x_0 x_1 x_2 x_3 x_4 x_t y_0 y_1 y_2 y_3 y_4 y_t
    have G2 := Lib.hid g
    clear g hb G1
    go_wp2_with fail
    clear x_0 x_1 x_2 x_3 x_4 x_t y_0 y_1 y_2 y_3 y_4 y_t
    refine (HT.out.h3 _).mono ?_
    rintro e u3 ⟨rfl, hb⟩
    have g := G2.out.call hb
    obtain ⟨x_0, x_1, x_2, x_3, x_4⟩ := (g.box _ (.tail _ (.head _))).1.cell
    have x_t := (g.box _ (.tail _ (.head _))).1.lt
    dsimp only at x_0 x_1 x_2 x_3 x_4 x_t
    have G3 := Lib.hid g
    clear g hb G2
    go_wp2_with fail
    clear x_0 x_1 x_2 x_3 x_4 x_t
    refine (HT.out.h4 _).mono ?_
    rintro e u4 ⟨rfl, hb⟩
    have g := G3.out.call hb
    have G4 := Lib.hid (g.new lx)
    clear g hb G3
    go_wp2_with fail
    refine (HT.out.h5 _ G4.out.bel).mono ?_
    rintro e u5 ⟨rfl, hb⟩
    have g := G4.out.call hb
    obtain ⟨least_0, least_1, least_2, least_3, least_4⟩ := (g.box _ (.head _)).1.cell
    have least_t := (g.box _ (.head _)).1.lt
    dsimp only at least_0 least_1 least_2 least_3 least_4 least_t
    have G5 := Lib.hid (g.new lx)
    have hsame := HT.out.same
    clear g hb G4
    go_wp2_with fail
    clear least_0 least_1 least_2 least_3 least_4 least_t
    refine (HA.out _ G5.out.bel).mono ?_
    rintro e u99 ⟨rfl, hb⟩
    go_wp2_with fail
    go_ret
    exact ⟨rfl, below_via hb G5.out.bel⟩
  · have hP := HP4.out
    obtain ⟨y_0, y_1, y_2, y_3, y_4⟩ := hP.hy.cell
    obtain ⟨yf0, yf1, yf2, yf3, yf4⟩ := hP.hy.free
    have y_t := hP.hy.lt
    clear hP
    have hk1 : 0 ≤ z.K := Fz.out.lo
    have hk2 : z.K ≤ 60 := Fz.out.hi
    obtain ⟨x_0, x_1, x_2, x_3, x_4⟩ := HP4.out.hx.cell
    have x_t := HP4.out.hx.lt
    go_wp2_with fail
    clear x_0 x_1 x_2 x_3 x_4 x_t y_0 y_1 y_2 y_3 y_4 yf0 yf1 yf2 yf3 yf4 y_t
    have hG := (HP4.out.setK (min (z.K + 1) 60)).gos
    have Fy' : Fine ⟨z.A, z.B, z.C, z.D, min (z.K + 1) 60⟩ 1073741824 60 := ⟨Fz.out.le, by show 0 ≤ min (z.K + 1) 60; omega, by show min (z.K + 1) 60 ≤ 60; omega⟩
    generalize (⟨z.A, z.B, z.C, z.D, min (z.K + 1) 60⟩ : Nm) = yy at hG Fy'
    have G0 := Lib.hid hG
    clear hG HP4
    obtain ⟨lx, sx, sy, q, hT⟩ : ∃ lx sx sy q, ToldT w z yy lx sx sy q := ⟨_, _, _, _, told_tells HV.out (Fz.out) (Fy')⟩
    have HT := Lib.hid hT
    clear hT
    refine (HT.out.h1 _ G0.out.bel).mono ?_
    rintro e u1 ⟨rfl, hb⟩
    have g := G0.out.call hb
    obtain ⟨y_0, y_1, y_2, y_3, y_4⟩ := (g.box _ (.head _)).1.cell
    have y_t := (g.box _ (.head _)).1.lt
    dsimp only at y_0 y_1 y_2 y_3 y_4 y_t
    have G1 := Lib.hid g
    clear g hb G0
    go_wp2_with fail
    clear y_0 y_1 y_2 y_3 y_4 y_t
    refine (HT.out.h2 _ G1.out.bel).mono ?_
    rintro e u2 ⟨rfl, hb⟩
    have g := G1.out.call hb
    obtain ⟨x_0, x_1, x_2, x_3, x_4⟩ := (g.box _ (.tail _ (.head _))).1.cell
    have x_t := (g.box _ (.tail _ (.head _))).1.lt
    obtain ⟨y_0, y_1, y_2, y_3, y_4⟩ := (g.box _ (.head _)).1.cell
    have y_t := (g.box _ (.head _)).1.lt
    dsimp only at x_0 x_1 x_2 x_3 x_4 x_t y_0 y_1 y_2 y_3 y_4 y_t
    have G2 := Lib.hid g
    clear g hb G1
    go_wp2_with fail
    clear x_0 x_1 x_2 x_3 x_4 x_t y_0 y_1 y_2 y_3 y_4 y_t
    refine (HT.out.h3 _).mono ?_
    rintro e u3 ⟨rfl, hb⟩
    have g := G2.out.call hb
    obtain ⟨x_0, x_1, x_2, x_3, x_4⟩ := (g.box _ (.tail _ (.head _))).1.cell
    have x_t := (g.box _ (.tail _ (.head _))).1.lt
    dsimp only at x_0 x_1 x_2 x_3 x_4 x_t
    have G3 := Lib.hid g
    clear g hb G2
    go_wp2_with fail
    clear x_0 x_1 x_2 x_3 x_4 x_t
    refine (HT.out.h4 _).mono ?_
    rintro e u4 ⟨rfl, hb⟩
    have g := G3.out.call hb
    have G4 := Lib.hid (g.new lx)
    clear g hb G3
    go_wp2_with fail
    refine (HT.out.h5 _ G4.out.bel).mono ?_
    rintro e u5 ⟨rfl, hb⟩
    have g := G4.out.call hb
    obtain ⟨least_0, least_1, least_2, least_3, least_4⟩ := (g.box _ (.head _)).1.cell
    have least_t := (g.box _ (.head _)).1.lt
    dsimp only at least_0 least_1 least_2 least_3 least_4 least_t
    have G5 := Lib.hid (g.new lx)
    have hsame := HT.out.same
    clear g hb G4
    go_wp2_with fail
    clear least_0 least_1 least_2 least_3 least_4 least_t
    refine (HA.out _ G5.out.bel).mono ?_
    rintro e u99 ⟨rfl, hb⟩
    go_wp2_with fail
    go_ret
    exact ⟨rfl, below_via hb G5.out.bel⟩
theorem RingTold_any (far : Bool) (p : Option Addr) (n c : Nat) (w : World) (hg : Given w p n c) (hv : Vars w) : Calls Tryd.prog 9 #[.slice p n c, .bool far] w (Gives (.bool true) w) := by
  cases far
  · exact RingTold_near p n c w hg hv
  · exact RingTold_far p n c w hg hv
end Go.Proofs.YtohadcaapmnlaaaDoor
