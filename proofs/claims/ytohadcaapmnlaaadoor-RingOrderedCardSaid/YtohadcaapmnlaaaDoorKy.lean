
/- The law RingOrdered, for all bytes. -/
import Derived.Test.YtohadcaapmnlaaaDoorKx
set_option linter.all false
set_option maxRecDepth 100000
namespace Go.Proofs.YtohadcaapmnlaaaDoor
open Go.RowKit Go.Shelf

set_option maxHeartbeats 16000000 in
theorem RingOrdered_any (p : Option Addr) (n c : Nat) (w : World) (hg : Given w p n c) (hv : Vars w) : Calls Tryd.prog 7 #[.slice p n c] w (Gives (.bool true) w) := by
  have HA : Hid (∀ w', Below w.heap.size w w' → Calls Tryd.prog 13 #[] w' (Gives (.bool true) w')) := fun w' hb => awake_below hv hb
  have HO : Hid (Calls Tryd.prog 14 #[.slice p n c] w (Stored w)) := Of_any p n c w hg
  clear hv hg
  go_enter Tryd.func7, Tryd.ntmps7
  go_wp2_with fail
  refine HO.out.mono ?_
  rintro e v0 ⟨b, rfl, hge, hs, hb⟩
  have S0 := Lib.hid hs
  have B0 := Lib.hid hb
  have GE := Lib.hid (show w.heap.size ≤ b ∧ w.heap.size ≤ v0.heap.size from ⟨hge, hb.size⟩)
  have hL : b < v0.heap.size := hs.1.1
  clear hs hb hge HO
  go_wp2_with fail
  have hA : Las w b v0.heap.size 0 v0.heap.size nul nul nul [] (v0.alloc (.cells #[.int .i64 0, .int .i64 0, .int .i64 0, .int .i64 0, .int .i64 0, .int .i64 0, .int .i64 0, .int .i64 0, .int .i64 0, .int .i64 0, .int .i64 0, .int .i64 0, .int .i64 0, .int .i64 0, .int .i64 0] 45)) :=
    ⟨Gos.start (below_al B0.out _) (S0.out.al _) GE.out, heap_alloc_new _ _, Nat.le_refl _⟩
  have LA := Lib.hid hA
  clear hA S0 B0
  go_loopw [30] (fun i wr => ∃ (k : Nat) (X Y Z : Nm), k ≤ 3 ∧ i = .int .i64 k ∧ Hid (Lst w b v0.heap.size v0.heap.size k X Y Z wr)) (fun i _ => 3 - (intOf i).toNat)
  case atStart => exact ⟨0, nul, nul, nul, by omega, rfl, ⟨LA.out.drop (by omega), by omega, by omega, by omega⟩⟩
  case round =>
    obtain ⟨k, X, Y, Z, hk, rfl, HL⟩ := hrel
    have hk' : k = 0 ∨ k = 1 ∨ k = 2 ∨ k = 3 := by omega
    clear hk LA
    rcases hk' with rfl | rfl | rfl | rfl
    · skip
      go_wp2_with fail
      refine (Num_any b _ _ 40 6 _ (by omega) (by omega) (by omega) (by omega) (by omega) HL.out.las.gos.sto).mono ?_
      rintro e v1 ⟨u, rfl, hn, hs, hB⟩
      have Fu : Fine u 40 6 := ⟨hn.1, hn.2.1, hn.2.2⟩
      have G0 := Lib.hid (HL.out.las.draw hs hB)
      have H1 := Lib.hid (round_norm Fu)
      clear hn hs hB
      obtain ⟨na, hna⟩ : ∃ x, (normN u).least = x := ⟨_, rfl⟩
      rw [hna] at H1
      go_wp2_with fail
      refine (H1.out _).mono ?_
      rintro e v2 ⟨rfl, hb⟩
      have G1 := Lib.hid ((G0.out.call hb).new na)
      clear hb G0 H1
      go_wp2_with fail
      refine (Num_any b _ _ 40 6 _ (by omega) (by omega) (by omega) (by omega) (by omega) G1.out.gos.sto).mono ?_
      rintro e v3 ⟨v, rfl, hn, hs, hB⟩
      have Fv : Fine v 40 6 := ⟨hn.1, hn.2.1, hn.2.2⟩
      have G2 := Lib.hid (G1.out.draw hs hB)
      have H2 := Lib.hid (round_norm Fv)
      obtain ⟨d, hS, hd⟩ := round_tells Fu Fv
      clear hn hs hB G1
      obtain ⟨nb, hnb⟩ : ∃ x, (normN v).least = x := ⟨_, rfl⟩
      rw [hnb] at H2 hS
      rw [hna] at hS
      have H3 := Lib.hid hS
      have HD := Lib.hid hd
      clear hna hnb hS hd Fu Fv
      go_wp2_with fail
      refine (H2.out _).mono ?_
      rintro e v4 ⟨rfl, hb⟩
      have g := G2.out.call hb
      obtain ⟨a_0, a_1, a_2, a_3, a_4⟩ := (g.gos.box _ (.head _)).1.cell
      have a_t := (g.gos.box _ (.head _)).1.lt
      dsimp only at a_0 a_1 a_2 a_3 a_4 a_t
      have G3 := Lib.hid (g.new nb)
      clear g hb G2 H2
      go_wp2_with fail
      clear a_0 a_1 a_2 a_3 a_4 a_t
      refine (H3.out _).mono ?_
      rintro e v5 ⟨rfl, hb⟩
      have g := G3.out.call hb
      obtain ⟨⟨p0, p1, p2, p3, p4⟩, r0, r1, r2, r3, r4⟩ := g.arr.c0
      have hlt := g.arr.lt
      have G4 := Lib.hid g
      clear g hb G3 H3
      go_wp2_with fail
      clear p0 p1 p2 p3 p4 r0 r1 r2 r3 r4 hlt
      have hP := ((G4.out.put0 d).new d).drop (m' := 11 * ((1 : Nat) : Int)) (by omega)
      go_roundw
      case rel => exact ⟨1, d, Y, Z, by omega, by go_num, ⟨hP, fun _ => HD.out, by omega, by omega⟩⟩
      case measure => simp [intOf]
    · skip
      go_wp2_with fail
      refine (Num_any b _ _ 40 6 _ (by omega) (by omega) (by omega) (by omega) (by omega) HL.out.las.gos.sto).mono ?_
      rintro e v1 ⟨u, rfl, hn, hs, hB⟩
      have Fu : Fine u 40 6 := ⟨hn.1, hn.2.1, hn.2.2⟩
      have G0 := Lib.hid (HL.out.las.draw hs hB)
      have H1 := Lib.hid (round_norm Fu)
      clear hn hs hB
      obtain ⟨na, hna⟩ : ∃ x, (normN u).least = x := ⟨_, rfl⟩
      rw [hna] at H1
      go_wp2_with fail
      refine (H1.out _).mono ?_
      rintro e v2 ⟨rfl, hb⟩
      have G1 := Lib.hid ((G0.out.call hb).new na)
      clear hb G0 H1
      go_wp2_with fail
      refine (Num_any b _ _ 40 6 _ (by omega) (by omega) (by omega) (by omega) (by omega) G1.out.gos.sto).mono ?_
      rintro e v3 ⟨v, rfl, hn, hs, hB⟩
      have Fv : Fine v 40 6 := ⟨hn.1, hn.2.1, hn.2.2⟩
      have G2 := Lib.hid (G1.out.draw hs hB)
      have H2 := Lib.hid (round_norm Fv)
      obtain ⟨d, hS, hd⟩ := round_tells Fu Fv
      clear hn hs hB G1
      obtain ⟨nb, hnb⟩ : ∃ x, (normN v).least = x := ⟨_, rfl⟩
      rw [hnb] at H2 hS
      rw [hna] at hS
      have H3 := Lib.hid hS
      have HD := Lib.hid hd
      clear hna hnb hS hd Fu Fv
      go_wp2_with fail
      refine (H2.out _).mono ?_
      rintro e v4 ⟨rfl, hb⟩
      have g := G2.out.call hb
      obtain ⟨a_0, a_1, a_2, a_3, a_4⟩ := (g.gos.box _ (.head _)).1.cell
      have a_t := (g.gos.box _ (.head _)).1.lt
      dsimp only at a_0 a_1 a_2 a_3 a_4 a_t
      have G3 := Lib.hid (g.new nb)
      clear g hb G2 H2
      go_wp2_with fail
      clear a_0 a_1 a_2 a_3 a_4 a_t
      refine (H3.out _).mono ?_
      rintro e v5 ⟨rfl, hb⟩
      have g := G3.out.call hb
      obtain ⟨⟨p0, p1, p2, p3, p4⟩, r0, r1, r2, r3, r4⟩ := g.arr.c1
      have hlt := g.arr.lt
      have G4 := Lib.hid g
      clear g hb G3 H3
      go_wp2_with fail
      clear p0 p1 p2 p3 p4 r0 r1 r2 r3 r4 hlt
      have hP := (G4.out.put1 d).new d
      refine (seldom_any b _ _ 4 _ (by omega) (by omega) hP.gos.sto).mono ?_
      rintro e v6 ⟨v, rfl, ⟨t, rfl⟩, hs, hB⟩
      have g := hP.draw hs hB
      have G5 := Lib.hid g
      obtain ⟨⟨p0, p1, p2, p3, p4⟩, r0, r1, r2, r3, r4⟩ := g.arr.c1
      obtain ⟨⟨q0, q1, q2, q3, q4⟩, _⟩ := g.arr.c0
      have hlt := g.arr.lt
      clear g hs hB hP G4
      cases t
      · go_wp2_with fail
        have hP := G5.out.drop (m' := 11 * ((2 : Nat) : Int)) (by omega)
        go_roundw
        case rel => exact ⟨2, X, d, Z, by omega, by go_num, ⟨hP, fun _ => HL.out.d0 (by omega), fun _ => HD.out, by omega⟩⟩
        case measure => simp [intOf]
      · go_wp2_with fail
        have hP := (G5.out.put1 X).drop (m' := 11 * ((2 : Nat) : Int)) (by omega)
        go_roundw
        case rel => exact ⟨2, X, X, Z, by omega, by go_num, ⟨hP, fun _ => HL.out.d0 (by omega), fun _ => HL.out.d0 (by omega), by omega⟩⟩
        case measure => simp [intOf]
    · skip
      go_wp2_with fail
      refine (Num_any b _ _ 40 6 _ (by omega) (by omega) (by omega) (by omega) (by omega) HL.out.las.gos.sto).mono ?_
      rintro e v1 ⟨u, rfl, hn, hs, hB⟩
      have Fu : Fine u 40 6 := ⟨hn.1, hn.2.1, hn.2.2⟩
      have G0 := Lib.hid (HL.out.las.draw hs hB)
      have H1 := Lib.hid (round_norm Fu)
      clear hn hs hB
      obtain ⟨na, hna⟩ : ∃ x, (normN u).least = x := ⟨_, rfl⟩
      rw [hna] at H1
      go_wp2_with fail
      refine (H1.out _).mono ?_
      rintro e v2 ⟨rfl, hb⟩
      have G1 := Lib.hid ((G0.out.call hb).new na)
      clear hb G0 H1
      go_wp2_with fail
      refine (Num_any b _ _ 40 6 _ (by omega) (by omega) (by omega) (by omega) (by omega) G1.out.gos.sto).mono ?_
      rintro e v3 ⟨v, rfl, hn, hs, hB⟩
      have Fv : Fine v 40 6 := ⟨hn.1, hn.2.1, hn.2.2⟩
      have G2 := Lib.hid (G1.out.draw hs hB)
      have H2 := Lib.hid (round_norm Fv)
      obtain ⟨d, hS, hd⟩ := round_tells Fu Fv
      clear hn hs hB G1
      obtain ⟨nb, hnb⟩ : ∃ x, (normN v).least = x := ⟨_, rfl⟩
      rw [hnb] at H2 hS
      rw [hna] at hS
      have H3 := Lib.hid hS
      have HD := Lib.hid hd
      clear hna hnb hS hd Fu Fv
      go_wp2_with fail
      refine (H2.out _).mono ?_
      rintro e v4 ⟨rfl, hb⟩
      have g := G2.out.call hb
      obtain ⟨a_0, a_1, a_2, a_3, a_4⟩ := (g.gos.box _ (.head _)).1.cell
      have a_t := (g.gos.box _ (.head _)).1.lt
      dsimp only at a_0 a_1 a_2 a_3 a_4 a_t
      have G3 := Lib.hid (g.new nb)
      clear g hb G2 H2
      go_wp2_with fail
      clear a_0 a_1 a_2 a_3 a_4 a_t
      refine (H3.out _).mono ?_
      rintro e v5 ⟨rfl, hb⟩
      have g := G3.out.call hb
      obtain ⟨⟨p0, p1, p2, p3, p4⟩, r0, r1, r2, r3, r4⟩ := g.arr.c2
      have hlt := g.arr.lt
      have G4 := Lib.hid g
      clear g hb G3 H3
      go_wp2_with fail
      clear p0 p1 p2 p3 p4 r0 r1 r2 r3 r4 hlt
      have hP := (G4.out.put2 d).new d
      refine (seldom_any b _ _ 4 _ (by omega) (by omega) hP.gos.sto).mono ?_
      rintro e v6 ⟨v, rfl, ⟨t, rfl⟩, hs, hB⟩
      have g := hP.draw hs hB
      have G5 := Lib.hid g
      obtain ⟨⟨p0, p1, p2, p3, p4⟩, r0, r1, r2, r3, r4⟩ := g.arr.c2
      obtain ⟨⟨q0, q1, q2, q3, q4⟩, _⟩ := g.arr.c1
      have hlt := g.arr.lt
      clear g hs hB hP G4
      cases t
      · go_wp2_with fail
        have hP := G5.out.drop (m' := 11 * ((3 : Nat) : Int)) (by omega)
        go_roundw
        case rel => exact ⟨3, X, Y, d, by omega, by go_num, ⟨hP, fun _ => HL.out.d0 (by omega), fun _ => HL.out.d1 (by omega), fun _ => HD.out⟩⟩
        case measure => simp [intOf]
      · go_wp2_with fail
        have hP := (G5.out.put2 Y).drop (m' := 11 * ((3 : Nat) : Int)) (by omega)
        go_roundw
        case rel => exact ⟨3, X, Y, Y, by omega, by go_num, ⟨hP, fun _ => HL.out.d0 (by omega), fun _ => HL.out.d1 (by omega), fun _ => HL.out.d1 (by omega)⟩⟩
        case measure => simp [intOf]
    · obtain ⟨rp, rq, s1, s2, t, s3, s4, hO⟩ := order_tells (HL.out.d0 (by omega)) (HL.out.d1 (by omega)) (HL.out.d2 (by omega))
      have HO := Lib.hid hO
      have g := HL.out.las
      obtain ⟨⟨p0, p1, p2, p3, p4⟩, _⟩ := g.arr.c0
      obtain ⟨⟨q0, q1, q2, q3, q4⟩, _⟩ := g.arr.c1
      obtain ⟨⟨r0, r1, r2, r3, r4⟩, _⟩ := g.arr.c2
      have hlt := g.arr.lt
      have GL := Lib.hid g.gos
      clear g hO HL
      go_upto_region 15 with fail
      go_cut [12, 13, 14] from 77 to 82 (fun p q r wx => P3 X Y Z wr p q r wx)
      case first =>
        go_region_held3 (fun w' => Below wr.heap.size wr w' ∧ (∀ b o, b < wr.heap.size → w'.cell? ⟨b, o, none⟩ = wr.cell? ⟨b, o, none⟩)) ((exact (fun h => ⟨h, (bcell h).1⟩) (by repeat (first | with_reducible exact Below.refl _ _ | with_reducible refine below_al ?_ _ | with_reducible refine below_dN ?_ _ | with_reducible refine Below.drew ?_ | (with_reducible refine Below.setCell ?_ (by simp <;> omega) _) | (with_reducible refine below_via (by assumption) ?_))))) (fail)
        all_goals
          go_wp2_with fail
          go_meet
          refine ⟨_, _, _, rfl, rfl, rfl, ⟨⟨?_, ?_, ?_, ?_, ?_⟩, ⟨?_, ?_, ?_, ?_, ?_⟩, ⟨?_, ?_, ?_, ?_, ?_⟩⟩, ⟨?_, ?_, ?_⟩, ⟨?_, ?_, ?_⟩, (by repeat (first | with_reducible exact Below.refl _ _ | with_reducible refine below_al ?_ _ | with_reducible refine below_dN ?_ _ | with_reducible refine Below.drew ?_ | (with_reducible refine Below.setCell ?_ (by simp <;> omega) _) | (with_reducible refine below_via (by assumption) ?_)))⟩
        all_goals (try go_simp)
        all_goals (first | omega | (refine World.cell?_setCell_same' _ _ _ ?_; go_simp))
      case rest =>
        obtain ⟨bp, bq, br, rfl, rfl, rfl, g⟩ := GL.out.three hcut
        have G0 := Lib.hid g
        clear p0 p1 p2 p3 p4 q0 q1 q2 q3 q4 r0 r1 r2 r3 r4 hlt GL hcut g
        have hone : (s1 = false ∧ s2 = false ∧ t = true) ∨ (s1 = false ∧ s2 = true ∧ t = false) ∨ (s1 = true ∧ s2 = false ∧ t = false ∧ s3 = false) ∨ (s1 = true ∧ s2 = false ∧ t = false ∧ s3 = true ∧ s4 = true) := by
          rcases HO.out.one with h | ⟨h1, h2, h3⟩ | h
          · exact .inl h
          · cases e : s3
            · exact .inr (.inr (.inl ⟨h1, h2, h3, rfl⟩))
            · exact .inr (.inr (.inr ⟨h1, h2, h3, rfl, HO.out.far h1 e⟩))
          · exact .inr (.inl h)
        rcases hone with ⟨rfl, rfl, rfl⟩ | ⟨rfl, rfl, rfl⟩ | ⟨rfl, rfl, rfl, rfl⟩ | ⟨rfl, rfl, rfl, rfl, rfl⟩
        all_goals
          have g := G0.out
          obtain ⟨x_0, x_1, x_2, x_3, x_4⟩ := (g.box _ (.tail _ (.tail _ (.head _)))).1.cell
          have x_t := (g.box _ (.tail _ (.tail _ (.head _)))).1.lt
          obtain ⟨y_0, y_1, y_2, y_3, y_4⟩ := (g.box _ (.tail _ (.head _))).1.cell
          have y_t := (g.box _ (.tail _ (.head _))).1.lt
          dsimp only at x_0 x_1 x_2 x_3 x_4 x_t y_0 y_1 y_2 y_3 y_4 y_t
          clear g
          go_wp2_with fail
          clear x_0 x_1 x_2 x_3 x_4 x_t y_0 y_1 y_2 y_3 y_4 y_t
          refine (HO.out.h1 _).mono ?_
          rintro e u1 ⟨rfl, hb⟩
          have g := G0.out.call hb
          obtain ⟨x_0, x_1, x_2, x_3, x_4⟩ := (g.box _ (.tail _ (.tail _ (.head _)))).1.cell
          have x_t := (g.box _ (.tail _ (.tail _ (.head _)))).1.lt
          obtain ⟨y_0, y_1, y_2, y_3, y_4⟩ := (g.box _ (.tail _ (.head _))).1.cell
          have y_t := (g.box _ (.tail _ (.head _))).1.lt
          dsimp only at x_0 x_1 x_2 x_3 x_4 x_t y_0 y_1 y_2 y_3 y_4 y_t
          have G1 := Lib.hid g
          clear g hb G0
          go_wp2_with fail
          clear x_0 x_1 x_2 x_3 x_4 x_t y_0 y_1 y_2 y_3 y_4 y_t
          refine (HO.out.h2 _).mono ?_
          rintro e u2 ⟨rfl, hb⟩
          have g := G1.out.call hb
          obtain ⟨x_0, x_1, x_2, x_3, x_4⟩ := (g.box _ (.tail _ (.tail _ (.head _)))).1.cell
          have x_t := (g.box _ (.tail _ (.tail _ (.head _)))).1.lt
          obtain ⟨y_0, y_1, y_2, y_3, y_4⟩ := (g.box _ (.tail _ (.head _))).1.cell
          have y_t := (g.box _ (.tail _ (.head _))).1.lt
          dsimp only at x_0 x_1 x_2 x_3 x_4 x_t y_0 y_1 y_2 y_3 y_4 y_t
          have G2 := Lib.hid g
          clear g hb G1
          go_wp2_with fail
          clear x_0 x_1 x_2 x_3 x_4 x_t y_0 y_1 y_2 y_3 y_4 y_t
          refine (HO.out.h3 _).mono ?_
          rintro e u3 ⟨rfl, hb⟩
          have g := G2.out.call hb
          obtain ⟨x_0, x_1, x_2, x_3, x_4⟩ := (g.box _ (.tail _ (.tail _ (.head _)))).1.cell
          have x_t := (g.box _ (.tail _ (.tail _ (.head _)))).1.lt
          obtain ⟨z_0, z_1, z_2, z_3, z_4⟩ := (g.box _ (.head _)).1.cell
          have z_t := (g.box _ (.head _)).1.lt
          dsimp only at x_0 x_1 x_2 x_3 x_4 x_t z_0 z_1 z_2 z_3 z_4 z_t
          have G3 := Lib.hid g
          clear g hb G2
          go_wp2_with fail
          clear x_0 x_1 x_2 x_3 x_4 x_t z_0 z_1 z_2 z_3 z_4 z_t
          refine (HO.out.h4 _).mono ?_
          rintro e u4 ⟨rfl, hb⟩
          have g := G3.out.call hb
          obtain ⟨y_0, y_1, y_2, y_3, y_4⟩ := (g.box _ (.tail _ (.head _))).1.cell
          have y_t := (g.box _ (.tail _ (.head _))).1.lt
          obtain ⟨z_0, z_1, z_2, z_3, z_4⟩ := (g.box _ (.head _)).1.cell
          have z_t := (g.box _ (.head _)).1.lt
          dsimp only at y_0 y_1 y_2 y_3 y_4 y_t z_0 z_1 z_2 z_3 z_4 z_t
          have G4 := Lib.hid (g.new rp)
          clear g hb G3
          go_wp2_with fail
          clear y_0 y_1 y_2 y_3 y_4 y_t z_0 z_1 z_2 z_3 z_4 z_t
          refine (HO.out.h5 _).mono ?_
          rintro e u5 ⟨rfl, hb⟩
          have g := G4.out.call hb
          obtain ⟨p_0, p_1, p_2, p_3, p_4⟩ := (g.box _ (.head _)).1.cell
          have p_t := (g.box _ (.head _)).1.lt
          dsimp only at p_0 p_1 p_2 p_3 p_4 p_t
          have G5 := Lib.hid (g.new rq)
          clear g hb G4
          go_wp2_with fail
          clear p_0 p_1 p_2 p_3 p_4 p_t
          refine (HO.out.h6 _).mono ?_
          rintro e u6 ⟨rfl, hb⟩
          have g := G5.out.call hb
          obtain ⟨y_0, y_1, y_2, y_3, y_4⟩ := (g.box _ (.tail _ (.tail _ (.tail _ (.head _))))).1.cell
          have y_t := (g.box _ (.tail _ (.tail _ (.tail _ (.head _))))).1.lt
          obtain ⟨z_0, z_1, z_2, z_3, z_4⟩ := (g.box _ (.tail _ (.tail _ (.head _)))).1.cell
          have z_t := (g.box _ (.tail _ (.tail _ (.head _)))).1.lt
          dsimp only at y_0 y_1 y_2 y_3 y_4 y_t z_0 z_1 z_2 z_3 z_4 z_t
          have G6 := Lib.hid g
          clear g hb G5
          go_wp2_with fail
          clear y_0 y_1 y_2 y_3 y_4 y_t z_0 z_1 z_2 z_3 z_4 z_t
          refine (HO.out.h7 _).mono ?_
          rintro e u7 ⟨rfl, hb⟩
          have g := G6.out.call hb
          obtain ⟨x_0, x_1, x_2, x_3, x_4⟩ := (g.box _ (.tail _ (.tail _ (.tail _ (.tail _ (.head _)))))).1.cell
          have x_t := (g.box _ (.tail _ (.tail _ (.tail _ (.tail _ (.head _)))))).1.lt
          obtain ⟨z_0, z_1, z_2, z_3, z_4⟩ := (g.box _ (.tail _ (.tail _ (.head _)))).1.cell
          have z_t := (g.box _ (.tail _ (.tail _ (.head _)))).1.lt
          dsimp only at x_0 x_1 x_2 x_3 x_4 x_t z_0 z_1 z_2 z_3 z_4 z_t
          have G7 := Lib.hid g
          clear g hb G6
          go_wp2_with fail
          clear x_0 x_1 x_2 x_3 x_4 x_t z_0 z_1 z_2 z_3 z_4 z_t
          refine (HO.out.h8 _).mono ?_
          rintro e u8 ⟨rfl, hb⟩
          have g := G7.out.call hb
          have G8 := Lib.hid g
          clear g hb G7
          go_wp2_with fail
          refine (HA.out _ G8.out.bel).mono ?_
          rintro e u99 ⟨rfl, hb⟩
          go_wp2_with fail
          go_ret
          exact ⟨rfl, below_via hb G8.out.bel⟩
end Go.Proofs.YtohadcaapmnlaaaDoor
