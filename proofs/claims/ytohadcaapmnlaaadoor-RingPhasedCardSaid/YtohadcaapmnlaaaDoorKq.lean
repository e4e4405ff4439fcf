
/- The law RingPhased, for all bytes and any integer. -/
import Derived.Test.YtohadcaapmnlaaaDoorJg
set_option linter.all false
set_option maxRecDepth 100000
namespace Go.Proofs.YtohadcaapmnlaaaDoor
open Go.RowKit Go.Shelf

set_option maxHeartbeats 16000000 in
theorem RingPhased_any (k : Int) (hk0 : -9223372036854775808 ≤ k) (hk1 : k ≤ 9223372036854775807) (p : Option Addr) (n c : Nat) (w : World) (hg : Given w p n c) (hv : Vars w) : Calls Tryd.prog 10 #[.slice p n c, .int .i64 k] w (Gives (.bool true) w) := by
  have HA : Hid (∀ w', Below w.heap.size w w' → Calls Tryd.prog 13 #[] w' (Gives (.bool true) w')) := fun w' hb => awake_below hv hb
  have HO : Hid (Calls Tryd.prog 14 #[.slice p n c] w (Stored w)) := Of_any p n c w hg
  clear hv hg
  go_enter Tryd.func10, Tryd.ntmps10
  go_wp2_with fail
  refine HO.out.mono ?_
  rintro e v0 ⟨b, rfl, hge, hs, hb⟩
  have S0 := Lib.hid hs
  have B0 := Lib.hid hb
  have GE := Lib.hid (show w.heap.size ≤ b ∧ w.heap.size ≤ v0.heap.size from ⟨hge, hb.size⟩)
  have hL : b < v0.heap.size := hs.1.1
  clear hs hb hge HO
  go_wp2_with fail
  refine (Num_any b _ 0 60 8 _ (by omega) (by omega) (by omega) (by omega) (by omega) S0.out).mono ?_
  rintro e v1 ⟨x, rfl, hn, hs, hb⟩
  have Fx : Hid (Fine x 60 8) := ⟨hn.1, hn.2.1, hn.2.2⟩
  have S1 := Lib.hid hs
  have B1 := Lib.hid (below_store B0.out hb GE.out)
  clear hn hs hb S0 B0
  go_wp2_with fail
  refine (Num_any b _ (0 + 5) 2 2 _ (by omega) (by omega) (by omega) (by omega) (by omega) S1.out).mono ?_
  rintro e v2 ⟨y, rfl, hn, hs, hb⟩
  have Fy : Hid (Fine y 2 2) := ⟨hn.1, hn.2.1, hn.2.2⟩
  have S2 := Lib.hid hs
  have B2 := Lib.hid (below_store B1.out hb GE.out)
  clear hn hs hb S1 B1
  go_wp2_with fail
  obtain ⟨kk, hT⟩ := phase_first hk0 hk1 Fx.out
  generalize (mulN x (pw (k % 8).toNat)).least = a at hT
  generalize pw (k % 8).toNat = o at hT
  generalize x.zero = zz at hT
  have HT := Lib.hid hT
  clear hT
  have g0 := ((Gos.start B2.out S2.out GE.out).new x).new y
  simp only [World.size_alloc] at g0
  obtain ⟨V, hV⟩ : ∃ V, (v2.alloc (.cells #[.int .i64 x.A, .int .i64 x.B, .int .i64 x.C, .int .i64 x.D, .int .i64 x.K] 23)).alloc (.cells #[.int .i64 y.A, .int .i64 y.B, .int .i64 y.C, .int .i64 y.D, .int .i64 y.K] 23) = V := ⟨_, rfl⟩
  rw [hV] at g0 ⊢
  clear hV
  have G0 := Lib.hid g0
  have hx := (g0.box _ (.tail _ (.head _))).1
  generalize v2.heap.size = bx at *
  obtain ⟨x_0, x_1, x_2, x_3, x_4⟩ := hx.cell
  have x_t := hx.lt
  dsimp only at x_0 x_1 x_2 x_3 x_4 x_t
  clear hx g0
  have H1 : Hid (∀ w, Calls Tryd.prog 26 #[.int .i64 k] w (Gives o.v w)) := HT.out.h1
  have H2 : Hid (∀ w, Calls Tryd.prog 17 #[x.v, o.v] w (Gives (two a) w)) := HT.out.h2
  go_cut [8, 9] from 25 to 31 (fun p q wx => q = .int .i64 0 ∧ PV a V p wx)
  case first =>
    go_region_held3 (fun w' => Below V.heap.size V w' ∧ (∀ b o, b < V.heap.size → w'.cell? ⟨b, o, none⟩ = V.cell? ⟨b, o, none⟩)) ((exact (fun h => ⟨h, (bcell h).1⟩) (by repeat (first | with_reducible exact Below.refl _ _ | with_reducible refine below_al ?_ _ | with_reducible refine below_dN ?_ _ | with_reducible refine Below.drew ?_ | (with_reducible refine Below.setCell ?_ (by simp <;> omega) _) | (with_reducible refine below_via (by assumption) ?_))))) (first | (go_at_call 26; (with_reducible refine (H1.out _).mono ?_); rintro e w3 ⟨rfl, hw3⟩; (try replace hw3 := below_undrew hw3); obtain ⟨hcw3, hfw3⟩ := bcell hw3; have hzw3 := hw3.size; (try simp at hzw3); (try have hzw30 : bx < w3.heap.size := (by omega)); (try have hzw31 : V.heap.size < w3.heap.size := (by omega))) | (go_at_call 17; (with_reducible refine (H2.out _).mono ?_); rintro e w4 ⟨rfl, hw4⟩; (try replace hw4 := below_undrew hw4); obtain ⟨hcw4, hfw4⟩ := bcell hw4; have hzw4 := hw4.size; (try simp at hzw4); (try have hzw40 : bx < w4.heap.size := (by omega)); (try have hzw41 : V.heap.size < w4.heap.size := (by omega))))
    all_goals
      go_wp2_with fail
      go_meet
      refine ⟨rfl, _, rfl, ⟨?_, ?_, ?_, ?_, ?_⟩, ?_, ?_, (by repeat (first | with_reducible exact Below.refl _ _ | with_reducible refine below_al ?_ _ | with_reducible refine below_dN ?_ _ | with_reducible refine Below.drew ?_ | (with_reducible refine Below.setCell ?_ (by simp <;> omega) _) | (with_reducible refine below_via (by assumption) ?_)))⟩
    all_goals (try go_simp)
    all_goals (first | omega | (refine World.cell?_setCell_same' _ _ _ ?_; go_simp))
  case rest =>
    obtain ⟨rfl, hp⟩ := hcut
    obtain ⟨ba, rfl, g⟩ := G0.out.var hp
    clear x_0 x_1 x_2 x_3 x_4 x_t H1 H2 G0 hp
    obtain ⟨a_0, a_1, a_2, a_3, a_4⟩ := (g.box _ (.head _)).1.cell
    have a_t := (g.box _ (.head _)).1.lt
    obtain ⟨x_0, x_1, x_2, x_3, x_4⟩ := (g.box _ (.tail _ (.tail _ (.head _)))).1.cell
    have x_t := (g.box _ (.tail _ (.tail _ (.head _)))).1.lt
    dsimp only at a_0 a_1 a_2 a_3 a_4 a_t x_0 x_1 x_2 x_3 x_4 x_t
    have G1 := Lib.hid g
    clear g
    go_wp2_with fail
    clear a_0 a_1 a_2 a_3 a_4 a_t x_0 x_1 x_2 x_3 x_4 x_t
    refine (HT.out.h3 _).mono ?_
    rintro e u2 ⟨rfl, hb⟩
    have g := G1.out.call hb
    obtain ⟨x_0, x_1, x_2, x_3, x_4⟩ := (g.box _ (.tail _ (.tail _ (.head _)))).1.cell
    have x_t := (g.box _ (.tail _ (.tail _ (.head _)))).1.lt
    dsimp only at x_0 x_1 x_2 x_3 x_4 x_t
    have G2 := Lib.hid g
    clear g hb G1
    go_wp2_with fail
    clear x_0 x_1 x_2 x_3 x_4 x_t
    refine (HT.out.h4 _).mono ?_
    rintro e u3 ⟨rfl, hb⟩
    have g := G2.out.call hb
    have G3 := Lib.hid g
    clear g hb G2
    go_wp2_with fail
    have hown : kk = k % 8 ∨ (kk = 0 ∧ zz = true ∧ ¬ 0 = k % 8) := by
      rcases HT.out.own with h | ⟨h1, h2⟩
      · exact .inl h
      · by_cases e : 0 = k % 8
        · exact .inl (h1.trans e)
        · exact .inr ⟨h1, h2, e⟩
    rcases hown with rfl | ⟨rfl, rfl, hne⟩
    all_goals
      refine (HT.out.h5 _).mono ?_
      rintro e u4 ⟨rfl, hb⟩
      have g := G3.out.call hb
      have G4 := Lib.hid g
      clear g hb G3
      go_wp2_with fail
      refine (Num_any b _ _ 2 2 _ (by omega) (by omega) (by omega) (by omega) (by omega) G4.out.sto).mono ?_
      rintro e v3 ⟨z, rfl, hn, hs, hB⟩
      have Fz : Fine z 2 2 := ⟨hn.1, hn.2.1, hn.2.2⟩
      have g := G4.out.draw hs hB
      have hU := phase_second Fy.out Fz
      clear hn hs hB Fz G4 HT
      obtain ⟨y_0, y_1, y_2, y_3, y_4⟩ := (g.box _ (.tail _ (.head _))).1.cell
      have y_t := (g.box _ (.tail _ (.head _))).1.lt
      dsimp only at y_0 y_1 y_2 y_3 y_4 y_t
      have G5 := Lib.hid (g.new z)
      clear g
      rcases hU with ⟨rp, rq, hU⟩ | ⟨rp, rb, ro, kz, hU⟩
      · have HU := Lib.hid hU
        clear hU
        go_wp2_with fail
        clear y_0 y_1 y_2 y_3 y_4 y_t
        refine (HU.out.h1 _).mono ?_
        rintro e u6 ⟨rfl, hb⟩
        have g := G5.out.call hb
        obtain ⟨y_0, y_1, y_2, y_3, y_4⟩ := (g.box _ (.tail _ (.tail _ (.head _)))).1.cell
        have y_t := (g.box _ (.tail _ (.tail _ (.head _)))).1.lt
        dsimp only at y_0 y_1 y_2 y_3 y_4 y_t
        have G6 := Lib.hid g
        clear g hb G5
        go_wp2_with fail
        clear y_0 y_1 y_2 y_3 y_4 y_t
        refine (HU.out.h2 _).mono ?_
        rintro e u7 ⟨rfl, hb⟩
        have g := G6.out.call hb
        obtain ⟨z_0, z_1, z_2, z_3, z_4⟩ := (g.box _ (.head _)).1.cell
        have z_t := (g.box _ (.head _)).1.lt
        dsimp only at z_0 z_1 z_2 z_3 z_4 z_t
        have G7 := Lib.hid (g.new rp)
        clear g hb G6
        go_wp2_with fail
        clear z_0 z_1 z_2 z_3 z_4 z_t
        refine (HU.out.h3 _).mono ?_
        rintro e u8 ⟨rfl, hb⟩
        have g := G7.out.call hb
        have G8 := Lib.hid (g.new rq)
        clear g hb G7
        go_wp2_with fail
        refine (HA.out _ G8.out.bel).mono ?_
        rintro e u99 ⟨rfl, hb⟩
        go_wp2_with fail
        go_ret
        exact ⟨rfl, below_via hb G8.out.bel⟩
      · have HU := Lib.hid hU
        clear hU
        go_wp2_with fail
        clear y_0 y_1 y_2 y_3 y_4 y_t
        refine (HU.out.h1 _).mono ?_
        rintro e u6 ⟨rfl, hb⟩
        have g := G5.out.call hb
        obtain ⟨y_0, y_1, y_2, y_3, y_4⟩ := (g.box _ (.tail _ (.tail _ (.head _)))).1.cell
        have y_t := (g.box _ (.tail _ (.tail _ (.head _)))).1.lt
        dsimp only at y_0 y_1 y_2 y_3 y_4 y_t
        have G6 := Lib.hid g
        clear g hb G5
        go_wp2_with fail
        clear y_0 y_1 y_2 y_3 y_4 y_t
        refine (HU.out.h2 _).mono ?_
        rintro e u7 ⟨rfl, hb⟩
        have g := G6.out.call hb
        obtain ⟨z_0, z_1, z_2, z_3, z_4⟩ := (g.box _ (.head _)).1.cell
        have z_t := (g.box _ (.head _)).1.lt
        dsimp only at z_0 z_1 z_2 z_3 z_4 z_t
        have G7 := Lib.hid (g.new rp)
        clear g hb G6
        go_wp2_with fail
        clear z_0 z_1 z_2 z_3 z_4 z_t
        refine (HU.out.h3 _).mono ?_
        rintro e u8 ⟨rfl, hb⟩
        have g := G7.out.call hb
        have G8 := Lib.hid (g.new rp)
        clear g hb G7
        go_wp2_with fail
        have H4 : Hid (∀ w, Calls Tryd.prog 26 #[.int .i64 kz] w (Gives ro.v w)) := HU.out.h4
        have H5 : Hid (∀ w, Calls Tryd.prog 17 #[z.v, ro.v] w (Gives (two rb) w)) := HU.out.h5
        obtain ⟨V2, hV⟩ : ∃ V, u8.alloc (.cells #[.int .i64 rp.A, .int .i64 rp.B, .int .i64 rp.C, .int .i64 rp.D, .int .i64 rp.K] 23) = V := ⟨_, rfl⟩
        have g := G8.out
        rw [hV] at g ⊢
        clear hV
        obtain ⟨z_0, z_1, z_2, z_3, z_4⟩ := (g.box _ (.tail _ (.tail _ (.head _)))).1.cell
        have z_t := (g.box _ (.tail _ (.tail _ (.head _)))).1.lt
        dsimp only at z_0 z_1 z_2 z_3 z_4 z_t
        have G9 := Lib.hid g
        clear g G8
        go_cut [17, 9] from 99 to 105 (fun p q wx => q = .int .i64 0 ∧ PV rb V2 p wx)
        case first =>
          go_region_held3 (fun w' => Below V2.heap.size V2 w' ∧ (∀ b o, b < V2.heap.size → w'.cell? ⟨b, o, none⟩ = V2.cell? ⟨b, o, none⟩)) ((exact (fun h => ⟨h, (bcell h).1⟩) (by repeat (first | with_reducible exact Below.refl _ _ | with_reducible refine below_al ?_ _ | with_reducible refine below_dN ?_ _ | with_reducible refine Below.drew ?_ | (with_reducible refine Below.setCell ?_ (by simp <;> omega) _) | (with_reducible refine below_via (by assumption) ?_))))) (first | (go_at_call 26; (with_reducible refine (H4.out _).mono ?_); rintro e wz0 ⟨rfl, hw0⟩; (try replace hw0 := below_undrew hw0); obtain ⟨hcw0, hfw0⟩ := bcell hw0; have hz0 := hw0.size; (try simp at hz0); (try have hz00 : v3.heap.size < wz0.heap.size := (by omega)); (try have hz01 : V2.heap.size < wz0.heap.size := (by omega))) | (go_at_call 17; (with_reducible refine (H5.out _).mono ?_); rintro e wz1 ⟨rfl, hw1⟩; (try replace hw1 := below_undrew hw1); obtain ⟨hcw1, hfw1⟩ := bcell hw1; have hz1 := hw1.size; (try simp at hz1); (try have hz10 : v3.heap.size < wz1.heap.size := (by omega)); (try have hz11 : V2.heap.size < wz1.heap.size := (by omega))))
          all_goals
            go_wp2_with fail
            go_meet
            refine ⟨rfl, _, rfl, ⟨?_, ?_, ?_, ?_, ?_⟩, ?_, ?_, (by repeat (first | with_reducible exact Below.refl _ _ | with_reducible refine below_al ?_ _ | with_reducible refine below_dN ?_ _ | with_reducible refine Below.drew ?_ | (with_reducible refine Below.setCell ?_ (by simp <;> omega) _) | (with_reducible refine below_via (by assumption) ?_)))⟩
          all_goals (try go_simp)
          all_goals (first | omega | (refine World.cell?_setCell_same' _ _ _ ?_; go_simp))
        case rest =>
          obtain ⟨rfl, hp⟩ := hcut
          obtain ⟨bb, rfl, g⟩ := G9.out.var hp
          clear z_0 z_1 z_2 z_3 z_4 z_t G9 hp
          obtain ⟨b_0, b_1, b_2, b_3, b_4⟩ := (g.box _ (.head _)).1.cell
          have b_t := (g.box _ (.head _)).1.lt
          obtain ⟨y_0, y_1, y_2, y_3, y_4⟩ := (g.box _ (.tail _ (.tail _ (.tail _ (.tail _ (.tail _ (.head _))))))).1.cell
          have y_t := (g.box _ (.tail _ (.tail _ (.tail _ (.tail _ (.tail _ (.head _))))))).1.lt
          dsimp only at b_0 b_1 b_2 b_3 b_4 b_t y_0 y_1 y_2 y_3 y_4 y_t
          have G10 := Lib.hid g
          clear g
          go_wp2_with fail
          clear b_0 b_1 b_2 b_3 b_4 b_t y_0 y_1 y_2 y_3 y_4 y_t
          have hlo := HU.out.lo
          have hhi := HU.out.hi
          refine (HU.out.h6 _).mono ?_
          rintro e u11 ⟨rfl, hb⟩
          have g := G10.out.call hb
          obtain ⟨p_0, p_1, p_2, p_3, p_4⟩ := (g.box _ (.tail _ (.tail _ (.head _)))).1.cell
          have p_t := (g.box _ (.tail _ (.tail _ (.head _)))).1.lt
          obtain ⟨q_0, q_1, q_2, q_3, q_4⟩ := (g.box _ (.tail _ (.head _))).1.cell
          have q_t := (g.box _ (.tail _ (.head _))).1.lt
          dsimp only at p_0 p_1 p_2 p_3 p_4 p_t q_0 q_1 q_2 q_3 q_4 q_t
          have G11 := Lib.hid g
          clear g hb G10
          go_wp2_with fail
          clear p_0 p_1 p_2 p_3 p_4 p_t q_0 q_1 q_2 q_3 q_4 q_t
          refine (HA.out _ G11.out.bel).mono ?_
          rintro e u99 ⟨rfl, hb⟩
          go_wp2_with fail
          go_ret
          exact ⟨rfl, below_via hb G11.out.bel⟩
end Go.Proofs.YtohadcaapmnlaaaDoor
