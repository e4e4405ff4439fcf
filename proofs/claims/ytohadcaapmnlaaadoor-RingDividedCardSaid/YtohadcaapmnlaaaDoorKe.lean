
/- The law RingDivided, for all bytes. -/
import Derived.Test.YtohadcaapmnlaaaDoorKd
set_option linter.all false
set_option maxRecDepth 100000
namespace Go.Proofs.YtohadcaapmnlaaaDoor
open Go.RowKit Go.Shelf

set_option maxHeartbeats 16000000 in
theorem RingDivided_any (p : Option Addr) (n c : Nat) (w : World) (hg : Given w p n c) (hv : Vars w) : Calls Tryd.prog 8 #[.slice p n c] w (Gives (.bool true) w) := by
  have HA : Hid (∀ w', Below w.heap.size w w' → Calls Tryd.prog 13 #[] w' (Gives (.bool true) w')) := fun w' hb => awake_below hv hb
  have HO : Hid (Calls Tryd.prog 14 #[.slice p n c] w (Stored w)) := Of_any p n c w hg
  clear hv hg
  go_enter Tryd.func8, Tryd.ntmps8
  go_wp2_with fail
  refine HO.out.mono ?_
  rintro e v0 ⟨b, rfl, hge, hs, hb⟩
  have S0 := Lib.hid hs
  have B0 := Lib.hid hb
  have GE := Lib.hid (show w.heap.size ≤ b ∧ w.heap.size ≤ v0.heap.size from ⟨hge, hb.size⟩)
  have hL : b < v0.heap.size := hs.1.1
  clear hs hb hge HO
  go_wp2_with fail
  refine (Num_any b _ 0 12 6 _ (by omega) (by omega) (by omega) (by omega) (by omega) S0.out).mono ?_
  rintro e v1 ⟨x, rfl, hn, hs, hb⟩
  have Fx : Hid (Fine x 12 6) := ⟨hn.1, hn.2.1, hn.2.2⟩
  have S1 := Lib.hid hs
  have B1 := Lib.hid (below_store B0.out hb GE.out)
  clear hn hs hb S0 B0
  go_wp2_with fail
  refine (Num_any b _ (0 + 5) 12 6 _ (by omega) (by omega) (by omega) (by omega) (by omega) S1.out).mono ?_
  rintro e v2 ⟨y, rfl, hn, hs, hb⟩
  have Fy : Hid (Fine y 12 6) := ⟨hn.1, hn.2.1, hn.2.2⟩
  have S2 := Lib.hid hs
  have B2 := Lib.hid (below_store B1.out hb GE.out)
  clear hn hs hb S1 B1
  go_wp2_with fail
  have hT := div_all Fx.out Fy.out
  generalize (mulN x y).least = a at hT
  generalize x.least = lx at hT
  generalize y.zero = zz at hT
  have HT := Lib.hid hT
  clear hT
  have g0 := ((Gos.start B2.out S2.out GE.out).new x).new y
  simp only [World.size_alloc] at g0
  have G0 := Lib.hid g0
  clear g0
  refine (HT.out.h1 _).mono ?_
  rintro e u1 ⟨rfl, hb⟩
  have g := G0.out.call hb
  obtain ⟨x_0, x_1, x_2, x_3, x_4⟩ := (g.box _ (.tail _ (.head _))).1.cell
  have x_t := (g.box _ (.tail _ (.head _))).1.lt
  dsimp only at x_0 x_1 x_2 x_3 x_4 x_t
  have G1 := Lib.hid (g.new a)
  clear g hb G0
  go_wp2_with fail
  clear x_0 x_1 x_2 x_3 x_4 x_t
  refine (HT.out.h2 _).mono ?_
  rintro e u2 ⟨rfl, hb⟩
  have g := G1.out.call hb
  obtain ⟨x_0, x_1, x_2, x_3, x_4⟩ := (g.box _ (.tail _ (.tail _ (.head _)))).1.cell
  have x_t := (g.box _ (.tail _ (.tail _ (.head _)))).1.lt
  dsimp only at x_0 x_1 x_2 x_3 x_4 x_t
  have G2 := Lib.hid (g.new lx)
  clear g hb G1
  go_wp2_with fail
  clear x_0 x_1 x_2 x_3 x_4 x_t
  obtain ⟨V, hV⟩ : ∃ V, u2.alloc (.cells #[.int .i64 lx.A, .int .i64 lx.B, .int .i64 lx.C, .int .i64 lx.D, .int .i64 lx.K] 23) = V := ⟨_, rfl⟩
  have g := G2.out
  rw [hV] at g ⊢
  clear hV
  have CX : Hid (CB V v2.heap.size x) := (g.box _ (.tail _ (.tail _ (.tail _ (.head _))))).1
  have hLx : v0.heap.size ≤ v2.heap.size := (g.box _ (.tail _ (.tail _ (.tail _ (.head _))))).2
  have hLV : v0.heap.size ≤ V.heap.size := g.sto.1.2
  have hnV : ¬ V.heap.size = b := by omega
  have HS := Lib.hid g.sto
  have HB := Lib.hid (Beside.refl b V)
  obtain ⟨x_0, x_1, x_2, x_3, x_4⟩ := CX.out.cell
  have x_t := CX.out.lt
  (try dsimp only at x_0 x_1 x_2 x_3 x_4 x_t)
  have G3 := Lib.hid g
  clear g G2
  have HL : Hid (∀ w, StoreAt w b v0.heap.size (0 + 5 + 5) → Calls Tryd.prog 30 #[.pointer (some ⟨b, 0, none⟩), .int .i64 9] w (Draws b v0.heap.size (0 + 5 + 5) w fun v => ∃ z : Int, v = .int .i64 z ∧ 0 ≤ z ∧ z < 9)) := fun w h => less_any b _ _ 9 w (by omega) (by omega) h
  have HD : Hid (∀ k : Int, 0 ≤ k → k < 9 → ∀ w, Calls Tryd.prog 12 #[x.v, nv 0 0 0 0 k] w (Gives (.tuple #[nul.v, .int .i64 6]) w)) := HT.out.h3
  go_cut [10, 11] from 35 to 42 (fun p q wx => q = .int .i64 6 ∧ PD nul b v0.heap.size (0 + 5 + 5 + 1) V p wx)
  case first =>
    go_region_with (first | (go_at_call 30; (with_reducible refine (HL.out _ (by repeat (first | exact HS.out | with_reducible refine StoreAt.other ?_ (by omega) _ _ | with_reducible refine StoreAt.al ?_ _ | with_reducible refine StoreAt.dN ?_ _ | with_reducible refine StoreAt.drew ?_))).mono ?_); rintro e w3 ⟨v, rfl, ⟨kk, rfl, k0, k1⟩, hS, hB⟩; (first | (with_reducible replace hB := Beside.undrew hB) | skip); obtain ⟨hcw3, hfw3⟩ := bescell hB; have hz3 := hB.size; (try simp at hz3); (try have hq3 : V.heap.size < w3.heap.size := (by omega)); have hn3 : ¬ w3.heap.size = b := (by omega); have HS := Lib.hid hS; have HB : Hid (Beside b V w3) := Beside.trans (by repeat (first | exact HB.out | with_reducible refine Beside.other ?_ (by omega) _ _ | with_reducible refine Beside.al ?_ _ | with_reducible refine Beside.dN ?_ _ | with_reducible refine Beside.drew ?_)) hB; clear hS hB; have cx := CX.out.beside HB.out (by omega); obtain ⟨x_0, x_1, x_2, x_3, x_4⟩ := cx.cell; have x_t := cx.lt; clear cx; have hs3 := HB.out.size) | (go_at_call 12; (with_reducible refine (HD.out _ k0 k1 _).mono ?_); rintro e w4 ⟨rfl, hb4⟩; (try replace hb4 := below_undrew hb4); obtain ⟨hcw4, hfw4⟩ := bcell hb4; have hz4 := hb4.size; (try simp at hz4); (try have hq4 : V.heap.size < w4.heap.size := (by omega)); (try have hq5 : w3.heap.size < w4.heap.size := (by omega)); have HS : Hid (StoreAt w4 b v0.heap.size (0 + 5 + 5 + 1)) := StoreAt.call (by repeat (first | exact HS.out | with_reducible refine StoreAt.other ?_ (by omega) _ _ | with_reducible refine StoreAt.al ?_ _ | with_reducible refine StoreAt.dN ?_ _ | with_reducible refine StoreAt.drew ?_)) hb4; have HB : Hid (Beside b V w4) := Beside.trans (by repeat (first | exact HB.out | with_reducible refine Beside.other ?_ (by omega) _ _ | with_reducible refine Beside.al ?_ _ | with_reducible refine Beside.dN ?_ _ | with_reducible refine Beside.drew ?_)) (Beside.of hb4); clear hb4; have hs4 := HB.out.size))
    all_goals
      go_wp2_with fail
      go_meet
      refine ⟨rfl, _, rfl, ⟨?_, ?_, ?_, ?_, ?_⟩, ?_, ?_, (by repeat (first | exact HS.out | with_reducible refine StoreAt.other ?_ (by omega) _ _ | with_reducible refine StoreAt.al ?_ _ | with_reducible refine StoreAt.dN ?_ _ | with_reducible refine StoreAt.drew ?_)), (by repeat (first | exact HB.out | with_reducible refine Beside.other ?_ (by omega) _ _ | with_reducible refine Beside.al ?_ _ | with_reducible refine Beside.dN ?_ _ | with_reducible refine Beside.drew ?_))⟩
    all_goals (try go_simp)
    all_goals (first | omega | (refine World.cell?_setCell_same' _ _ _ ?_; go_simp))
  case rest =>
    obtain ⟨rfl, hp⟩ := hcut
    obtain ⟨bn, rfl, g⟩ := G3.out.drawn hp
    clear x_0 x_1 x_2 x_3 x_4 x_t G3 hp HL HD HS HB CX hnV
    obtain ⟨none_0, none_1, none_2, none_3, none_4⟩ := (g.box _ (.head _)).1.cell
    have none_t := (g.box _ (.head _)).1.lt
    obtain ⟨y_0, y_1, y_2, y_3, y_4⟩ := (g.box _ (.tail _ (.tail _ (.tail _ (.head _))))).1.cell
    have y_t := (g.box _ (.tail _ (.tail _ (.tail _ (.head _))))).1.lt
    dsimp only at none_0 none_1 none_2 none_3 none_4 none_t y_0 y_1 y_2 y_3 y_4 y_t
    have G4 := Lib.hid g
    clear g
    go_wp2_with fail
    clear none_0 none_1 none_2 none_3 none_4 none_t y_0 y_1 y_2 y_3 y_4 y_t
    refine (HT.out.h4 _).mono ?_
    rintro e u5 ⟨rfl, hb⟩
    have g := G4.out.call hb
    clear hb G4
    cases zz
    · skip
      obtain ⟨a_0, a_1, a_2, a_3, a_4⟩ := (g.box _ (.tail _ (.tail _ (.head _)))).1.cell
      have a_t := (g.box _ (.tail _ (.tail _ (.head _)))).1.lt
      obtain ⟨y_0, y_1, y_2, y_3, y_4⟩ := (g.box _ (.tail _ (.tail _ (.tail _ (.head _))))).1.cell
      have y_t := (g.box _ (.tail _ (.tail _ (.tail _ (.head _))))).1.lt
      dsimp only at a_0 a_1 a_2 a_3 a_4 a_t y_0 y_1 y_2 y_3 y_4 y_t
      have G5 := Lib.hid g
      clear g
      go_wp2_with fail
      clear a_0 a_1 a_2 a_3 a_4 a_t y_0 y_1 y_2 y_3 y_4 y_t
      refine ((HT.out.h5 rfl) _).mono ?_
      rintro e u6 ⟨rfl, hb⟩
      have g := G5.out.call hb
      obtain ⟨least_0, least_1, least_2, least_3, least_4⟩ := (g.box _ (.tail _ (.head _))).1.cell
      have least_t := (g.box _ (.tail _ (.head _))).1.lt
      obtain ⟨x_0, x_1, x_2, x_3, x_4⟩ := (g.box _ (.tail _ (.tail _ (.tail _ (.tail _ (.head _)))))).1.cell
      have x_t := (g.box _ (.tail _ (.tail _ (.tail _ (.tail _ (.head _)))))).1.lt
      obtain ⟨y_0, y_1, y_2, y_3, y_4⟩ := (g.box _ (.tail _ (.tail _ (.tail _ (.head _))))).1.cell
      have y_t := (g.box _ (.tail _ (.tail _ (.tail _ (.head _))))).1.lt
      dsimp only at least_0 least_1 least_2 least_3 least_4 least_t x_0 x_1 x_2 x_3 x_4 x_t y_0 y_1 y_2 y_3 y_4 y_t
      have G6 := Lib.hid (g.new lx)
      clear g hb G5
      go_wp2_with fail
      clear least_0 least_1 least_2 least_3 least_4 least_t x_0 x_1 x_2 x_3 x_4 x_t y_0 y_1 y_2 y_3 y_4 y_t
      rcases HT.out.h6 with ⟨cc, hD⟩ | ⟨cc, hD, hM⟩
      · have H6 := Lib.hid hD
        clear hD
        refine (H6.out _).mono ?_
        rintro e u7 ⟨rfl, hb⟩
        have g := G6.out.call hb
        have G7 := Lib.hid (g.new cc)
        clear g hb G6
        go_wp2_with fail
        refine (HA.out _ G7.out.bel).mono ?_
        rintro e u99 ⟨rfl, hb⟩
        go_wp2_with fail
        go_ret
        exact ⟨rfl, below_via hb G7.out.bel⟩
      · have H6 := Lib.hid hD
        have H7 := Lib.hid hM
        clear hD hM
        refine (H6.out _).mono ?_
        rintro e u7 ⟨rfl, hb⟩
        have g := G6.out.call hb
        obtain ⟨y_0, y_1, y_2, y_3, y_4⟩ := (g.box _ (.tail _ (.tail _ (.tail _ (.tail _ (.head _)))))).1.cell
        have y_t := (g.box _ (.tail _ (.tail _ (.tail _ (.tail _ (.head _)))))).1.lt
        dsimp only at y_0 y_1 y_2 y_3 y_4 y_t
        have G7 := Lib.hid (g.new cc)
        clear g hb G6
        go_wp2_with fail
        clear y_0 y_1 y_2 y_3 y_4 y_t
        refine (H7.out _).mono ?_
        rintro e u8 ⟨rfl, hb⟩
        have g := G7.out.call hb
        obtain ⟨least_0, least_1, least_2, least_3, least_4⟩ := (g.box _ (.tail _ (.tail _ (.tail _ (.head _))))).1.cell
        have least_t := (g.box _ (.tail _ (.tail _ (.tail _ (.head _))))).1.lt
        dsimp only at least_0 least_1 least_2 least_3 least_4 least_t
        have G8 := Lib.hid (g.new lx)
        clear g hb G7
        go_wp2_with fail
        clear least_0 least_1 least_2 least_3 least_4 least_t
        refine (HA.out _ G8.out.bel).mono ?_
        rintro e u99 ⟨rfl, hb⟩
        go_wp2_with fail
        go_ret
        exact ⟨rfl, below_via hb G8.out.bel⟩
    · skip
      obtain ⟨x_0, x_1, x_2, x_3, x_4⟩ := (g.box _ (.tail _ (.tail _ (.tail _ (.tail _ (.head _)))))).1.cell
      have x_t := (g.box _ (.tail _ (.tail _ (.tail _ (.tail _ (.head _)))))).1.lt
      obtain ⟨y_0, y_1, y_2, y_3, y_4⟩ := (g.box _ (.tail _ (.tail _ (.tail _ (.head _))))).1.cell
      have y_t := (g.box _ (.tail _ (.tail _ (.tail _ (.head _))))).1.lt
      dsimp only at x_0 x_1 x_2 x_3 x_4 x_t y_0 y_1 y_2 y_3 y_4 y_t
      have G5 := Lib.hid g
      clear g
      go_wp2_with fail
      clear x_0 x_1 x_2 x_3 x_4 x_t y_0 y_1 y_2 y_3 y_4 y_t
      rcases HT.out.h6 with ⟨cc, hD⟩ | ⟨cc, hD, hM⟩
      · have H6 := Lib.hid hD
        clear hD
        refine (H6.out _).mono ?_
        rintro e u6 ⟨rfl, hb⟩
        have g := G5.out.call hb
        have G6 := Lib.hid (g.new cc)
        clear g hb G5
        go_wp2_with fail
        refine (HA.out _ G6.out.bel).mono ?_
        rintro e u99 ⟨rfl, hb⟩
        go_wp2_with fail
        go_ret
        exact ⟨rfl, below_via hb G6.out.bel⟩
      · have H6 := Lib.hid hD
        have H7 := Lib.hid hM
        clear hD hM
        refine (H6.out _).mono ?_
        rintro e u6 ⟨rfl, hb⟩
        have g := G5.out.call hb
        obtain ⟨y_0, y_1, y_2, y_3, y_4⟩ := (g.box _ (.tail _ (.tail _ (.tail _ (.head _))))).1.cell
        have y_t := (g.box _ (.tail _ (.tail _ (.tail _ (.head _))))).1.lt
        dsimp only at y_0 y_1 y_2 y_3 y_4 y_t
        have G6 := Lib.hid (g.new cc)
        clear g hb G5
        go_wp2_with fail
        clear y_0 y_1 y_2 y_3 y_4 y_t
        refine (H7.out _).mono ?_
        rintro e u7 ⟨rfl, hb⟩
        have g := G6.out.call hb
        obtain ⟨least_0, least_1, least_2, least_3, least_4⟩ := (g.box _ (.tail _ (.tail _ (.head _)))).1.cell
        have least_t := (g.box _ (.tail _ (.tail _ (.head _)))).1.lt
        dsimp only at least_0 least_1 least_2 least_3 least_4 least_t
        have G7 := Lib.hid (g.new lx)
        clear g hb G6
        go_wp2_with fail
        clear least_0 least_1 least_2 least_3 least_4 least_t
        refine (HA.out _ G7.out.bel).mono ?_
        rintro e u99 ⟨rfl, hb⟩
        go_wp2_with fail
        go_ret
        exact ⟨rfl, below_via hb G7.out.bel⟩
end Go.Proofs.YtohadcaapmnlaaaDoor
