/- The law RingTexts, for all numbers and texts. -/
import Derived.Test.YtcdmcndjbajhlaaGreatDoorRx
import Derived.Test.YtcdmcndjbajhlaaGreatDoorRy
import Derived.Test.YtcdmcndjbajhlaaGreatDoorRz
import Derived.Test.YtcdmcndjbajhlaaGreatDoorRu
import Derived.Test.YtcdmcndjbajhlaaGreatDoorJx
import Derived.Test.YtcdmcndjbajhlaaGreatDoorRc
import Derived.Test.YtcdmcndjbajhlaaGreatDoorJu
set_option linter.all false
set_option maxRecDepth 100000
namespace Go.Proofs.YtcdmcndjbajhlaaGreatDoor
open Go.RowKit

theorem r_Divide_main (x y : Nm) (w : World) (h : chk2 x y = 0) (hq : x.least.inb 4096 = true ∧ y.least.inb 4096 = true ∧ y.least.zero = false) : Calls Tryz.prog 53 #[x.v, y.v] w (Gives (.tuple #[(divN x.least y.least).v, .int .i64 (divE x.least y.least)]) w) := by
  by_cases hg : goes x.least y.least
  · by_cases hz : (quoN x.least y.least).zero = true
    · exact r_Divide_zero x y w h hq ⟨hg, hz⟩
    · have hz := Bool.eq_false_iff.2 hz
      by_cases hk : (quoN x.least y.least).K < 0
      · exact r_Divide_low x y w h hq ⟨hg, hz, hk⟩
      · exact r_Divide_high x y w h hq ⟨hg, hz, by omega⟩
  · exact r_Divide_no x y w h hq hg
theorem r_Divide (x y : Nm) (w : World) : Calls Tryz.prog 53 #[x.v, y.v] w (Gives (.tuple #[(DivN x y).v, .int .i64 (DivE x y)]) w) := by
  unfold DivN DivE
  by_cases h : chk2 x y = 0
  · rw [if_pos h, if_pos h]
    by_cases hq : x.least.inb 4096 = true ∧ y.least.inb 4096 = true ∧ y.least.zero = false
    · exact r_Divide_main x y w h hq
    · exact r_Divide_early x y w h hq
  · rw [if_neg h, if_neg h]
    exact r_Divide_bad x y w h
theorem RingDivides_any (x y : Nm) (w : World) (hv : Vars w) : Calls Tryz.prog 13 #[x.v, y.v] w (Gives (.bool true) w) :=
  RingDivides_of x y w hv (fun w => r_Divide x y w)
end Go.Proofs.YtcdmcndjbajhlaaGreatDoor
namespace Go.Proofs.YtcdmcndjbajhlaaGreatDoor
open Go.RowKit Go.Shelf

theorem refV_two (s : ByteArray) : ∃ (r : Nm) (q : Int), refV s = .tuple #[r.v, .int .i64 q] := by
  unfold refV
  split
  · exact ⟨nul, 4, rfl⟩
  · split
    · exact ⟨_, 0, rfl⟩
    · exact ⟨nul, 4, rfl⟩
theorem Got.oneN (w : World) (x : Nm) : Got w [(w.heap.size, x)] (w.alloc (.cells #[.int .i64 x.A, .int .i64 x.B, .int .i64 x.C, .int .i64 x.D, .int .i64 x.K] 23)) := (Got.none w).box x
set_option maxHeartbeats 8000000 in
theorem RingTexts_any (x : Nm) (s : ByteArray) (w : World) (hv : Vars w) (hs : s.size ≤ 9223372036854775807) : Calls Tryz.prog 7 #[x.v, .string s] w (Gives (.bool true) w) := by
  have HA : Hid (∀ w', Below w.heap.size w w' → Calls Tryz.prog 9 #[] w' (Gives (.bool true) w')) := fun w' hb => awake_below hv hb
  have G0 := Lib.hid (Got.oneN w x)
  by_cases hl : 200 < s.size
  · have hl2 : (200 : Int) < s.size := by omega
    clear hv
    go_enter Tryz.func7, Tryz.ntmps7
    go_wp2_with fail
    refine (HA.out _ G0.out.1).mono ?_
    rintro e u9 ⟨rfl, hb⟩
    go_wp2_with fail
    go_ret
    exact ⟨rfl, below_via hb G0.out.1⟩
  · have hl2 : ¬ (200 : Int) < s.size := by omega
    obtain ⟨r, q, hrq⟩ := refV_two s
    have H1 : Hid (∀ w, Calls Tryz.prog 20 #[x.v] w (Gives (.tuple #[.string (if x.chk = 0 then printT x.least else { data := #[] }), .int .i64 x.chk]) w)) := fun w => r_Print x w
    have H2 : Hid (∀ w, Calls Tryz.prog 21 #[.string s] w (Gives (.tuple #[r.v, .int .i64 q]) w)) := fun w => by rw [← hrq]; exact r_Parse s w (by omega)
    have H3 : Hid (∀ w', Below w.heap.size w w' → Calls Tryz.prog 6 #[x.v] w' (Gives (.tuple #[.string (if x.chk = 0 then printT x.least else { data := #[] }), .int .i64 x.chk]) w')) := fun w' hb => Print_any _ _ _ _ _ w' (hv.1.below hb) (Lib.tabBelow_of_tabIs hv.2.2 w' hb)
    have H4 : Hid (∀ w', Below w.heap.size w w' → Calls Tryz.prog 22 #[.string s] w' (Gives (.tuple #[r.v, .int .i64 q]) w')) := fun w' hb => by
      rw [← hrq, refV_parse]
      exact Parse_any s w' (by omega) (hv.1.below hb) (hv.2.1.below hb) (Lib.tabBelow_of_tabIs hv.2.2 w' hb)
    clear hv hrq hl
    generalize (if x.chk = 0 then printT x.least else { data := #[] }) = T at *
    generalize x.chk = p at *
    go_enter Tryz.func7, Tryz.ntmps7
    go_wp2_with fail
    refine (H1.out _).mono ?_
    rintro e u1 ⟨rfl, hb⟩
    have g := G0.out.call hb
    obtain ⟨x0, x1, x2, x3, x4⟩ := (g.2 _ (.head _)).cell
    have hlt := (g.2 _ (.head _)).lt
    dsimp only at x0 x1 x2 x3 x4 hlt
    have G1 := Lib.hid g
    clear g hb G0
    go_wp2_with fail
    clear x0 x1 x2 x3 x4 hlt
    refine (H2.out _).mono ?_
    rintro e u2 ⟨rfl, hb⟩
    have g := G1.out.call hb
    obtain ⟨x0, x1, x2, x3, x4⟩ := (g.2 _ (.head _)).cell
    have hlt := (g.2 _ (.head _)).lt
    dsimp only at x0 x1 x2 x3 x4 hlt
    have G2 := Lib.hid (g.box r)
    clear g hb G1
    go_wp2_with fail
    clear x0 x1 x2 x3 x4 hlt
    refine (H3.out _ G2.out.1).mono ?_
    rintro e u3 ⟨rfl, hb⟩
    have G3 := Lib.hid (G2.out.call hb)
    clear hb G2
    go_wp2_with fail
    refine (H4.out _ G3.out.1).mono ?_
    rintro e u4 ⟨rfl, hb⟩
    have g := G3.out.call hb
    obtain ⟨y0, y1, y2, y3, y4⟩ := (g.2 _ (.head _)).cell
    have hlt := (g.2 _ (.head _)).lt
    dsimp only at y0 y1 y2 y3 y4 hlt
    have G4 := Lib.hid (g.box r)
    clear g hb G3
    have hp : (p == p) = true := by simp
    have hq : (q == q) = true := by simp
    go_wp2_with fail
    refine (HA.out _ G4.out.1).mono ?_
    rintro e u9 ⟨rfl, hb⟩
    go_wp2_with fail
    go_ret
    exact ⟨rfl, below_via hb G4.out.1⟩
end Go.Proofs.YtcdmcndjbajhlaaGreatDoor
