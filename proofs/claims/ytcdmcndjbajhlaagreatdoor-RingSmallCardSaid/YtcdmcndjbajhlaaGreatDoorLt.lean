
/- The contract of ring.Less, by way of Sub. -/
import Derived.Test.YtcdmcndjbajhlaaGreatDoorLs
set_option linter.all false
set_option maxRecDepth 100000
namespace Go.Proofs.YtcdmcndjbajhlaaGreatDoor
open Go.RowKit
attribute [local go_sem] run_eql_arr4 run_field_num

def realB (x : Nm) : Bool := eq4 x.A x.B x.C x.D x.A (-x.D) (-x.C) (-x.B)

set_option maxHeartbeats 8000000 in
theorem Less_bad1 (A B C D K a b c d k : Int) (r : Nm) (q : Int) (ry : Bool) (w : World) (HC : Hid (∀ w, Calls Tryz.prog 78 #[nv A B C D K, nv a b c d k] w (Gives (.int .i64 0) w)))
    (HR1 : Hid (∀ w, Calls Tryz.prog 79 #[nv A B C D K] w (Gives (.bool false) w))) (HR2 : Hid (∀ w, Calls Tryz.prog 79 #[nv a b c d k] w (Gives (.bool ry) w)))
    (HS : Hid (∀ w, Calls Tryz.prog 46 #[nv A B C D K, nv a b c d k] w (Gives (.tuple #[r.v, .int .i64 q]) w)))  :
    Calls Tryz.prog 35 #[nv A B C D K, nv a b c d k] w (Gives (.tuple #[.bool false, .int .i64 7]) w) := by
  go_enter Tryz.func35, Tryz.ntmps35
  go_wp2_with fail
  refine (HC.out _).mono ?_
  rintro e w1 ⟨rfl, hb⟩
  have hw1 : Below w.heap.size w w1 := (by repeat (first | with_reducible exact Below.refl _ _ | with_reducible refine below_al ?_ _ | with_reducible refine below_dN ?_ _ | with_reducible refine Below.drew ?_ | (with_reducible refine Below.setCell ?_ (by simp <;> omega) _) | (with_reducible refine below_via (by assumption) ?_)))
  have bx : Box w1 w.heap.size 23 ⟨A, B, C, D, K⟩ := by
    have h := box_new w A B C D K 23
    first | exact h.below hb (by simp <;> omega) | exact (box_al h _).below hb (by simp <;> omega) | exact (box_al (box_al h _) _).below hb (by simp <;> omega) | exact (box_al (box_al (box_al h _) _) _).below hb (by simp <;> omega)
  have by_ : Box w1 (w.heap.size + 1) 23 ⟨a, b, c, d, k⟩ := by
    have h := box_new (w.alloc (.cells #[.int .i64 A, .int .i64 B, .int .i64 C, .int .i64 D, .int .i64 K] 23)) a b c d k 23
    simp only [World.size_alloc] at h
    first | exact h.below hb (by simp <;> omega) | exact (box_al h _).below hb (by simp <;> omega) | exact (box_al (box_al h _) _).below hb (by simp <;> omega) | exact (box_al (box_al (box_al h _) _) _).below hb (by simp <;> omega)
  obtain ⟨c0, c1, c2, c3, c4⟩ := bx.cell
  obtain ⟨d0, d1, d2, d3, d4⟩ := by_.cell
  have hlt := by_.lt
  have hlt0 := bx.lt
  have HBX := Lib.hid bx
  have HBY := Lib.hid by_
  clear bx by_
  dsimp only at c0 c1 c2 c3 c4 d0 d1 d2 d3 d4
  go_upto_region 4 with fail
  go_cut [7, 8] (fun p q wx => PQ ⟨A, B, C, D, K⟩ ⟨a, b, c, d, k⟩ w1 p q wx)
  case first =>
    go_region_held3 (fun w' => Below w1.heap.size w1 w' ∧ (∀ b o, b < w1.heap.size → w'.cell? ⟨b, o, none⟩ = w1.cell? ⟨b, o, none⟩)) ((exact (fun h => ⟨h, (bcell h).1⟩) (by repeat (first | with_reducible exact Below.refl _ _ | with_reducible refine below_al ?_ _ | with_reducible refine below_dN ?_ _ | with_reducible refine Below.drew ?_ | (with_reducible refine Below.setCell ?_ (by simp <;> omega) _) | (with_reducible refine below_via (by assumption) ?_))))) ((fail))
    all_goals
      go_wp2_with fail
      go_meet
      refine ⟨_, _, rfl, rfl, ⟨?_, ?_, ?_, ?_, ?_⟩, ⟨?_, ?_, ?_, ?_, ?_⟩, ?_, ?_, (by repeat (first | with_reducible exact Below.refl _ _ | with_reducible refine below_al ?_ _ | with_reducible refine below_dN ?_ _ | with_reducible refine Below.drew ?_ | (with_reducible refine Below.setCell ?_ (by simp <;> omega) _) | (with_reducible refine below_via (by assumption) ?_)))⟩
    all_goals (try go_simp)
    all_goals omega
  case rest =>
    obtain ⟨bp, bq, rfl, rfl, ⟨p0, p1, p2, p3, p4⟩, ⟨q0, q1, q2, q3, q4⟩, hbp, hbq, hbx⟩ := hcut
    obtain ⟨hcx, hfx⟩ := bcell hbx
    have hzx := hbx.size
    have hlx0 : w.heap.size < wc.heap.size := by omega
    have hlx1 : w.heap.size + 1 < wc.heap.size := by omega
    dsimp only at p0 p1 p2 p3 p4 q0 q1 q2 q3 q4
    go_wp2_with fail
    refine (HR1.out _).mono ?_
    rintro e w4 ⟨rfl, hb4⟩
    obtain ⟨hc4, hf4⟩ := bcell hb4
    have hz40 : w.heap.size < w4.heap.size := by have := hb4.size; omega
    have hz41 : w.heap.size + 1 < w4.heap.size := by have := hb4.size; omega
    have hz42 : bq < w4.heap.size := by have := hb4.size; omega
    go_wp2
    go_ret2
    exact ⟨rfl, (by repeat (first | with_reducible exact Below.refl _ _ | with_reducible refine below_al ?_ _ | with_reducible refine below_dN ?_ _ | with_reducible refine Below.drew ?_ | (with_reducible refine Below.setCell ?_ (by simp <;> omega) _) | (with_reducible refine below_via (by assumption) ?_)))⟩

set_option maxHeartbeats 8000000 in
theorem Less_bad2 (A B C D K a b c d k : Int) (r : Nm) (q : Int) (w : World) (HC : Hid (∀ w, Calls Tryz.prog 78 #[nv A B C D K, nv a b c d k] w (Gives (.int .i64 0) w)))
    (HR1 : Hid (∀ w, Calls Tryz.prog 79 #[nv A B C D K] w (Gives (.bool true) w))) (HR2 : Hid (∀ w, Calls Tryz.prog 79 #[nv a b c d k] w (Gives (.bool false) w)))
    (HS : Hid (∀ w, Calls Tryz.prog 46 #[nv A B C D K, nv a b c d k] w (Gives (.tuple #[r.v, .int .i64 q]) w)))  :
    Calls Tryz.prog 35 #[nv A B C D K, nv a b c d k] w (Gives (.tuple #[.bool false, .int .i64 7]) w) := by
  go_enter Tryz.func35, Tryz.ntmps35
  go_wp2_with fail
  refine (HC.out _).mono ?_
  rintro e w1 ⟨rfl, hb⟩
  have hw1 : Below w.heap.size w w1 := (by repeat (first | with_reducible exact Below.refl _ _ | with_reducible refine below_al ?_ _ | with_reducible refine below_dN ?_ _ | with_reducible refine Below.drew ?_ | (with_reducible refine Below.setCell ?_ (by simp <;> omega) _) | (with_reducible refine below_via (by assumption) ?_)))
  have bx : Box w1 w.heap.size 23 ⟨A, B, C, D, K⟩ := by
    have h := box_new w A B C D K 23
    first | exact h.below hb (by simp <;> omega) | exact (box_al h _).below hb (by simp <;> omega) | exact (box_al (box_al h _) _).below hb (by simp <;> omega) | exact (box_al (box_al (box_al h _) _) _).below hb (by simp <;> omega)
  have by_ : Box w1 (w.heap.size + 1) 23 ⟨a, b, c, d, k⟩ := by
    have h := box_new (w.alloc (.cells #[.int .i64 A, .int .i64 B, .int .i64 C, .int .i64 D, .int .i64 K] 23)) a b c d k 23
    simp only [World.size_alloc] at h
    first | exact h.below hb (by simp <;> omega) | exact (box_al h _).below hb (by simp <;> omega) | exact (box_al (box_al h _) _).below hb (by simp <;> omega) | exact (box_al (box_al (box_al h _) _) _).below hb (by simp <;> omega)
  obtain ⟨c0, c1, c2, c3, c4⟩ := bx.cell
  obtain ⟨d0, d1, d2, d3, d4⟩ := by_.cell
  have hlt := by_.lt
  have hlt0 := bx.lt
  have HBX := Lib.hid bx
  have HBY := Lib.hid by_
  clear bx by_
  dsimp only at c0 c1 c2 c3 c4 d0 d1 d2 d3 d4
  go_upto_region 4 with fail
  go_cut [7, 8] (fun p q wx => PQ ⟨A, B, C, D, K⟩ ⟨a, b, c, d, k⟩ w1 p q wx)
  case first =>
    go_region_held3 (fun w' => Below w1.heap.size w1 w' ∧ (∀ b o, b < w1.heap.size → w'.cell? ⟨b, o, none⟩ = w1.cell? ⟨b, o, none⟩)) ((exact (fun h => ⟨h, (bcell h).1⟩) (by repeat (first | with_reducible exact Below.refl _ _ | with_reducible refine below_al ?_ _ | with_reducible refine below_dN ?_ _ | with_reducible refine Below.drew ?_ | (with_reducible refine Below.setCell ?_ (by simp <;> omega) _) | (with_reducible refine below_via (by assumption) ?_))))) ((fail))
    all_goals
      go_wp2_with fail
      go_meet
      refine ⟨_, _, rfl, rfl, ⟨?_, ?_, ?_, ?_, ?_⟩, ⟨?_, ?_, ?_, ?_, ?_⟩, ?_, ?_, (by repeat (first | with_reducible exact Below.refl _ _ | with_reducible refine below_al ?_ _ | with_reducible refine below_dN ?_ _ | with_reducible refine Below.drew ?_ | (with_reducible refine Below.setCell ?_ (by simp <;> omega) _) | (with_reducible refine below_via (by assumption) ?_)))⟩
    all_goals (try go_simp)
    all_goals omega
  case rest =>
    obtain ⟨bp, bq, rfl, rfl, ⟨p0, p1, p2, p3, p4⟩, ⟨q0, q1, q2, q3, q4⟩, hbp, hbq, hbx⟩ := hcut
    obtain ⟨hcx, hfx⟩ := bcell hbx
    have hzx := hbx.size
    have hlx0 : w.heap.size < wc.heap.size := by omega
    have hlx1 : w.heap.size + 1 < wc.heap.size := by omega
    dsimp only at p0 p1 p2 p3 p4 q0 q1 q2 q3 q4
    go_wp2_with fail
    refine (HR1.out _).mono ?_
    rintro e w4 ⟨rfl, hb4⟩
    obtain ⟨hc4, hf4⟩ := bcell hb4
    have hz40 : w.heap.size < w4.heap.size := by have := hb4.size; omega
    have hz41 : w.heap.size + 1 < w4.heap.size := by have := hb4.size; omega
    have hz42 : bq < w4.heap.size := by have := hb4.size; omega
    go_wp2_with fail
    refine (HR2.out _).mono ?_
    rintro e w5 ⟨rfl, hb5⟩
    obtain ⟨hc5, hf5⟩ := bcell hb5
    have hz50 : w.heap.size < w5.heap.size := by have := hb5.size; omega
    have hz51 : w.heap.size + 1 < w5.heap.size := by have := hb5.size; omega
    go_wp2
    go_ret2
    exact ⟨rfl, (by repeat (first | with_reducible exact Below.refl _ _ | with_reducible refine below_al ?_ _ | with_reducible refine below_dN ?_ _ | with_reducible refine Below.drew ?_ | (with_reducible refine Below.setCell ?_ (by simp <;> omega) _) | (with_reducible refine below_via (by assumption) ?_)))⟩

set_option maxHeartbeats 8000000 in
theorem Less_bad3 (A B C D K a b c d k : Int) (r : Nm) (q : Int) (w : World) (HC : Hid (∀ w, Calls Tryz.prog 78 #[nv A B C D K, nv a b c d k] w (Gives (.int .i64 0) w)))
    (HR1 : Hid (∀ w, Calls Tryz.prog 79 #[nv A B C D K] w (Gives (.bool true) w))) (HR2 : Hid (∀ w, Calls Tryz.prog 79 #[nv a b c d k] w (Gives (.bool true) w)))
    (HS : Hid (∀ w, Calls Tryz.prog 46 #[nv A B C D K, nv a b c d k] w (Gives (.tuple #[r.v, .int .i64 q]) w))) (hq : (q != 0) = true) :
    Calls Tryz.prog 35 #[nv A B C D K, nv a b c d k] w (Gives (.tuple #[.bool false, .int .i64 q]) w) := by
  go_enter Tryz.func35, Tryz.ntmps35
  go_wp2_with fail
  refine (HC.out _).mono ?_
  rintro e w1 ⟨rfl, hb⟩
  have hw1 : Below w.heap.size w w1 := (by repeat (first | with_reducible exact Below.refl _ _ | with_reducible refine below_al ?_ _ | with_reducible refine below_dN ?_ _ | with_reducible refine Below.drew ?_ | (with_reducible refine Below.setCell ?_ (by simp <;> omega) _) | (with_reducible refine below_via (by assumption) ?_)))
  have bx : Box w1 w.heap.size 23 ⟨A, B, C, D, K⟩ := by
    have h := box_new w A B C D K 23
    first | exact h.below hb (by simp <;> omega) | exact (box_al h _).below hb (by simp <;> omega) | exact (box_al (box_al h _) _).below hb (by simp <;> omega) | exact (box_al (box_al (box_al h _) _) _).below hb (by simp <;> omega)
  have by_ : Box w1 (w.heap.size + 1) 23 ⟨a, b, c, d, k⟩ := by
    have h := box_new (w.alloc (.cells #[.int .i64 A, .int .i64 B, .int .i64 C, .int .i64 D, .int .i64 K] 23)) a b c d k 23
    simp only [World.size_alloc] at h
    first | exact h.below hb (by simp <;> omega) | exact (box_al h _).below hb (by simp <;> omega) | exact (box_al (box_al h _) _).below hb (by simp <;> omega) | exact (box_al (box_al (box_al h _) _) _).below hb (by simp <;> omega)
  obtain ⟨c0, c1, c2, c3, c4⟩ := bx.cell
  obtain ⟨d0, d1, d2, d3, d4⟩ := by_.cell
  have hlt := by_.lt
  have hlt0 := bx.lt
  have HBX := Lib.hid bx
  have HBY := Lib.hid by_
  clear bx by_
  dsimp only at c0 c1 c2 c3 c4 d0 d1 d2 d3 d4
  go_upto_region 4 with fail
  go_cut [7, 8] (fun p q wx => PQ ⟨A, B, C, D, K⟩ ⟨a, b, c, d, k⟩ w1 p q wx)
  case first =>
    go_region_held3 (fun w' => Below w1.heap.size w1 w' ∧ (∀ b o, b < w1.heap.size → w'.cell? ⟨b, o, none⟩ = w1.cell? ⟨b, o, none⟩)) ((exact (fun h => ⟨h, (bcell h).1⟩) (by repeat (first | with_reducible exact Below.refl _ _ | with_reducible refine below_al ?_ _ | with_reducible refine below_dN ?_ _ | with_reducible refine Below.drew ?_ | (with_reducible refine Below.setCell ?_ (by simp <;> omega) _) | (with_reducible refine below_via (by assumption) ?_))))) ((fail))
    all_goals
      go_wp2_with fail
      go_meet
      refine ⟨_, _, rfl, rfl, ⟨?_, ?_, ?_, ?_, ?_⟩, ⟨?_, ?_, ?_, ?_, ?_⟩, ?_, ?_, (by repeat (first | with_reducible exact Below.refl _ _ | with_reducible refine below_al ?_ _ | with_reducible refine below_dN ?_ _ | with_reducible refine Below.drew ?_ | (with_reducible refine Below.setCell ?_ (by simp <;> omega) _) | (with_reducible refine below_via (by assumption) ?_)))⟩
    all_goals (try go_simp)
    all_goals omega
  case rest =>
    obtain ⟨bp, bq, rfl, rfl, ⟨p0, p1, p2, p3, p4⟩, ⟨q0, q1, q2, q3, q4⟩, hbp, hbq, hbx⟩ := hcut
    obtain ⟨hcx, hfx⟩ := bcell hbx
    have hzx := hbx.size
    have hlx0 : w.heap.size < wc.heap.size := by omega
    have hlx1 : w.heap.size + 1 < wc.heap.size := by omega
    dsimp only at p0 p1 p2 p3 p4 q0 q1 q2 q3 q4
    go_wp2_with fail
    refine (HR1.out _).mono ?_
    rintro e w4 ⟨rfl, hb4⟩
    obtain ⟨hc4, hf4⟩ := bcell hb4
    have hz40 : w.heap.size < w4.heap.size := by have := hb4.size; omega
    have hz41 : w.heap.size + 1 < w4.heap.size := by have := hb4.size; omega
    have hz42 : bq < w4.heap.size := by have := hb4.size; omega
    go_wp2_with fail
    refine (HR2.out _).mono ?_
    rintro e w5 ⟨rfl, hb5⟩
    obtain ⟨hc5, hf5⟩ := bcell hb5
    have hz50 : w.heap.size < w5.heap.size := by have := hb5.size; omega
    have hz51 : w.heap.size + 1 < w5.heap.size := by have := hb5.size; omega
    go_wp2_with fail
    refine (HS.out _).mono ?_
    rintro e w6 ⟨rfl, hb6⟩
    obtain ⟨hc6, hf6⟩ := bcell hb6
    dsimp only [Nm.v, nv]
    go_wp2
    go_ret2
    exact ⟨rfl, (by repeat (first | with_reducible exact Below.refl _ _ | with_reducible refine below_al ?_ _ | with_reducible refine below_dN ?_ _ | with_reducible refine Below.drew ?_ | (with_reducible refine Below.setCell ?_ (by simp <;> omega) _) | (with_reducible refine below_via (by assumption) ?_)))⟩

set_option maxHeartbeats 8000000 in
theorem Less_ok (A B C D K a b c d k : Int) (r : Nm) (w : World) (HC : Hid (∀ w, Calls Tryz.prog 78 #[nv A B C D K, nv a b c d k] w (Gives (.int .i64 0) w)))
    (HR1 : Hid (∀ w, Calls Tryz.prog 79 #[nv A B C D K] w (Gives (.bool true) w))) (HR2 : Hid (∀ w, Calls Tryz.prog 79 #[nv a b c d k] w (Gives (.bool true) w)))
    (HS : Hid (∀ w, Calls Tryz.prog 46 #[nv A B C D K, nv a b c d k] w (Gives (.tuple #[r.v, .int .i64 0]) w))) (hr : Hid (r.inb 1073741824 = true)) :
    Calls Tryz.prog 35 #[nv A B C D K, nv a b c d k] w (Gives (.tuple #[.bool (below0N r.A r.B), .int .i64 0]) w) := by
  go_enter Tryz.func35, Tryz.ntmps35
  go_wp2_with fail
  refine (HC.out _).mono ?_
  rintro e w1 ⟨rfl, hb⟩
  have hw1 : Below w.heap.size w w1 := (by repeat (first | with_reducible exact Below.refl _ _ | with_reducible refine below_al ?_ _ | with_reducible refine below_dN ?_ _ | with_reducible refine Below.drew ?_ | (with_reducible refine Below.setCell ?_ (by simp <;> omega) _) | (with_reducible refine below_via (by assumption) ?_)))
  have bx : Box w1 w.heap.size 23 ⟨A, B, C, D, K⟩ := by
    have h := box_new w A B C D K 23
    first | exact h.below hb (by simp <;> omega) | exact (box_al h _).below hb (by simp <;> omega) | exact (box_al (box_al h _) _).below hb (by simp <;> omega) | exact (box_al (box_al (box_al h _) _) _).below hb (by simp <;> omega)
  have by_ : Box w1 (w.heap.size + 1) 23 ⟨a, b, c, d, k⟩ := by
    have h := box_new (w.alloc (.cells #[.int .i64 A, .int .i64 B, .int .i64 C, .int .i64 D, .int .i64 K] 23)) a b c d k 23
    simp only [World.size_alloc] at h
    first | exact h.below hb (by simp <;> omega) | exact (box_al h _).below hb (by simp <;> omega) | exact (box_al (box_al h _) _).below hb (by simp <;> omega) | exact (box_al (box_al (box_al h _) _) _).below hb (by simp <;> omega)
  obtain ⟨c0, c1, c2, c3, c4⟩ := bx.cell
  obtain ⟨d0, d1, d2, d3, d4⟩ := by_.cell
  have hlt := by_.lt
  have hlt0 := bx.lt
  have HBX := Lib.hid bx
  have HBY := Lib.hid by_
  clear bx by_
  dsimp only at c0 c1 c2 c3 c4 d0 d1 d2 d3 d4
  go_upto_region 4 with fail
  go_cut [7, 8] (fun p q wx => PQ ⟨A, B, C, D, K⟩ ⟨a, b, c, d, k⟩ w1 p q wx)
  case first =>
    go_region_held3 (fun w' => Below w1.heap.size w1 w' ∧ (∀ b o, b < w1.heap.size → w'.cell? ⟨b, o, none⟩ = w1.cell? ⟨b, o, none⟩)) ((exact (fun h => ⟨h, (bcell h).1⟩) (by repeat (first | with_reducible exact Below.refl _ _ | with_reducible refine below_al ?_ _ | with_reducible refine below_dN ?_ _ | with_reducible refine Below.drew ?_ | (with_reducible refine Below.setCell ?_ (by simp <;> omega) _) | (with_reducible refine below_via (by assumption) ?_))))) ((fail))
    all_goals
      go_wp2_with fail
      go_meet
      refine ⟨_, _, rfl, rfl, ⟨?_, ?_, ?_, ?_, ?_⟩, ⟨?_, ?_, ?_, ?_, ?_⟩, ?_, ?_, (by repeat (first | with_reducible exact Below.refl _ _ | with_reducible refine below_al ?_ _ | with_reducible refine below_dN ?_ _ | with_reducible refine Below.drew ?_ | (with_reducible refine Below.setCell ?_ (by simp <;> omega) _) | (with_reducible refine below_via (by assumption) ?_)))⟩
    all_goals (try go_simp)
    all_goals omega
  case rest =>
    obtain ⟨bp, bq, rfl, rfl, ⟨p0, p1, p2, p3, p4⟩, ⟨q0, q1, q2, q3, q4⟩, hbp, hbq, hbx⟩ := hcut
    obtain ⟨hcx, hfx⟩ := bcell hbx
    have hzx := hbx.size
    have hlx0 : w.heap.size < wc.heap.size := by omega
    have hlx1 : w.heap.size + 1 < wc.heap.size := by omega
    dsimp only at p0 p1 p2 p3 p4 q0 q1 q2 q3 q4
    go_wp2_with fail
    refine (HR1.out _).mono ?_
    rintro e w4 ⟨rfl, hb4⟩
    obtain ⟨hc4, hf4⟩ := bcell hb4
    have hz40 : w.heap.size < w4.heap.size := by have := hb4.size; omega
    have hz41 : w.heap.size + 1 < w4.heap.size := by have := hb4.size; omega
    have hz42 : bq < w4.heap.size := by have := hb4.size; omega
    go_wp2_with fail
    refine (HR2.out _).mono ?_
    rintro e w5 ⟨rfl, hb5⟩
    obtain ⟨hc5, hf5⟩ := bcell hb5
    have hz50 : w.heap.size < w5.heap.size := by have := hb5.size; omega
    have hz51 : w.heap.size + 1 < w5.heap.size := by have := hb5.size; omega
    go_wp2_with fail
    refine (HS.out _).mono ?_
    rintro e w6 ⟨rfl, hb6⟩
    obtain ⟨hc6, hf6⟩ := bcell hb6
    dsimp only [Nm.v, nv]
    have HB0 : Hid (∀ w, Calls Tryz.prog 80 #[.int .i64 r.A, .int .i64 r.B] w (Gives (.bool (below0N r.A r.B)) w)) := fun w => by
      have h := hr.out
      simp only [Nm.inb, YtcdmcndjbajhlaaGreatDoor.inb, decide_eq_true_eq] at h
      exact below0_any r.A r.B w (by omega) (by omega)
    go_wp2_with fail
    refine (HB0.out _).mono ?_
    rintro e w7 ⟨rfl, hb7⟩
    go_wp2
    go_ret2
    exact ⟨rfl, (by repeat (first | with_reducible exact Below.refl _ _ | with_reducible refine below_al ?_ _ | with_reducible refine below_dN ?_ _ | with_reducible refine Below.drew ?_ | (with_reducible refine Below.setCell ?_ (by simp <;> omega) _) | (with_reducible refine below_via (by assumption) ?_)))⟩

end Go.Proofs.YtcdmcndjbajhlaaGreatDoor
