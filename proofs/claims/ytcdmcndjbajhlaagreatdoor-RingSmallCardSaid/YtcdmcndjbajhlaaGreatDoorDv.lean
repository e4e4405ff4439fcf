
/- The contract of ring.Divide, by way of by and settle. -/
import Derived.Test.YtcdmcndjbajhlaaGreatDoorJo
set_option linter.all false
set_option maxRecDepth 100000
namespace Go.Proofs.YtcdmcndjbajhlaaGreatDoor
open Go.RowKit
attribute [local go_sem] run_eql_arr4 run_field_num

set_option maxHeartbeats 8000000 in
theorem Divide_large1 (A B C D K a b c d k : Int) (r s z y : Nm) (q : Int) (w : World) (HC : Hid (∀ w, Calls Tryz.prog 78 #[nv A B C D K, nv a b c d k] w (Gives (.int .i64 0) w)))
    (HL1 : Hid (∀ w, Calls Tryz.prog 16 #[nv A B C D K] w (Gives r.v w))) (HL2 : Hid (∀ w, Calls Tryz.prog 16 #[nv a b c d k] w (Gives s.v w)))
    (HI1 : Hid (∀ w, Calls Tryz.prog 58 #[nv r.A r.B r.C r.D r.K, .int .i64 4096] w (Gives (.bool false) w))) :
    Calls Tryz.prog 36 #[nv A B C D K, nv a b c d k] w (Gives (.tuple #[nul.v, .int .i64 8]) w) := by
  go_enter Tryz.func36, Tryz.ntmps36
  go_wp2_with fail
  refine (HC.out _).mono ?_
  rintro e w1 ⟨rfl, hb⟩
  have b2 : Box w1 (w.heap.size + 1 + 1) 23 nul := by
    have h := box_new ((w.alloc (.cells #[.int .i64 A, .int .i64 B, .int .i64 C, .int .i64 D, .int .i64 K] 23)).alloc (.cells #[.int .i64 a, .int .i64 b, .int .i64 c, .int .i64 d, .int .i64 k] 23)) 0 0 0 0 0 23
    simp only [World.size_alloc] at h
    exact h.below hb (by simp)
  have hw1 : Below w.heap.size w w1 := (by repeat (first | with_reducible exact Below.refl _ _ | with_reducible refine below_al ?_ _ | with_reducible refine below_dN ?_ _ | with_reducible refine Below.drew ?_ | (with_reducible refine Below.setCell ?_ (by simp <;> omega) _) | (with_reducible refine below_via (by assumption) ?_)))
  have bx : Box w1 w.heap.size 23 ⟨A, B, C, D, K⟩ := by
    have h := box_new w A B C D K 23
    first | exact h.below hb (by simp <;> omega) | exact (box_al h _).below hb (by simp <;> omega) | exact (box_al (box_al h _) _).below hb (by simp <;> omega) | exact (box_al (box_al (box_al h _) _) _).below hb (by simp <;> omega)
  have by_ : Box w1 (w.heap.size + 1) 23 ⟨a, b, c, d, k⟩ := by
    have h := box_new (w.alloc (.cells #[.int .i64 A, .int .i64 B, .int .i64 C, .int .i64 D, .int .i64 K] 23)) a b c d k 23
    simp only [World.size_alloc] at h
    first | exact h.below hb (by simp <;> omega) | exact (box_al h _).below hb (by simp <;> omega) | exact (box_al (box_al h _) _).below hb (by simp <;> omega) | exact (box_al (box_al (box_al h _) _) _).below hb (by simp <;> omega)
  obtain ⟨c0, c1, c2, c3, c4⟩ := bx.cell
  obtain ⟨d0, d1, d2, d3, d4⟩ := by_.cell
  have hlt := by_.lt
  have hlt0 := bx.lt
  have HBX := Lib.hid bx
  have HBY := Lib.hid by_
  clear bx by_
  dsimp only at c0 c1 c2 c3 c4 d0 d1 d2 d3 d4
  have hlt2 := b2.lt
  obtain ⟨z0, z1, z2, z3, z4⟩ := b2.cell
  obtain ⟨f0, f1, f2, f3, f4⟩ := b2.free
  dsimp only at z0 z1 z2 z3 z4
  clear b2
  go_upto_region 4 with fail
  go_cut [7, 8] (fun p q wx => PQ r s w1 p q wx)
  case first =>
    go_region_held3 (fun w' => Below w1.heap.size w1 w' ∧ (∀ b o, b < w1.heap.size → w'.cell? ⟨b, o, none⟩ = w1.cell? ⟨b, o, none⟩)) ((exact (fun h => ⟨h, (bcell h).1⟩) (by repeat (first | with_reducible exact Below.refl _ _ | with_reducible refine below_al ?_ _ | with_reducible refine below_dN ?_ _ | with_reducible refine Below.drew ?_ | (with_reducible refine Below.setCell ?_ (by simp <;> omega) _) | (with_reducible refine below_via (by assumption) ?_))))) (first | (go_at_call 16; (with_reducible refine (HL1.out _).mono ?_); rintro e w2 ⟨rfl, hb2⟩; (try replace hb2 := below_undrew hb2); obtain ⟨hc2, hf2⟩ := bcell hb2; have hz2 := hb2.size; (try simp at hz2); have hz20 : w.heap.size < w2.heap.size := (by omega); have hz21 : w.heap.size + 1 < w2.heap.size := (by omega); (try have hz2a : w1.heap.size < w2.heap.size := (by omega)); (try have hz2b : w1.heap.size + 1 < w2.heap.size := (by omega))) | (go_at_call 16; (with_reducible refine (HL2.out _).mono ?_); rintro e w3 ⟨rfl, hb3⟩; (try replace hb3 := below_undrew hb3); obtain ⟨hc3, hf3⟩ := bcell hb3; have hz3 := hb3.size; (try simp at hz3); (try have hz3a : w1.heap.size < w3.heap.size := (by omega)); (try have hz3b : w1.heap.size + 1 < w3.heap.size := (by omega)); (try have hz3c : w2.heap.size < w3.heap.size := (by omega)); (try have hz3d : w2.heap.size + 1 < w3.heap.size := (by omega))))
    all_goals
      go_wp2_with fail
      go_meet
      refine ⟨_, _, rfl, rfl, ⟨?_, ?_, ?_, ?_, ?_⟩, ⟨?_, ?_, ?_, ?_, ?_⟩, ?_, ?_, (by repeat (first | with_reducible exact Below.refl _ _ | with_reducible refine below_al ?_ _ | with_reducible refine below_dN ?_ _ | with_reducible refine Below.drew ?_ | (with_reducible refine Below.setCell ?_ (by simp <;> omega) _) | (with_reducible refine below_via (by assumption) ?_)))⟩
    all_goals (try go_simp)
    all_goals (first | omega | (refine World.cell?_setCell_same' _ _ _ ?_; go_simp))
  case rest =>
    obtain ⟨bp, bq, rfl, rfl, ⟨p0, p1, p2, p3, p4⟩, ⟨q0, q1, q2, q3, q4⟩, hbp, hbq, hbx⟩ := hcut
    obtain ⟨hcx, hfx⟩ := bcell hbx
    have hzx := hbx.size
    have hx0 : w.heap.size < wc.heap.size := by omega
    have hx1 : w.heap.size + 1 < wc.heap.size := by omega
    have hx2 : w.heap.size + 1 + 1 < wc.heap.size := by omega
    go_wp2_with fail
    refine (HI1.out _).mono ?_
    rintro e w4 ⟨rfl, hb4⟩
    obtain ⟨hc4, hf4⟩ := bcell hb4
    have hz40 : w.heap.size < w4.heap.size := by have := hb4.size; omega
    have hz41 : w.heap.size + 1 < w4.heap.size := by have := hb4.size; omega
    have hz42 : w.heap.size + 1 + 1 < w4.heap.size := by have := hb4.size; omega
    have hz43 : bq < w4.heap.size := by have := hb4.size; omega
    have hz44 : bp < w4.heap.size := by have := hb4.size; omega
    go_wp2
    exact bodyPost_ret (v := .tuple #[nul.v, .int .i64 8]) (by simp [results, Tryz.results36, go_sem, hcx, hx0, hx1, hx2, hlt2, z0, z1, z2, z3, z4, hc4, hz42]) rfl ⟨rfl, (by repeat (first | with_reducible exact Below.refl _ _ | with_reducible refine below_al ?_ _ | with_reducible refine below_dN ?_ _ | with_reducible refine Below.drew ?_ | (with_reducible refine Below.setCell ?_ (by simp <;> omega) _) | (with_reducible refine below_via (by assumption) ?_)))⟩

set_option maxHeartbeats 8000000 in
theorem Divide_large2 (A B C D K a b c d k : Int) (r s z y : Nm) (q : Int) (w : World) (HC : Hid (∀ w, Calls Tryz.prog 78 #[nv A B C D K, nv a b c d k] w (Gives (.int .i64 0) w)))
    (HL1 : Hid (∀ w, Calls Tryz.prog 16 #[nv A B C D K] w (Gives r.v w))) (HL2 : Hid (∀ w, Calls Tryz.prog 16 #[nv a b c d k] w (Gives s.v w)))
    (HI1 : Hid (∀ w, Calls Tryz.prog 58 #[nv r.A r.B r.C r.D r.K, .int .i64 4096] w (Gives (.bool true) w))) (HI2 : Hid (∀ w, Calls Tryz.prog 58 #[nv s.A s.B s.C s.D s.K, .int .i64 4096] w (Gives (.bool false) w))) :
    Calls Tryz.prog 36 #[nv A B C D K, nv a b c d k] w (Gives (.tuple #[nul.v, .int .i64 8]) w) := by
  go_enter Tryz.func36, Tryz.ntmps36
  go_wp2_with fail
  refine (HC.out _).mono ?_
  rintro e w1 ⟨rfl, hb⟩
  have b2 : Box w1 (w.heap.size + 1 + 1) 23 nul := by
    have h := box_new ((w.alloc (.cells #[.int .i64 A, .int .i64 B, .int .i64 C, .int .i64 D, .int .i64 K] 23)).alloc (.cells #[.int .i64 a, .int .i64 b, .int .i64 c, .int .i64 d, .int .i64 k] 23)) 0 0 0 0 0 23
    simp only [World.size_alloc] at h
    exact h.below hb (by simp)
  have hw1 : Below w.heap.size w w1 := (by repeat (first | with_reducible exact Below.refl _ _ | with_reducible refine below_al ?_ _ | with_reducible refine below_dN ?_ _ | with_reducible refine Below.drew ?_ | (with_reducible refine Below.setCell ?_ (by simp <;> omega) _) | (with_reducible refine below_via (by assumption) ?_)))
  have bx : Box w1 w.heap.size 23 ⟨A, B, C, D, K⟩ := by
    have h := box_new w A B C D K 23
    first | exact h.below hb (by simp <;> omega) | exact (box_al h _).below hb (by simp <;> omega) | exact (box_al (box_al h _) _).below hb (by simp <;> omega) | exact (box_al (box_al (box_al h _) _) _).below hb (by simp <;> omega)
  have by_ : Box w1 (w.heap.size + 1) 23 ⟨a, b, c, d, k⟩ := by
    have h := box_new (w.alloc (.cells #[.int .i64 A, .int .i64 B, .int .i64 C, .int .i64 D, .int .i64 K] 23)) a b c d k 23
    simp only [World.size_alloc] at h
    first | exact h.below hb (by simp <;> omega) | exact (box_al h _).below hb (by simp <;> omega) | exact (box_al (box_al h _) _).below hb (by simp <;> omega) | exact (box_al (box_al (box_al h _) _) _).below hb (by simp <;> omega)
  obtain ⟨c0, c1, c2, c3, c4⟩ := bx.cell
  obtain ⟨d0, d1, d2, d3, d4⟩ := by_.cell
  have hlt := by_.lt
  have hlt0 := bx.lt
  have HBX := Lib.hid bx
  have HBY := Lib.hid by_
  clear bx by_
  dsimp only at c0 c1 c2 c3 c4 d0 d1 d2 d3 d4
  have hlt2 := b2.lt
  obtain ⟨z0, z1, z2, z3, z4⟩ := b2.cell
  obtain ⟨f0, f1, f2, f3, f4⟩ := b2.free
  dsimp only at z0 z1 z2 z3 z4
  clear b2
  go_upto_region 4 with fail
  go_cut [7, 8] (fun p q wx => PQ r s w1 p q wx)
  case first =>
    go_region_held3 (fun w' => Below w1.heap.size w1 w' ∧ (∀ b o, b < w1.heap.size → w'.cell? ⟨b, o, none⟩ = w1.cell? ⟨b, o, none⟩)) ((exact (fun h => ⟨h, (bcell h).1⟩) (by repeat (first | with_reducible exact Below.refl _ _ | with_reducible refine below_al ?_ _ | with_reducible refine below_dN ?_ _ | with_reducible refine Below.drew ?_ | (with_reducible refine Below.setCell ?_ (by simp <;> omega) _) | (with_reducible refine below_via (by assumption) ?_))))) (first | (go_at_call 16; (with_reducible refine (HL1.out _).mono ?_); rintro e w2 ⟨rfl, hb2⟩; (try replace hb2 := below_undrew hb2); obtain ⟨hc2, hf2⟩ := bcell hb2; have hz2 := hb2.size; (try simp at hz2); have hz20 : w.heap.size < w2.heap.size := (by omega); have hz21 : w.heap.size + 1 < w2.heap.size := (by omega); (try have hz2a : w1.heap.size < w2.heap.size := (by omega)); (try have hz2b : w1.heap.size + 1 < w2.heap.size := (by omega))) | (go_at_call 16; (with_reducible refine (HL2.out _).mono ?_); rintro e w3 ⟨rfl, hb3⟩; (try replace hb3 := below_undrew hb3); obtain ⟨hc3, hf3⟩ := bcell hb3; have hz3 := hb3.size; (try simp at hz3); (try have hz3a : w1.heap.size < w3.heap.size := (by omega)); (try have hz3b : w1.heap.size + 1 < w3.heap.size := (by omega)); (try have hz3c : w2.heap.size < w3.heap.size := (by omega)); (try have hz3d : w2.heap.size + 1 < w3.heap.size := (by omega))))
    all_goals
      go_wp2_with fail
      go_meet
      refine ⟨_, _, rfl, rfl, ⟨?_, ?_, ?_, ?_, ?_⟩, ⟨?_, ?_, ?_, ?_, ?_⟩, ?_, ?_, (by repeat (first | with_reducible exact Below.refl _ _ | with_reducible refine below_al ?_ _ | with_reducible refine below_dN ?_ _ | with_reducible refine Below.drew ?_ | (with_reducible refine Below.setCell ?_ (by simp <;> omega) _) | (with_reducible refine below_via (by assumption) ?_)))⟩
    all_goals (try go_simp)
    all_goals (first | omega | (refine World.cell?_setCell_same' _ _ _ ?_; go_simp))
  case rest =>
    obtain ⟨bp, bq, rfl, rfl, ⟨p0, p1, p2, p3, p4⟩, ⟨q0, q1, q2, q3, q4⟩, hbp, hbq, hbx⟩ := hcut
    obtain ⟨hcx, hfx⟩ := bcell hbx
    have hzx := hbx.size
    have hx0 : w.heap.size < wc.heap.size := by omega
    have hx1 : w.heap.size + 1 < wc.heap.size := by omega
    have hx2 : w.heap.size + 1 + 1 < wc.heap.size := by omega
    go_wp2_with fail
    refine (HI1.out _).mono ?_
    rintro e w4 ⟨rfl, hb4⟩
    obtain ⟨hc4, hf4⟩ := bcell hb4
    have hz40 : w.heap.size < w4.heap.size := by have := hb4.size; omega
    have hz41 : w.heap.size + 1 < w4.heap.size := by have := hb4.size; omega
    have hz42 : w.heap.size + 1 + 1 < w4.heap.size := by have := hb4.size; omega
    have hz43 : bq < w4.heap.size := by have := hb4.size; omega
    have hz44 : bp < w4.heap.size := by have := hb4.size; omega
    go_wp2_with fail
    refine (HI2.out _).mono ?_
    rintro e w5 ⟨rfl, hb5⟩
    obtain ⟨hc5, hf5⟩ := bcell hb5
    have hz50 : w.heap.size < w5.heap.size := by have := hb5.size; omega
    have hz51 : w.heap.size + 1 < w5.heap.size := by have := hb5.size; omega
    have hz52 : w.heap.size + 1 + 1 < w5.heap.size := by have := hb5.size; omega
    go_wp2
    exact bodyPost_ret (v := .tuple #[nul.v, .int .i64 8]) (by simp [results, Tryz.results36, go_sem, hcx, hx0, hx1, hx2, hlt2, z0, z1, z2, z3, z4, hc4, hc5, hz42, hz52]) rfl ⟨rfl, (by repeat (first | with_reducible exact Below.refl _ _ | with_reducible refine below_al ?_ _ | with_reducible refine below_dN ?_ _ | with_reducible refine Below.drew ?_ | (with_reducible refine Below.setCell ?_ (by simp <;> omega) _) | (with_reducible refine below_via (by assumption) ?_)))⟩

set_option maxHeartbeats 8000000 in
theorem Divide_none (A B C D K a b c d k : Int) (r s z y : Nm) (q : Int) (w : World) (HC : Hid (∀ w, Calls Tryz.prog 78 #[nv A B C D K, nv a b c d k] w (Gives (.int .i64 0) w)))
    (HL1 : Hid (∀ w, Calls Tryz.prog 16 #[nv A B C D K] w (Gives r.v w))) (HL2 : Hid (∀ w, Calls Tryz.prog 16 #[nv a b c d k] w (Gives s.v w)))
    (HI1 : Hid (∀ w, Calls Tryz.prog 58 #[nv r.A r.B r.C r.D r.K, .int .i64 4096] w (Gives (.bool true) w))) (HI2 : Hid (∀ w, Calls Tryz.prog 58 #[nv s.A s.B s.C s.D s.K, .int .i64 4096] w (Gives (.bool true) w))) (HB : Hid (∀ w, Calls Tryz.prog 81 #[nv r.A r.B r.C r.D r.K, nv s.A s.B s.C s.D s.K] w (Gives (.tuple #[nul.v, .bool false]) w))) :
    Calls Tryz.prog 36 #[nv A B C D K, nv a b c d k] w (Gives (.tuple #[nul.v, .int .i64 6]) w) := by
  go_enter Tryz.func36, Tryz.ntmps36
  go_wp2_with fail
  refine (HC.out _).mono ?_
  rintro e w1 ⟨rfl, hb⟩
  have b2 : Box w1 (w.heap.size + 1 + 1) 23 nul := by
    have h := box_new ((w.alloc (.cells #[.int .i64 A, .int .i64 B, .int .i64 C, .int .i64 D, .int .i64 K] 23)).alloc (.cells #[.int .i64 a, .int .i64 b, .int .i64 c, .int .i64 d, .int .i64 k] 23)) 0 0 0 0 0 23
    simp only [World.size_alloc] at h
    exact h.below hb (by simp)
  have hw1 : Below w.heap.size w w1 := (by repeat (first | with_reducible exact Below.refl _ _ | with_reducible refine below_al ?_ _ | with_reducible refine below_dN ?_ _ | with_reducible refine Below.drew ?_ | (with_reducible refine Below.setCell ?_ (by simp <;> omega) _) | (with_reducible refine below_via (by assumption) ?_)))
  have bx : Box w1 w.heap.size 23 ⟨A, B, C, D, K⟩ := by
    have h := box_new w A B C D K 23
    first | exact h.below hb (by simp <;> omega) | exact (box_al h _).below hb (by simp <;> omega) | exact (box_al (box_al h _) _).below hb (by simp <;> omega) | exact (box_al (box_al (box_al h _) _) _).below hb (by simp <;> omega)
  have by_ : Box w1 (w.heap.size + 1) 23 ⟨a, b, c, d, k⟩ := by
    have h := box_new (w.alloc (.cells #[.int .i64 A, .int .i64 B, .int .i64 C, .int .i64 D, .int .i64 K] 23)) a b c d k 23
    simp only [World.size_alloc] at h
    first | exact h.below hb (by simp <;> omega) | exact (box_al h _).below hb (by simp <;> omega) | exact (box_al (box_al h _) _).below hb (by simp <;> omega) | exact (box_al (box_al (box_al h _) _) _).below hb (by simp <;> omega)
  obtain ⟨c0, c1, c2, c3, c4⟩ := bx.cell
  obtain ⟨d0, d1, d2, d3, d4⟩ := by_.cell
  have hlt := by_.lt
  have hlt0 := bx.lt
  have HBX := Lib.hid bx
  have HBY := Lib.hid by_
  clear bx by_
  dsimp only at c0 c1 c2 c3 c4 d0 d1 d2 d3 d4
  have hlt2 := b2.lt
  obtain ⟨z0, z1, z2, z3, z4⟩ := b2.cell
  obtain ⟨f0, f1, f2, f3, f4⟩ := b2.free
  dsimp only at z0 z1 z2 z3 z4
  clear b2
  go_upto_region 4 with fail
  go_cut [7, 8] (fun p q wx => PQ r s w1 p q wx)
  case first =>
    go_region_held3 (fun w' => Below w1.heap.size w1 w' ∧ (∀ b o, b < w1.heap.size → w'.cell? ⟨b, o, none⟩ = w1.cell? ⟨b, o, none⟩)) ((exact (fun h => ⟨h, (bcell h).1⟩) (by repeat (first | with_reducible exact Below.refl _ _ | with_reducible refine below_al ?_ _ | with_reducible refine below_dN ?_ _ | with_reducible refine Below.drew ?_ | (with_reducible refine Below.setCell ?_ (by simp <;> omega) _) | (with_reducible refine below_via (by assumption) ?_))))) (first | (go_at_call 16; (with_reducible refine (HL1.out _).mono ?_); rintro e w2 ⟨rfl, hb2⟩; (try replace hb2 := below_undrew hb2); obtain ⟨hc2, hf2⟩ := bcell hb2; have hz2 := hb2.size; (try simp at hz2); have hz20 : w.heap.size < w2.heap.size := (by omega); have hz21 : w.heap.size + 1 < w2.heap.size := (by omega); (try have hz2a : w1.heap.size < w2.heap.size := (by omega)); (try have hz2b : w1.heap.size + 1 < w2.heap.size := (by omega))) | (go_at_call 16; (with_reducible refine (HL2.out _).mono ?_); rintro e w3 ⟨rfl, hb3⟩; (try replace hb3 := below_undrew hb3); obtain ⟨hc3, hf3⟩ := bcell hb3; have hz3 := hb3.size; (try simp at hz3); (try have hz3a : w1.heap.size < w3.heap.size := (by omega)); (try have hz3b : w1.heap.size + 1 < w3.heap.size := (by omega)); (try have hz3c : w2.heap.size < w3.heap.size := (by omega)); (try have hz3d : w2.heap.size + 1 < w3.heap.size := (by omega))))
    all_goals
      go_wp2_with fail
      go_meet
      refine ⟨_, _, rfl, rfl, ⟨?_, ?_, ?_, ?_, ?_⟩, ⟨?_, ?_, ?_, ?_, ?_⟩, ?_, ?_, (by repeat (first | with_reducible exact Below.refl _ _ | with_reducible refine below_al ?_ _ | with_reducible refine below_dN ?_ _ | with_reducible refine Below.drew ?_ | (with_reducible refine Below.setCell ?_ (by simp <;> omega) _) | (with_reducible refine below_via (by assumption) ?_)))⟩
    all_goals (try go_simp)
    all_goals (first | omega | (refine World.cell?_setCell_same' _ _ _ ?_; go_simp))
  case rest =>
    obtain ⟨bp, bq, rfl, rfl, ⟨p0, p1, p2, p3, p4⟩, ⟨q0, q1, q2, q3, q4⟩, hbp, hbq, hbx⟩ := hcut
    obtain ⟨hcx, hfx⟩ := bcell hbx
    have hzx := hbx.size
    have hx0 : w.heap.size < wc.heap.size := by omega
    have hx1 : w.heap.size + 1 < wc.heap.size := by omega
    have hx2 : w.heap.size + 1 + 1 < wc.heap.size := by omega
    go_wp2_with fail
    refine (HI1.out _).mono ?_
    rintro e w4 ⟨rfl, hb4⟩
    obtain ⟨hc4, hf4⟩ := bcell hb4
    have hz40 : w.heap.size < w4.heap.size := by have := hb4.size; omega
    have hz41 : w.heap.size + 1 < w4.heap.size := by have := hb4.size; omega
    have hz42 : w.heap.size + 1 + 1 < w4.heap.size := by have := hb4.size; omega
    have hz43 : bq < w4.heap.size := by have := hb4.size; omega
    have hz44 : bp < w4.heap.size := by have := hb4.size; omega
    go_wp2_with fail
    refine (HI2.out _).mono ?_
    rintro e w5 ⟨rfl, hb5⟩
    obtain ⟨hc5, hf5⟩ := bcell hb5
    have hz50 : w.heap.size < w5.heap.size := by have := hb5.size; omega
    have hz51 : w.heap.size + 1 < w5.heap.size := by have := hb5.size; omega
    have hz52 : w.heap.size + 1 + 1 < w5.heap.size := by have := hb5.size; omega
    go_wp2_with fail
    refine (HB.out _).mono ?_
    rintro e w6 ⟨rfl, hb6⟩
    obtain ⟨hc6, hf6⟩ := bcell hb6
    have hz60 : w.heap.size < w6.heap.size := by have := hb6.size; omega
    have hz61 : w.heap.size + 1 < w6.heap.size := by have := hb6.size; omega
    have hz62 : w.heap.size + 1 + 1 < w6.heap.size := by have := hb6.size; omega
    dsimp only [Nm.v, nv]
    go_wp2
    exact bodyPost_ret (v := .tuple #[nul.v, .int .i64 6]) (by simp [results, Tryz.results36, go_sem, hcx, hx0, hx1, hx2, hlt2, z0, z1, z2, z3, z4, hc4, hc5, hc6, hz42, hz52, hz62, hz51, hz61]) rfl ⟨rfl, (by repeat (first | with_reducible exact Below.refl _ _ | with_reducible refine below_al ?_ _ | with_reducible refine below_dN ?_ _ | with_reducible refine Below.drew ?_ | (with_reducible refine Below.setCell ?_ (by simp <;> omega) _) | (with_reducible refine below_via (by assumption) ?_)))⟩

set_option maxHeartbeats 8000000 in
theorem Divide_ok (A B C D K a b c d k : Int) (r s z y : Nm) (q : Int) (w : World) (HC : Hid (∀ w, Calls Tryz.prog 78 #[nv A B C D K, nv a b c d k] w (Gives (.int .i64 0) w)))
    (HL1 : Hid (∀ w, Calls Tryz.prog 16 #[nv A B C D K] w (Gives r.v w))) (HL2 : Hid (∀ w, Calls Tryz.prog 16 #[nv a b c d k] w (Gives s.v w)))
    (HI1 : Hid (∀ w, Calls Tryz.prog 58 #[nv r.A r.B r.C r.D r.K, .int .i64 4096] w (Gives (.bool true) w))) (HI2 : Hid (∀ w, Calls Tryz.prog 58 #[nv s.A s.B s.C s.D s.K, .int .i64 4096] w (Gives (.bool true) w))) (HB : Hid (∀ w, Calls Tryz.prog 81 #[nv r.A r.B r.C r.D r.K, nv s.A s.B s.C s.D s.K] w (Gives (.tuple #[z.v, .bool true]) w))) (HS : Hid (∀ w, Calls Tryz.prog 82 #[nv z.A z.B z.C z.D z.K] w (Gives (.tuple #[y.v, .int .i64 q]) w))) :
    Calls Tryz.prog 36 #[nv A B C D K, nv a b c d k] w (Gives (.tuple #[y.v, .int .i64 q]) w) := by
  go_enter Tryz.func36, Tryz.ntmps36
  go_wp2_with fail
  refine (HC.out _).mono ?_
  rintro e w1 ⟨rfl, hb⟩
  have b2 : Box w1 (w.heap.size + 1 + 1) 23 nul := by
    have h := box_new ((w.alloc (.cells #[.int .i64 A, .int .i64 B, .int .i64 C, .int .i64 D, .int .i64 K] 23)).alloc (.cells #[.int .i64 a, .int .i64 b, .int .i64 c, .int .i64 d, .int .i64 k] 23)) 0 0 0 0 0 23
    simp only [World.size_alloc] at h
    exact h.below hb (by simp)
  have hw1 : Below w.heap.size w w1 := (by repeat (first | with_reducible exact Below.refl _ _ | with_reducible refine below_al ?_ _ | with_reducible refine below_dN ?_ _ | with_reducible refine Below.drew ?_ | (with_reducible refine Below.setCell ?_ (by simp <;> omega) _) | (with_reducible refine below_via (by assumption) ?_)))
  have bx : Box w1 w.heap.size 23 ⟨A, B, C, D, K⟩ := by
    have h := box_new w A B C D K 23
    first | exact h.below hb (by simp <;> omega) | exact (box_al h _).below hb (by simp <;> omega) | exact (box_al (box_al h _) _).below hb (by simp <;> omega) | exact (box_al (box_al (box_al h _) _) _).below hb (by simp <;> omega)
  have by_ : Box w1 (w.heap.size + 1) 23 ⟨a, b, c, d, k⟩ := by
    have h := box_new (w.alloc (.cells #[.int .i64 A, .int .i64 B, .int .i64 C, .int .i64 D, .int .i64 K] 23)) a b c d k 23
    simp only [World.size_alloc] at h
    first | exact h.below hb (by simp <;> omega) | exact (box_al h _).below hb (by simp <;> omega) | exact (box_al (box_al h _) _).below hb (by simp <;> omega) | exact (box_al (box_al (box_al h _) _) _).below hb (by simp <;> omega)
  obtain ⟨c0, c1, c2, c3, c4⟩ := bx.cell
  obtain ⟨d0, d1, d2, d3, d4⟩ := by_.cell
  have hlt := by_.lt
  have hlt0 := bx.lt
  have HBX := Lib.hid bx
  have HBY := Lib.hid by_
  clear bx by_
  dsimp only at c0 c1 c2 c3 c4 d0 d1 d2 d3 d4
  have hlt2 := b2.lt
  obtain ⟨z0, z1, z2, z3, z4⟩ := b2.cell
  obtain ⟨f0, f1, f2, f3, f4⟩ := b2.free
  dsimp only at z0 z1 z2 z3 z4
  clear b2
  go_upto_region 4 with fail
  go_cut [7, 8] (fun p q wx => PQ r s w1 p q wx)
  case first =>
    go_region_held3 (fun w' => Below w1.heap.size w1 w' ∧ (∀ b o, b < w1.heap.size → w'.cell? ⟨b, o, none⟩ = w1.cell? ⟨b, o, none⟩)) ((exact (fun h => ⟨h, (bcell h).1⟩) (by repeat (first | with_reducible exact Below.refl _ _ | with_reducible refine below_al ?_ _ | with_reducible refine below_dN ?_ _ | with_reducible refine Below.drew ?_ | (with_reducible refine Below.setCell ?_ (by simp <;> omega) _) | (with_reducible refine below_via (by assumption) ?_))))) (first | (go_at_call 16; (with_reducible refine (HL1.out _).mono ?_); rintro e w2 ⟨rfl, hb2⟩; (try replace hb2 := below_undrew hb2); obtain ⟨hc2, hf2⟩ := bcell hb2; have hz2 := hb2.size; (try simp at hz2); have hz20 : w.heap.size < w2.heap.size := (by omega); have hz21 : w.heap.size + 1 < w2.heap.size := (by omega); (try have hz2a : w1.heap.size < w2.heap.size := (by omega)); (try have hz2b : w1.heap.size + 1 < w2.heap.size := (by omega))) | (go_at_call 16; (with_reducible refine (HL2.out _).mono ?_); rintro e w3 ⟨rfl, hb3⟩; (try replace hb3 := below_undrew hb3); obtain ⟨hc3, hf3⟩ := bcell hb3; have hz3 := hb3.size; (try simp at hz3); (try have hz3a : w1.heap.size < w3.heap.size := (by omega)); (try have hz3b : w1.heap.size + 1 < w3.heap.size := (by omega)); (try have hz3c : w2.heap.size < w3.heap.size := (by omega)); (try have hz3d : w2.heap.size + 1 < w3.heap.size := (by omega))))
    all_goals
      go_wp2_with fail
      go_meet
      refine ⟨_, _, rfl, rfl, ⟨?_, ?_, ?_, ?_, ?_⟩, ⟨?_, ?_, ?_, ?_, ?_⟩, ?_, ?_, (by repeat (first | with_reducible exact Below.refl _ _ | with_reducible refine below_al ?_ _ | with_reducible refine below_dN ?_ _ | with_reducible refine Below.drew ?_ | (with_reducible refine Below.setCell ?_ (by simp <;> omega) _) | (with_reducible refine below_via (by assumption) ?_)))⟩
    all_goals (try go_simp)
    all_goals (first | omega | (refine World.cell?_setCell_same' _ _ _ ?_; go_simp))
  case rest =>
    obtain ⟨bp, bq, rfl, rfl, ⟨p0, p1, p2, p3, p4⟩, ⟨q0, q1, q2, q3, q4⟩, hbp, hbq, hbx⟩ := hcut
    obtain ⟨hcx, hfx⟩ := bcell hbx
    have hzx := hbx.size
    have hx0 : w.heap.size < wc.heap.size := by omega
    have hx1 : w.heap.size + 1 < wc.heap.size := by omega
    have hx2 : w.heap.size + 1 + 1 < wc.heap.size := by omega
    go_wp2_with fail
    refine (HI1.out _).mono ?_
    rintro e w4 ⟨rfl, hb4⟩
    obtain ⟨hc4, hf4⟩ := bcell hb4
    have hz40 : w.heap.size < w4.heap.size := by have := hb4.size; omega
    have hz41 : w.heap.size + 1 < w4.heap.size := by have := hb4.size; omega
    have hz42 : w.heap.size + 1 + 1 < w4.heap.size := by have := hb4.size; omega
    have hz43 : bq < w4.heap.size := by have := hb4.size; omega
    have hz44 : bp < w4.heap.size := by have := hb4.size; omega
    go_wp2_with fail
    refine (HI2.out _).mono ?_
    rintro e w5 ⟨rfl, hb5⟩
    obtain ⟨hc5, hf5⟩ := bcell hb5
    have hz50 : w.heap.size < w5.heap.size := by have := hb5.size; omega
    have hz51 : w.heap.size + 1 < w5.heap.size := by have := hb5.size; omega
    have hz52 : w.heap.size + 1 + 1 < w5.heap.size := by have := hb5.size; omega
    go_wp2_with fail
    refine (HB.out _).mono ?_
    rintro e w6 ⟨rfl, hb6⟩
    obtain ⟨hc6, hf6⟩ := bcell hb6
    have hz60 : w.heap.size < w6.heap.size := by have := hb6.size; omega
    have hz61 : w.heap.size + 1 < w6.heap.size := by have := hb6.size; omega
    have hz62 : w.heap.size + 1 + 1 < w6.heap.size := by have := hb6.size; omega
    dsimp only [Nm.v, nv]
    go_wp2_with fail
    refine (HS.out _).mono ?_
    rintro e w7 ⟨rfl, hb7⟩
    obtain ⟨hc7, hf7⟩ := bcell hb7
    have hz70 : w.heap.size + 1 + 1 < w7.heap.size := by have := hb7.size; simp at this; omega
    go_wp2
    exact bodyPost_ret (v := .tuple #[y.v, .int .i64 q]) (by simp [results, Tryz.results36, go_sem, hcx, hx0, hx1, hx2, hlt2, z0, z1, z2, z3, z4, hc4, hc5, hc6, hc7, hz42, hz52, hz62, hz51, hz61, hz70]) rfl ⟨rfl, (by repeat (first | with_reducible exact Below.refl _ _ | with_reducible refine below_al ?_ _ | with_reducible refine below_dN ?_ _ | with_reducible refine Below.drew ?_ | (with_reducible refine Below.setCell ?_ (by simp <;> omega) _) | (with_reducible refine below_via (by assumption) ?_)))⟩

end Go.Proofs.YtcdmcndjbajhlaaGreatDoor
