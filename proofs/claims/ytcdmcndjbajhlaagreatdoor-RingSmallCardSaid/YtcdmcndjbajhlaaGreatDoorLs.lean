
/- Contracts of package ring: minus, Sub (by way of lift), real, below0. -/
import Derived.Test.YtcdmcndjbajhlaaGreatDoorJp
set_option linter.all false
set_option maxRecDepth 100000
namespace Go.Proofs.YtcdmcndjbajhlaaGreatDoor
open Go.RowKit
attribute [local go_sem] run_eql_arr4 run_field_num

theorem ent_plus : Enters 89 := enters_of (by kernel_rfl)
theorem ent_minus : Enters 90 := enters_of (by kernel_rfl)

set_option maxHeartbeats 4000000 in
theorem minus_core (A B C D K a b c d k : Int) (r : Nm) (w : World) (hy : Nm.wide ⟨a, b, c, d, k⟩)
    (HP : Hid (∀ w, Calls Tryz.prog 89 #[nv A B C D K, nv (-a) (-b) (-c) (-d) k] w (Gives r.v w))) :
    Calls Tryz.prog 90 #[nv A B C D K, nv a b c d k] w (Gives r.v w) := by
  have HN : Hid (∀ w, Calls Tryz.prog 92 #[nv a b c d k] w (Gives (nv (-a) (-b) (-c) (-d) k) w)) := fun w => negative_any a b c d k w hy.1 hy.2.1 hy.2.2.1 hy.2.2.2
  clear hy
  go_enter Tryz.func90, Tryz.ntmps90
  go_wp2_with fail
  obtain ⟨W, hW⟩ : ∃ W, ((w.alloc (.cells #[.int .i64 A, .int .i64 B, .int .i64 C, .int .i64 D, .int .i64 K] 40)).alloc (.cells #[.int .i64 a, .int .i64 b, .int .i64 c, .int .i64 d, .int .i64 k] 40)).alloc (.cells #[.int .i64 0, .int .i64 0, .int .i64 0, .int .i64 0, .int .i64 0] 40) = W := ⟨_, rfl⟩
  have b0 : Box W w.heap.size 40 ⟨A, B, C, D, K⟩ := by rw [← hW]; exact box_al (box_al (box_new w _ _ _ _ _ _) _) _
  have b1 : Box W (w.heap.size + 1) 40 ⟨a, b, c, d, k⟩ := by
    rw [← hW]
    have h := box_new (w.alloc (.cells #[.int .i64 A, .int .i64 B, .int .i64 C, .int .i64 D, .int .i64 K] 40)) a b c d k 40
    simp only [World.size_alloc] at h
    exact box_al h _
  have b2 : Box W (w.heap.size + 1 + 1) 40 nul := by
    rw [← hW]
    have h := box_new ((w.alloc (.cells #[.int .i64 A, .int .i64 B, .int .i64 C, .int .i64 D, .int .i64 K] 40)).alloc (.cells #[.int .i64 a, .int .i64 b, .int .i64 c, .int .i64 d, .int .i64 k] 40)) 0 0 0 0 0 40
    simp only [World.size_alloc] at h
    exact h
  have hbW : Below w.heap.size w W := by rw [← hW]; exact (by repeat (first | with_reducible exact Below.refl _ _ | with_reducible refine below_al ?_ _ | with_reducible refine below_dN ?_ _ | with_reducible refine Below.drew ?_ | (with_reducible refine Below.setCell ?_ (by simp <;> omega) _) | (with_reducible refine below_via (by assumption) ?_)))
  rw [hW]
  clear hW
  have hlt2 := b2.lt
  have hlt1 := b1.lt
  have hlt0 := b0.lt
  obtain ⟨c0, c1, c2, c3, c4⟩ := b0.cell
  obtain ⟨d0, d1, d2, d3, d4⟩ := b1.cell
  obtain ⟨z0, z1, z2, z3, z4⟩ := b2.cell
  obtain ⟨f0, f1, f2, f3, f4⟩ := b2.free
  have HB2 := Lib.hid b2
  dsimp only at c0 c1 c2 c3 c4 d0 d1 d2 d3 d4 z0 z1 z2 z3 z4
  clear b0 b1 b2
  have hne1 : ¬ w.heap.size = w.heap.size + 1 + 1 := by omega
  have hne2 : ¬ w.heap.size + 1 + 1 = w.heap.size := by omega
  go_region_held3 (fun w' => w'.cell? ⟨w.heap.size, 0, none⟩ = some (.int .i64 A) ∧ w'.cell? ⟨w.heap.size, 1, none⟩ = some (.int .i64 B) ∧ w'.cell? ⟨w.heap.size, 2, none⟩ = some (.int .i64 C) ∧ w'.cell? ⟨w.heap.size, 3, none⟩ = some (.int .i64 D) ∧ w'.cell? ⟨w.heap.size, 4, none⟩ = some (.int .i64 K) ∧ w'.cell? ⟨w.heap.size + 1, 0, none⟩ = some (.int .i64 a) ∧ w'.cell? ⟨w.heap.size + 1, 1, none⟩ = some (.int .i64 b) ∧ w'.cell? ⟨w.heap.size + 1, 2, none⟩ = some (.int .i64 c) ∧ w'.cell? ⟨w.heap.size + 1, 3, none⟩ = some (.int .i64 d) ∧ w'.cell? ⟨w.heap.size + 1, 4, none⟩ = some (.int .i64 k)) (go_keep) (first | (go_at_call 92; (with_reducible refine (HN.out _).mono ?_); rintro e w2 ⟨rfl, hb2⟩; (try replace hb2 := below_undrew hb2); obtain ⟨hc2, hf2⟩ := bcell hb2; have hz2 := hb2.size; (try simp at hz2); (try have hz2a : w.heap.size < w2.heap.size := (by omega)); (try have hz2b : w.heap.size + 1 < w2.heap.size := (by omega)); (try have hz2c : w.heap.size + 1 + 1 < w2.heap.size := (by omega))) | (go_at_call 89; (with_reducible refine (HP.out _).mono ?_); rintro e w3 ⟨rfl, hb3⟩; (try replace hb3 := below_undrew hb3); obtain ⟨hc3, hf3⟩ := bcell hb3; have hz3 := hb3.size; (try simp at hz3)))
  all_goals
    go_wp2
    exact bodyPost_ret (v := r.v) (by simp [results, Tryz.results90, go_sem, hc3, hc2, hlt2, hz2c, z0, z1, z2, z3, z4]) rfl ⟨rfl, (by repeat (first | with_reducible exact Below.refl _ _ | with_reducible refine below_al ?_ _ | with_reducible refine below_dN ?_ _ | with_reducible refine Below.drew ?_ | (with_reducible refine Below.setCell ?_ (by simp <;> omega) _) | (with_reducible refine below_via (by assumption) ?_)))⟩

theorem real_core (A B C D K : Int) (w : World) (hx : Nm.wide ⟨A, B, C, D, K⟩) :
    Calls Tryz.prog 79 #[nv A B C D K] w (Gives (.bool (eq4 A B C D A (-D) (-C) (-B))) w) := by
  have HN : Hid (∀ w, Calls Tryz.prog 93 #[nv A B C D K] w (Gives (nv A (-D) (-C) (-B) K) w)) := fun w => conjugate_any A B C D K w hx.2.1 hx.2.2.1 hx.2.2.2
  clear hx
  go_enter Tryz.func79, Tryz.ntmps79
  go_wp2_with fail
  obtain ⟨W, hW⟩ : ∃ W, w.alloc (.cells #[.int .i64 A, .int .i64 B, .int .i64 C, .int .i64 D, .int .i64 K] 40) = W := ⟨_, rfl⟩
  have bx : Box W w.heap.size 40 ⟨A, B, C, D, K⟩ := by rw [← hW]; exact box_new _ _ _ _ _ _ _
  have hbW : Below w.heap.size w W := by rw [← hW]; exact (by repeat (first | with_reducible exact Below.refl _ _ | with_reducible refine below_al ?_ _ | with_reducible refine below_dN ?_ _ | with_reducible refine Below.drew ?_ | (with_reducible refine Below.setCell ?_ (by simp <;> omega) _) | (with_reducible refine below_via (by assumption) ?_)))
  rw [hW]
  clear hW
  have hlt := bx.lt
  obtain ⟨c0, c1, c2, c3, c4⟩ := bx.cell
  dsimp only at c0 c1 c2 c3 c4
  clear bx
  go_region_held3 (fun w' => Below W.heap.size W w' ∧ (∀ b o, b < W.heap.size → w'.cell? ⟨b, o, none⟩ = W.cell? ⟨b, o, none⟩)) ((exact (fun h => ⟨h, (bcell h).1⟩) (by repeat (first | with_reducible exact Below.refl _ _ | with_reducible refine below_al ?_ _ | with_reducible refine below_dN ?_ _ | with_reducible refine Below.drew ?_ | (with_reducible refine Below.setCell ?_ (by simp <;> omega) _) | (with_reducible refine below_via (by assumption) ?_))))) (first | (go_at_call 18; refine (coefs_any _ _ _ _ _ _).mono ?_; rintro e w2 ⟨rfl, hb2⟩; (try replace hb2 := below_undrew hb2); obtain ⟨hc2, hf2⟩ := bcell hb2; have hz2 := hb2.size; (try simp at hz2); (try have hz2a : w.heap.size < w2.heap.size := (by omega))) | (go_at_call 93; (with_reducible refine (HN.out _).mono ?_); rintro e w2 ⟨rfl, hb2⟩; (try replace hb2 := below_undrew hb2); obtain ⟨hc2, hf2⟩ := bcell hb2; have hz2 := hb2.size; (try simp at hz2); (try have hz2a : w.heap.size < w2.heap.size := (by omega))))
  all_goals
    go_wp2
    go_ret
    exact ⟨rfl, (by repeat (first | with_reducible exact Below.refl _ _ | with_reducible refine below_al ?_ _ | with_reducible refine below_dN ?_ _ | with_reducible refine Below.drew ?_ | (with_reducible refine Below.setCell ?_ (by simp <;> omega) _) | (with_reducible refine below_via (by assumption) ?_)))⟩

def below0N (a b : Int) : Bool := if a < 0 ∧ 0 < b then decide (2 * b * b < a * a) else if 0 < a ∧ b < 0 then decide (a * a < 2 * b * b) else decide (a < 0 ∨ b < 0)

set_option maxHeartbeats 4000000 in
theorem below0_nn (a b : Int) (w : World) (ha1 : -1073741824 ≤ a) (ha2 : a ≤ 1073741824) (hb1 : -1073741824 ≤ b) (hb2 : b ≤ 1073741824) (p11 : 0 ≤ a * a) (p12 : a * a ≤ 1152921504606846976) (p31 : 0 ≤ 2 * b * b) (p32 : 2 * b * b ≤ 2305843009213693952) (h1 : a < 0) (h2 : b ≤ 0) :
    Calls Tryz.prog 80 #[.int .i64 a, .int .i64 b] w (Gives (.bool (true)) w) := by
  go_enter Tryz.func80, Tryz.ntmps80
  go_wp2
  all_goals
    go_ret
    refine ⟨?_, (by repeat (first | with_reducible exact Below.refl _ _ | with_reducible refine below_al ?_ _ | with_reducible refine below_dN ?_ _ | with_reducible refine Below.drew ?_ | (with_reducible refine Below.setCell ?_ (by simp <;> omega) _) | (with_reducible refine below_via (by assumption) ?_)))⟩
    first | rfl | exact congrArg (fun x => Ending.returned (.bool x)) (decide_eq_false (by omega))
set_option maxHeartbeats 4000000 in
theorem below0_np (a b : Int) (w : World) (ha1 : -1073741824 ≤ a) (ha2 : a ≤ 1073741824) (hb1 : -1073741824 ≤ b) (hb2 : b ≤ 1073741824) (p11 : 0 ≤ a * a) (p12 : a * a ≤ 1152921504606846976) (p31 : 0 ≤ 2 * b * b) (p32 : 2 * b * b ≤ 2305843009213693952) (h1 : a < 0) (h2 : 0 < b) :
    Calls Tryz.prog 80 #[.int .i64 a, .int .i64 b] w (Gives (.bool (decide (2 * b * b < a * a))) w) := by
  go_enter Tryz.func80, Tryz.ntmps80
  go_wp2
  all_goals
    go_ret
    refine ⟨?_, (by repeat (first | with_reducible exact Below.refl _ _ | with_reducible refine below_al ?_ _ | with_reducible refine below_dN ?_ _ | with_reducible refine Below.drew ?_ | (with_reducible refine Below.setCell ?_ (by simp <;> omega) _) | (with_reducible refine below_via (by assumption) ?_)))⟩
    first | rfl | exact congrArg (fun x => Ending.returned (.bool x)) (decide_eq_false (by omega))
set_option maxHeartbeats 4000000 in
theorem below0_pn (a b : Int) (w : World) (ha1 : -1073741824 ≤ a) (ha2 : a ≤ 1073741824) (hb1 : -1073741824 ≤ b) (hb2 : b ≤ 1073741824) (p11 : 0 ≤ a * a) (p12 : a * a ≤ 1152921504606846976) (p31 : 0 ≤ 2 * b * b) (p32 : 2 * b * b ≤ 2305843009213693952) (h1 : 0 < a) (h2 : b < 0) :
    Calls Tryz.prog 80 #[.int .i64 a, .int .i64 b] w (Gives (.bool (decide (a * a < 2 * b * b))) w) := by
  go_enter Tryz.func80, Tryz.ntmps80
  go_wp2
  all_goals
    go_ret
    refine ⟨?_, (by repeat (first | with_reducible exact Below.refl _ _ | with_reducible refine below_al ?_ _ | with_reducible refine below_dN ?_ _ | with_reducible refine Below.drew ?_ | (with_reducible refine Below.setCell ?_ (by simp <;> omega) _) | (with_reducible refine below_via (by assumption) ?_)))⟩
    first | rfl | exact congrArg (fun x => Ending.returned (.bool x)) (decide_eq_false (by omega))
set_option maxHeartbeats 4000000 in
theorem below0_pp (a b : Int) (w : World) (ha1 : -1073741824 ≤ a) (ha2 : a ≤ 1073741824) (hb1 : -1073741824 ≤ b) (hb2 : b ≤ 1073741824) (p11 : 0 ≤ a * a) (p12 : a * a ≤ 1152921504606846976) (p31 : 0 ≤ 2 * b * b) (p32 : 2 * b * b ≤ 2305843009213693952) (h1 : 0 ≤ a) (h2 : 0 ≤ b) :
    Calls Tryz.prog 80 #[.int .i64 a, .int .i64 b] w (Gives (.bool (false)) w) := by
  go_enter Tryz.func80, Tryz.ntmps80
  go_wp2
  all_goals
    go_ret
    refine ⟨?_, (by repeat (first | with_reducible exact Below.refl _ _ | with_reducible refine below_al ?_ _ | with_reducible refine below_dN ?_ _ | with_reducible refine Below.drew ?_ | (with_reducible refine Below.setCell ?_ (by simp <;> omega) _) | (with_reducible refine below_via (by assumption) ?_)))⟩
    first | rfl | exact congrArg (fun x => Ending.returned (.bool x)) (decide_eq_false (by omega))
set_option maxHeartbeats 4000000 in
theorem below0_zn (a b : Int) (w : World) (ha1 : -1073741824 ≤ a) (ha2 : a ≤ 1073741824) (hb1 : -1073741824 ≤ b) (hb2 : b ≤ 1073741824) (p11 : 0 ≤ a * a) (p12 : a * a ≤ 1152921504606846976) (p31 : 0 ≤ 2 * b * b) (p32 : 2 * b * b ≤ 2305843009213693952) (h1 : 0 ≤ a) (h0 : a ≤ 0) (h2 : b < 0) :
    Calls Tryz.prog 80 #[.int .i64 a, .int .i64 b] w (Gives (.bool (true)) w) := by
  go_enter Tryz.func80, Tryz.ntmps80
  go_wp2
  all_goals
    go_ret
    refine ⟨?_, (by repeat (first | with_reducible exact Below.refl _ _ | with_reducible refine below_al ?_ _ | with_reducible refine below_dN ?_ _ | with_reducible refine Below.drew ?_ | (with_reducible refine Below.setCell ?_ (by simp <;> omega) _) | (with_reducible refine below_via (by assumption) ?_)))⟩
    first | rfl | exact congrArg (fun x => Ending.returned (.bool x)) (decide_eq_false (by omega))
theorem below0_any (a b : Int) (w : World) (ha : -1073741824 ≤ a ∧ a ≤ 1073741824) (hb : -1073741824 ≤ b ∧ b ≤ 1073741824) :
    Calls Tryz.prog 80 #[.int .i64 a, .int .i64 b] w (Gives (.bool (below0N a b)) w) := by
  have sq : ∀ x : Int, 0 ≤ x * x := fun x => by
    rcases Int.le_total 0 x with h | h
    · exact Int.mul_nonneg h h
    · exact Int.mul_nonneg_of_nonpos_of_nonpos h h
  have p1 := prod_bd ha ha
  have p2 := prod_bd hb hb
  have e : 2 * b * b = 2 * (b * b) := Int.mul_assoc _ _ _
  have s1 := sq a
  have s2 := sq b
  have p11 : 0 ≤ a * a := s1
  have p12 : a * a ≤ 1152921504606846976 := by omega
  have p31 : 0 ≤ 2 * b * b := by omega
  have p32 : 2 * b * b ≤ 2305843009213693952 := by omega
  clear p1 p2 e s1 s2 sq
  rcases Int.lt_trichotomy a 0 with h1 | h1 | h1
  · by_cases h2 : 0 < b
    · rw [show below0N a b = decide (2 * b * b < a * a) from by unfold below0N; rw [if_pos ⟨h1, h2⟩]]
      exact below0_np a b w ha.1 ha.2 hb.1 hb.2 p11 p12 p31 p32 h1 h2
    · rw [show below0N a b = true from by unfold below0N; rw [if_neg (by omega), if_neg (by omega)]; exact decide_eq_true (.inl h1)]
      exact below0_nn a b w ha.1 ha.2 hb.1 hb.2 p11 p12 p31 p32 h1 (by omega)
  · by_cases h2 : b < 0
    · rw [show below0N a b = true from by unfold below0N; rw [if_neg (by omega), if_neg (by omega)]; exact decide_eq_true (.inr h2)]
      exact below0_zn a b w ha.1 ha.2 hb.1 hb.2 p11 p12 p31 p32 (by omega) (by omega) h2
    · rw [show below0N a b = false from by unfold below0N; rw [if_neg (by omega), if_neg (by omega)]; exact decide_eq_false (by omega)]
      exact below0_pp a b w ha.1 ha.2 hb.1 hb.2 p11 p12 p31 p32 (by omega) (by omega)
  · by_cases h2 : b < 0
    · rw [show below0N a b = decide (a * a < 2 * b * b) from by unfold below0N; rw [if_neg (by omega), if_pos ⟨h1, h2⟩]]
      exact below0_pn a b w ha.1 ha.2 hb.1 hb.2 p11 p12 p31 p32 h1 h2
    · rw [show below0N a b = false from by unfold below0N; rw [if_neg (by omega), if_neg (by omega)]; exact decide_eq_false (by omega)]
      exact below0_pp a b w ha.1 ha.2 hb.1 hb.2 p11 p12 p31 p32 (by omega) (by omega)

theorem lifts_even (x : Nm) (k : Int) (hx : x.le 1073741824) (hK : -1000 ≤ x.K ∧ x.K ≤ 1000) (hk : -1000 ≤ k ∧ k ≤ 1000) (h60 : k - x.K ≤ 60) (he : k ≤ x.K ∨ (k - x.K) % 2 = 0) : Lifts x k := by
  intro w b T hb
  unfold liftN
  split
  · rename_i h
    exact lift_none x k b T w hK hk hb h
  · rename_i h
    exact lift_even x k b T w hx hK hk hb (by omega) h60 (by omega)

def subN (x y : Nm) : Nm := addN x (negN y)
theorem negN_le {x : Nm} {M : Int} (h : x.le M) : (negN x).le M := by
  unfold Nm.le negN at *; dsimp only at *; omega
theorem addN_le {x y : Nm} (hx : x.le 1073741824) (hy : y.le 1073741824) (h1 : y.K - x.K ≤ 60) (h2 : x.K - y.K ≤ 60) : (addN x y).le 2305843009213693952 := by
  have a1 := liftN_le (x := x) (k := max x.K y.K) (by omega) hx
  have a2 := liftN_le (x := y) (k := max x.K y.K) (by omega) hy
  unfold Nm.le addN at *
  dsimp only at *
  omega
theorem addN_K (x y : Nm) : (addN x y).K = max x.K y.K := rfl

theorem minus_any (A B C D K a b c d k : Int) (w : World) (h : chk2 ⟨A, B, C, D, K⟩ ⟨a, b, c, d, k⟩ = 0)
    (HLx : Lifts ⟨A, B, C, D, K⟩ (max K k)) (HLy : Lifts (negN ⟨a, b, c, d, k⟩) (max K k)) :
    Calls Tryz.prog 90 #[nv A B C D K, nv a b c d k] w (Gives (subN ⟨A, B, C, D, K⟩ ⟨a, b, c, d, k⟩).v w) := by
  obtain ⟨h1, h2⟩ := chk2_ok h
  have k1 := chk_ok h1
  have k2 := chk_ok h2
  exact minus_core A B C D K a b c d k _ w (right_wide h2) fun w => plus_any A B C D K (-a) (-b) (-c) (-d) k w (right_le h1) (negN_le (right_le h2)) (by dsimp only at k1; omega) (by dsimp only at k2; omega) HLx HLy

set_option maxHeartbeats 1000000 in
theorem Sub_of (A B C D K a b c d k : Int) (w : World)
    (hl : chk2 ⟨A, B, C, D, K⟩ ⟨a, b, c, d, k⟩ = 0 → Lifts ⟨A, B, C, D, K⟩ (max K k) ∧ Lifts (negN ⟨a, b, c, d, k⟩) (max K k)) :
    Calls Tryz.prog 46 #[nv A B C D K, nv a b c d k] w (Gives (.tuple #[(jointN ⟨A, B, C, D, K⟩ ⟨a, b, c, d, k⟩ (subN ⟨A, B, C, D, K⟩ ⟨a, b, c, d, k⟩)).v, .int .i64 (jointE ⟨A, B, C, D, K⟩ ⟨a, b, c, d, k⟩ (subN ⟨A, B, C, D, K⟩ ⟨a, b, c, d, k⟩))]) w) := by
  have HA : Hid (∀ w, Calls Tryz.prog 74 #[.agg #[.func (.func 90) #[] #[]], nv A B C D K, nv a b c d k] w (Gives (.tuple #[(jointN ⟨A, B, C, D, K⟩ ⟨a, b, c, d, k⟩ (subN ⟨A, B, C, D, K⟩ ⟨a, b, c, d, k⟩)).v, .int .i64 (jointE ⟨A, B, C, D, K⟩ ⟨a, b, c, d, k⟩ (subN ⟨A, B, C, D, K⟩ ⟨a, b, c, d, k⟩))]) w)) := by
    intro w
    refine joint_any A B C D K a b c d k _ ent_minus _ w fun h => ?_
    obtain ⟨h1, h2⟩ := chk2_ok h
    have k1 := chk_ok h1
    have k2 := chk_ok h2
    dsimp only at k1 k2
    obtain ⟨l1, l2⟩ := hl h
    refine ⟨fun w => minus_any A B C D K a b c d k w h l1 l2, ?_, ?_⟩
    · exact le_wide (addN_le (right_le h1) (negN_le (right_le h2)) (by simp only [negN]; omega) (by simp only [negN]; omega)) (by omega)
    · unfold subN; rw [addN_K]; simp only [negN]; omega
  clear hl
  generalize jointN ⟨A, B, C, D, K⟩ ⟨a, b, c, d, k⟩ (subN ⟨A, B, C, D, K⟩ ⟨a, b, c, d, k⟩) = r at *
  generalize jointE ⟨A, B, C, D, K⟩ ⟨a, b, c, d, k⟩ (subN ⟨A, B, C, D, K⟩ ⟨a, b, c, d, k⟩) = q at *
  go_enter Tryz.func46, Tryz.ntmps46
  go_wp2_with fail
  refine (HA.out _).mono ?_
  rintro e w1 ⟨rfl, hb⟩
  obtain ⟨hc, hf⟩ := bcell hb
  go_wp2_with fail
  exact bodyPost_ret (v := .tuple #[r.v, .int .i64 q]) (by simp [results, Tryz.results46, go_sem, hc]) rfl ⟨rfl, (by repeat (first | with_reducible exact Below.refl _ _ | with_reducible refine below_al ?_ _ | with_reducible refine below_dN ?_ _ | with_reducible refine Below.drew ?_ | (with_reducible refine Below.setCell ?_ (by simp <;> omega) _) | (with_reducible refine below_via (by assumption) ?_)))⟩
end Go.Proofs.YtcdmcndjbajhlaaGreatDoor
