/- The reference's Dot; regions that draw their order and store once; the reference's Norm. -/
import Derived.Test.YtcdmcndjbajhlaaGreatDoorJq
set_option linter.all false
set_option maxRecDepth 100000
namespace Go.Proofs.YtcdmcndjbajhlaaGreatDoor
open Go.RowKit
theorem num_any (A B C D K : Int) (w : World) : Calls Tryz.prog 4 #[.int .i64 A, .int .i64 B, .int .i64 C, .int .i64 D, .int .i64 K] w (Gives (nv A B C D K) w) := by
  go_enter Tryz.func4, Tryz.ntmps4
  go_wp2
  exact bodyPost_ret (v := nv A B C D K) (by simp [results, Tryz.results4, go_sem]) rfl ⟨rfl, (by repeat (first | with_reducible exact Below.refl _ _ | with_reducible refine below_al ?_ _ | with_reducible refine below_dN ?_ _ | with_reducible refine Below.drew ?_ | (with_reducible refine Below.setCell ?_ (by simp <;> omega) _) | (with_reducible refine below_via (by assumption) ?_)))⟩
end Go.Proofs.YtcdmcndjbajhlaaGreatDoor
namespace Go.Proofs.YtcdmcndjbajhlaaGreatDoor
open Go.RowKit

theorem dotN_wide {x : Nm} (h : x.wide) : (dotN x).wide := by unfold dotN; split <;> (unfold Nm.wide at *; dsimp only at *; omega)
theorem dotN_K (x : Nm) : (dotN x).K = x.K := by unfold dotN; split <;> rfl
set_option maxHeartbeats 2000000 in
theorem r_Dot (x : Nm) (w : World) : Calls Tryz.prog 49 #[x.v] w (Gives (turnV x (dotN x)) w) := by
  have HC : Hid (∀ w, Calls Tryz.prog 41 #[x.v] w (Gives (.int .i64 x.chk) w)) := fun w => r_check _ _ _ _ _ w
  unfold turnV
  by_cases h : x.chk = 0
  · have hk := chk_ok (A := x.A) (B := x.B) (C := x.C) (D := x.D) (K := x.K) h
    have hw : x.wide := right_wide h
    have HF : Hid (∀ w, Calls Tryz.prog 63 #[(dotN x).v] w (Gives (dotN x).least.v w)) := fun w => r_form _ w (dotN_wide hw) (by have e := dotN_K x; omega)
    rw [if_pos h, h]
    rw [h] at HC
    generalize hr : (dotN x).least = r at *
    clear hr
    obtain ⟨⟨hA1, hA2⟩, ⟨hB1, hB2⟩, ⟨hC1, hC2⟩, ⟨hD1, hD2⟩⟩ := hw
    have hk0 : 0 ≤ x.K := hk.1
    have hk1 : x.K ≤ 60 := hk.2.1
    obtain ⟨A, B, C, D, K⟩ := x
    dsimp only at *
    clear h hk
    by_cases he : K % 2 = 0
    · have hd : dotN ⟨A, B, C, D, K⟩ = ⟨A, -B, C, -D, K⟩ := by unfold dotN; rw [if_pos he]
      rw [hd] at HF
      have h1 : (K % 2 == 1) = false := by simp [he]
      clear hd he
      go_enter Tryz.func49, Tryz.ntmps49
      go_wp2_with fail
      refine (HC.out _).mono ?_
      rintro e w1 ⟨rfl, hb⟩
      have hw1 : Below w.heap.size w w1 := below_via hb (by repeat (first | with_reducible exact Below.refl _ _ | with_reducible refine below_al ?_ _ | with_reducible refine below_dN ?_ _ | with_reducible refine Below.drew ?_ | (with_reducible refine Below.setCell ?_ (by simp <;> omega) _) | (with_reducible refine below_via (by assumption) ?_)))
      have hx1 : Box w1 w.heap.size 23 ⟨A, B, C, D, K⟩ := (box_al (box_new w _ _ _ _ _ _) _).below hb (by simp <;> omega)
      have hz1 : Hid (Box w1 (w.heap.size + 1) 23 nul) := by
        have h := box_new (w.alloc (.cells #[.int .i64 A, .int .i64 B, .int .i64 C, .int .i64 D, .int .i64 K] 23)) 0 0 0 0 0 23
        rw [World.size_alloc] at h
        exact h.below hb (by simp <;> omega)
      obtain ⟨x0, x1, x2, x3, x4⟩ := hx1.cell
      have hltx := hx1.lt
      dsimp only at x0 x1 x2 x3 x4
      clear hx1 hb
      go_wp2_with fail
      refine (HF.out _).mono ?_
      rintro e w3 ⟨rfl, hb3⟩
      have hz3 := (box_al hz1.out _).below hb3 (by simp; have := hz1.out.lt; omega)
      have hw3 := below_via hb3 (below_al hw1 _)
      obtain ⟨z0, z1, z2, z3, z4⟩ := hz3.cell
      obtain ⟨g0, g1, g2, g3, g4⟩ := hz3.free
      have hlt := hz3.lt
      (try dsimp only at z0 z1 z2 z3 z4)
      clear hz3
      go_wp2_with fail
      exact bodyPost_ret (v := .tuple #[r.v, .int .i64 0]) (by simp [results, Tryz.results49, go_sem, z0, z1, z2, z3, z4]) rfl ⟨rfl, (by repeat (first | with_reducible exact Below.refl _ _ | with_reducible refine below_al ?_ _ | with_reducible refine below_dN ?_ _ | with_reducible refine Below.drew ?_ | (with_reducible refine Below.setCell ?_ (by simp <;> omega) _) | (with_reducible refine below_via (by assumption) ?_)))⟩
    · have hd : dotN ⟨A, B, C, D, K⟩ = ⟨-A, B, -C, D, K⟩ := by unfold dotN; rw [if_neg he]
      rw [hd] at HF
      have h1 : (K % 2 == 1) = true := by rw [beq_iff_eq]; omega
      have HT : Hid (∀ w, Calls Tryz.prog 87 #[nv A (-B) C (-D) K] w (Gives (nv (-A) B (-C) D K) w)) := fun w => by
        have h := r_negative A (-B) C (-D) K w (by unfold Nm.wide; dsimp only; omega)
        rwa [Int.neg_neg, Int.neg_neg] at h
      clear hd he
      go_enter Tryz.func49, Tryz.ntmps49
      go_wp2_with fail
      refine (HC.out _).mono ?_
      rintro e w1 ⟨rfl, hb⟩
      have hw1 : Below w.heap.size w w1 := below_via hb (by repeat (first | with_reducible exact Below.refl _ _ | with_reducible refine below_al ?_ _ | with_reducible refine below_dN ?_ _ | with_reducible refine Below.drew ?_ | (with_reducible refine Below.setCell ?_ (by simp <;> omega) _) | (with_reducible refine below_via (by assumption) ?_)))
      have hx1 : Box w1 w.heap.size 23 ⟨A, B, C, D, K⟩ := (box_al (box_new w _ _ _ _ _ _) _).below hb (by simp <;> omega)
      have hz1 : Hid (Box w1 (w.heap.size + 1) 23 nul) := by
        have h := box_new (w.alloc (.cells #[.int .i64 A, .int .i64 B, .int .i64 C, .int .i64 D, .int .i64 K] 23)) 0 0 0 0 0 23
        rw [World.size_alloc] at h
        exact h.below hb (by simp <;> omega)
      obtain ⟨x0, x1, x2, x3, x4⟩ := hx1.cell
      have hltx := hx1.lt
      dsimp only at x0 x1 x2 x3 x4
      clear hx1 hb
      go_wp2_with fail
      have hyb : Hid (Box (w1.alloc (.cells #[.int .i64 A, .int .i64 (-B), .int .i64 C, .int .i64 (-D), .int .i64 K] 23)) w1.heap.size 23 ⟨A, -B, C, -D, K⟩) := heap_alloc_new w1 _
      have hzz : Hid (Box (w1.alloc (.cells #[.int .i64 A, .int .i64 (-B), .int .i64 C, .int .i64 (-D), .int .i64 K] 23)) (w.heap.size + 1) 23 nul) := box_al hz1.out _
      have hvw : Hid (Below w.heap.size w (w1.alloc (.cells #[.int .i64 A, .int .i64 (-B), .int .i64 C, .int .i64 (-D), .int .i64 K] 23))) := below_al hw1 _
      have hne : w.heap.size + 1 < w1.heap.size := hz1.out.lt
      have hne2 : w.heap.size ≤ w1.heap.size := hw1.size
      obtain ⟨V, hV⟩ : ∃ V, w1.alloc (.cells #[.int .i64 A, .int .i64 (-B), .int .i64 C, .int .i64 (-D), .int .i64 K] 23) = V := ⟨_, rfl⟩
      rw [hV] at hyb hzz hvw ⊢
      clear hV
      refine (HT.out _).mono ?_
      rintro e w2 ⟨rfl, hb2⟩
      have hy2 := hyb.out.below hb2 hyb.out.lt
      have hz2 := hzz.out.below hb2 hzz.out.lt
      have hw2 := below_via hb2 hvw.out
      have hbx := Lib.hid (box_cells hy2 ⟨-A, B, -C, D, K⟩)
      have hbz : Hid (Box (((((w2.setCell ⟨w1.heap.size, 0, none⟩ (.int .i64 (-A))).setCell ⟨w1.heap.size, 1, none⟩ (.int .i64 B)).setCell ⟨w1.heap.size, 2, none⟩ (.int .i64 (-C))).setCell ⟨w1.heap.size, 3, none⟩ (.int .i64 D)).setCell ⟨w1.heap.size, 4, none⟩ (.int .i64 K)) (w.heap.size + 1) 23 nul) := ((((hz2.other (by omega)).other (by omega)).other (by omega)).other (by omega)).other (by omega)
      have hbw : Hid (Below w.heap.size w (((((w2.setCell ⟨w1.heap.size, 0, none⟩ (.int .i64 (-A))).setCell ⟨w1.heap.size, 1, none⟩ (.int .i64 B)).setCell ⟨w1.heap.size, 2, none⟩ (.int .i64 (-C))).setCell ⟨w1.heap.size, 3, none⟩ (.int .i64 D)).setCell ⟨w1.heap.size, 4, none⟩ (.int .i64 K))) := ((((hw2.setCell hne2 _).setCell hne2 _).setCell hne2 _).setCell hne2 _).setCell hne2 _
      obtain ⟨y0, y1, y2, y3, y4⟩ := hy2.cell
      obtain ⟨k0, k1, k2, k3, k4⟩ := hy2.free
      have hlty := hy2.lt
      dsimp only at hbx y0 y1 y2 y3 y4
      clear hy2 hz2
      go_wp2_with fail
      obtain ⟨V2, hV⟩ : ∃ V2, ((((w2.setCell ⟨w1.heap.size, 0, none⟩ (.int .i64 (-A))).setCell ⟨w1.heap.size, 1, none⟩ (.int .i64 B)).setCell ⟨w1.heap.size, 2, none⟩ (.int .i64 (-C))).setCell ⟨w1.heap.size, 3, none⟩ (.int .i64 D)).setCell ⟨w1.heap.size, 4, none⟩ (.int .i64 K) = V2 := ⟨_, rfl⟩
      rw [hV] at hbx hbz hbw ⊢
      clear hV y0 y1 y2 y3 y4 k0 k1 k2 k3 k4 hlty hw2
      refine (HF.out _).mono ?_
      rintro e w3 ⟨rfl, hb3⟩
      have hz3 := hbz.out.below hb3 hbz.out.lt
      have hw3 := below_via hb3 hbw.out
      obtain ⟨z0, z1, z2, z3, z4⟩ := hz3.cell
      obtain ⟨g0, g1, g2, g3, g4⟩ := hz3.free
      have hlt := hz3.lt
      (try dsimp only at z0 z1 z2 z3 z4)
      clear hz3
      go_wp2_with fail
      exact bodyPost_ret (v := .tuple #[r.v, .int .i64 0]) (by simp [results, Tryz.results49, go_sem, z0, z1, z2, z3, z4]) rfl ⟨rfl, (by repeat (first | with_reducible exact Below.refl _ _ | with_reducible refine below_al ?_ _ | with_reducible refine below_dN ?_ _ | with_reducible refine Below.drew ?_ | (with_reducible refine Below.setCell ?_ (by simp <;> omega) _) | (with_reducible refine below_via (by assumption) ?_)))⟩
  · rw [if_neg h]
    have h2 : (x.chk != 0) = true := bne_iff_ne.2 h
    generalize x.chk = q at *
    obtain ⟨A, B, C, D, K⟩ := x
    go_enter Tryz.func49, Tryz.ntmps49
    go_wp2_with fail
    refine (HC.out _).mono ?_
    rintro e w1 ⟨rfl, hb⟩
    obtain ⟨hc, hf⟩ := bcell hb
    go_wp2_with fail
    exact bodyPost_ret (v := .tuple #[nul.v, .int .i64 q]) (by simp [results, Tryz.results49, go_sem, hc]) rfl ⟨rfl, (by repeat (first | with_reducible exact Below.refl _ _ | with_reducible refine below_al ?_ _ | with_reducible refine below_dN ?_ _ | with_reducible refine Below.drew ?_ | (with_reducible refine Below.setCell ?_ (by simp <;> omega) _) | (with_reducible refine below_via (by assumption) ?_)))⟩
end Go.Proofs.YtcdmcndjbajhlaaGreatDoor
