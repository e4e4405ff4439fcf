/- The reference's Neg, Conj, Dot, product, fits. -/
import Derived.Test.YtfbjnincildfiaaDoorRs
import Derived.Test.YtfbjnincildfiaaDoorPh
set_option linter.all false
set_option maxRecDepth 100000
namespace Go.Proofs.YtfbjnincildfiaaDoor
open Go.RowKit

set_option maxHeartbeats 1000000 in
theorem r_negative (A B C D K : Int) (w : World) (hx : Nm.wide ⟨A, B, C, D, K⟩) : Calls Tryd.prog 44 #[nv A B C D K] w (Gives (nv (-A) (-B) (-C) (-D) K) w) := by
  obtain ⟨⟨hA1, hA2⟩, ⟨hB1, hB2⟩, ⟨hC1, hC2⟩, ⟨hD1, hD2⟩⟩ := hx
  dsimp only at *
  go_enter Tryd.func44, Tryd.ntmps44
  go_wp2
  exact bodyPost_ret (v := nv (-A) (-B) (-C) (-D) K) (by simp [results, Tryd.results44, go_sem]) rfl ⟨rfl, (by repeat (first | with_reducible exact Below.refl _ _ | with_reducible refine below_al ?_ _ | with_reducible refine below_dN ?_ _ | with_reducible refine Below.drew ?_ | (with_reducible refine Below.setCell ?_ (by simp <;> omega) _) | (with_reducible refine below_via (by assumption) ?_)))⟩
set_option maxHeartbeats 1000000 in
theorem r_conjugate (A B C D K : Int) (w : World) (hx : Nm.wide ⟨A, B, C, D, K⟩) : Calls Tryd.prog 45 #[nv A B C D K] w (Gives (nv A (-D) (-C) (-B) K) w) := by
  obtain ⟨⟨hA1, hA2⟩, ⟨hB1, hB2⟩, ⟨hC1, hC2⟩, ⟨hD1, hD2⟩⟩ := hx
  dsimp only at *
  go_enter Tryd.func45, Tryd.ntmps45
  go_wp2
  exact bodyPost_ret (v := nv A (-D) (-C) (-B) K) (by simp [results, Tryd.results45, go_sem]) rfl ⟨rfl, (by repeat (first | with_reducible exact Below.refl _ _ | with_reducible refine below_al ?_ _ | with_reducible refine below_dN ?_ _ | with_reducible refine Below.drew ?_ | (with_reducible refine Below.setCell ?_ (by simp <;> omega) _) | (with_reducible refine below_via (by assumption) ?_)))⟩
set_option maxHeartbeats 4000000 in
theorem r_product_raw (A B C D K a b c d k : Int) (w : World) :
    Calls Tryd.prog 47 #[nv A B C D K, nv a b c d k] w (Gives (nv (wrap64 (A * a - B * d - C * c - D * b)) (wrap64 (A * b + B * a - C * d - D * c)) (wrap64 (A * c + B * b + C * a - D * d)) (wrap64 (A * d + B * c + C * b + D * a)) (wrap64 (K + k))) w) := by
  have h : Calls Tryd.prog 47 #[nv A B C D K, nv a b c d k] w (Gives (nv (wrap64 (wrap64 (wrap64 (wrap64 (A * a) - wrap64 (B * d)) - wrap64 (C * c)) - wrap64 (D * b))) (wrap64 (wrap64 (wrap64 (wrap64 (A * b) + wrap64 (B * a)) - wrap64 (C * d)) - wrap64 (D * c))) (wrap64 (wrap64 (wrap64 (wrap64 (A * c) + wrap64 (B * b)) + wrap64 (C * a)) - wrap64 (D * d))) (wrap64 (wrap64 (wrap64 (wrap64 (A * d) + wrap64 (B * c)) + wrap64 (C * b)) + wrap64 (D * a))) (wrap64 (K + k))) w) := by
   go_enter Tryd.func47, Tryd.ntmps47
   go_wp2
   generalize wrap64 (wrap64 (wrap64 (wrap64 (A * a) - wrap64 (B * d)) - wrap64 (C * c)) - wrap64 (D * b)) = r0
   generalize wrap64 (wrap64 (wrap64 (wrap64 (A * b) + wrap64 (B * a)) - wrap64 (C * d)) - wrap64 (D * c)) = r1
   generalize wrap64 (wrap64 (wrap64 (wrap64 (A * c) + wrap64 (B * b)) + wrap64 (C * a)) - wrap64 (D * d)) = r2
   generalize wrap64 (wrap64 (wrap64 (wrap64 (A * d) + wrap64 (B * c)) + wrap64 (C * b)) + wrap64 (D * a)) = r3
   generalize wrap64 (K + k) = r4
   exact bodyPost_ret (v := nv r0 r1 r2 r3 r4) (by simp [results, Tryd.results47, go_sem]) rfl ⟨rfl, (by repeat (first | with_reducible exact Below.refl _ _ | with_reducible refine below_al ?_ _ | with_reducible refine below_dN ?_ _ | with_reducible refine Below.drew ?_ | (with_reducible refine Below.setCell ?_ (by simp <;> omega) _) | (with_reducible refine below_via (by assumption) ?_)))⟩
  simp only [wr_sub, wr_add] at h
  exact h
theorem r_product (x y : Nm) (M N : Int) (w : World) (hx : x.le M) (hy : y.le N) (hMN : M * N ≤ 1152921504606846976) (hK : -1000000 ≤ x.K ∧ x.K ≤ 1000000) (hk : -1000000 ≤ y.K ∧ y.K ≤ 1000000) :
    Calls Tryd.prog 47 #[x.v, y.v] w (Gives (mulN x y).v w) := by
  have h := r_product_raw x.A x.B x.C x.D x.K y.A y.B y.C y.D y.K w
  have hm := mulN_le hx hy
  unfold Nm.le mulN at hm
  dsimp only at hm
  rw [wr_in (by omega), wr_in (by omega), wr_in (by omega), wr_in (by omega), wr_in (n := x.K + y.K) (by omega)] at h
  exact h

set_option maxHeartbeats 2000000 in
theorem r_fits (x : Nm) (w : World) (hx : x.wide) (hK : -1000 ≤ x.K ∧ x.K ≤ 1000) : Calls Tryd.prog 46 #[x.v] w (Gives (.tuple #[(fitN x).v, .int .i64 (fitE x)]) w) := by
  have HF : Hid (∀ w, Calls Tryd.prog 32 #[x.v] w (Gives x.least.v w)) := fun w => r_form x w hx hK
  have HC : Hid (∀ w, Calls Tryd.prog 12 #[x.least.v] w (Gives (.int .i64 x.least.chk) w)) := fun w => r_check _ _ _ _ _ w
  unfold fitN fitE
  clear hx hK
  by_cases h : x.least.chk = 0
  · rw [if_pos h, if_pos h]
    rw [h] at HC
    generalize x.least = r at *
    clear h
    obtain ⟨A, B, C, D, K⟩ := x
    go_enter Tryd.func46, Tryd.ntmps46
    go_wp2_with fail
    refine (HF.out _).mono ?_
    rintro e w1 ⟨rfl, hb⟩
    have hw1 : Below w.heap.size w w1 := below_via hb (by repeat (first | with_reducible exact Below.refl _ _ | with_reducible refine below_al ?_ _ | with_reducible refine below_dN ?_ _ | with_reducible refine Below.drew ?_ | (with_reducible refine Below.setCell ?_ (by simp <;> omega) _) | (with_reducible refine below_via (by assumption) ?_)))
    have hx1 : Box w1 w.heap.size 23 ⟨A, B, C, D, K⟩ := (box_al (box_new w _ _ _ _ _ _) _).below hb (by simp <;> omega)
    have hz1 : Box w1 (w.heap.size + 1) 23 nul := by
      have h := box_new (w.alloc (.cells #[.int .i64 A, .int .i64 B, .int .i64 C, .int .i64 D, .int .i64 K] 23)) 0 0 0 0 0 23
      rw [World.size_alloc] at h
      exact h.below hb (by simp <;> omega)
    obtain ⟨c0, c1, c2, c3, c4⟩ := hx1.cell
    obtain ⟨f0, f1, f2, f3, f4⟩ := hx1.free
    have hlt1 := hx1.lt
    dsimp only at c0 c1 c2 c3 c4
    have hbx := Lib.hid (box_cells hx1 r)
    have hbz : Hid (Box (((((w1.setCell ⟨w.heap.size, 0, none⟩ (.int .i64 r.A)).setCell ⟨w.heap.size, 1, none⟩ (.int .i64 r.B)).setCell ⟨w.heap.size, 2, none⟩ (.int .i64 r.C)).setCell ⟨w.heap.size, 3, none⟩ (.int .i64 r.D)).setCell ⟨w.heap.size, 4, none⟩ (.int .i64 r.K)) (w.heap.size + 1) 23 nul) := ((((hz1.other (by omega)).other (by omega)).other (by omega)).other (by omega)).other (by omega)
    have hbw : Hid (Below w.heap.size w (((((w1.setCell ⟨w.heap.size, 0, none⟩ (.int .i64 r.A)).setCell ⟨w.heap.size, 1, none⟩ (.int .i64 r.B)).setCell ⟨w.heap.size, 2, none⟩ (.int .i64 r.C)).setCell ⟨w.heap.size, 3, none⟩ (.int .i64 r.D)).setCell ⟨w.heap.size, 4, none⟩ (.int .i64 r.K))) := ((((hw1.setCell (by simp) _).setCell (by simp) _).setCell (by simp) _).setCell (by simp) _).setCell (by simp) _
    clear hx1 hz1 hb
    go_wp2_with fail
    obtain ⟨V, hV⟩ : ∃ V, ((((w1.setCell ⟨w.heap.size, 0, none⟩ (.int .i64 r.A)).setCell ⟨w.heap.size, 1, none⟩ (.int .i64 r.B)).setCell ⟨w.heap.size, 2, none⟩ (.int .i64 r.C)).setCell ⟨w.heap.size, 3, none⟩ (.int .i64 r.D)).setCell ⟨w.heap.size, 4, none⟩ (.int .i64 r.K) = V := ⟨_, rfl⟩
    rw [hV] at hbx hbz hbw ⊢
    clear hV c0 c1 c2 c3 c4 f0 f1 f2 f3 f4 hlt1 hw1
    refine (HC.out _).mono ?_
    rintro e w2 ⟨rfl, hb2⟩
    have hx2 := hbx.out.below hb2 hbx.out.lt
    have hz2 := hbz.out.below hb2 hbz.out.lt
    have hw2 := below_via hb2 hbw.out
    obtain ⟨c0, c1, c2, c3, c4⟩ := hx2.cell
    obtain ⟨z0, z1, z2, z3, z4⟩ := hz2.cell
    obtain ⟨g0, g1, g2, g3, g4⟩ := hz2.free
    have hlt := hz2.lt
    (try dsimp only at c0 c1 c2 c3 c4 z0 z1 z2 z3 z4)
    clear hx2 hz2
    go_wp2_with fail
    exact bodyPost_ret (v := .tuple #[r.v, .int .i64 0]) (by simp [results, Tryd.results46, go_sem, z0, z1, z2, z3, z4]) rfl ⟨rfl, (by repeat (first | with_reducible exact Below.refl _ _ | with_reducible refine below_al ?_ _ | with_reducible refine below_dN ?_ _ | with_reducible refine Below.drew ?_ | (with_reducible refine Below.setCell ?_ (by simp <;> omega) _) | (with_reducible refine below_via (by assumption) ?_)))⟩
  · rw [if_neg h, if_neg h]
    have h2 : (x.least.chk != 0) = true := bne_iff_ne.2 h
    generalize x.least = r at *
    generalize r.chk = q at *
    clear h
    obtain ⟨A, B, C, D, K⟩ := x
    go_enter Tryd.func46, Tryd.ntmps46
    go_wp2_with fail
    refine (HF.out _).mono ?_
    rintro e w1 ⟨rfl, hb⟩
    have hw1 : Below w.heap.size w w1 := below_via hb (by repeat (first | with_reducible exact Below.refl _ _ | with_reducible refine below_al ?_ _ | with_reducible refine below_dN ?_ _ | with_reducible refine Below.drew ?_ | (with_reducible refine Below.setCell ?_ (by simp <;> omega) _) | (with_reducible refine below_via (by assumption) ?_)))
    have hx1 : Box w1 w.heap.size 23 ⟨A, B, C, D, K⟩ := (box_al (box_new w _ _ _ _ _ _) _).below hb (by simp <;> omega)
    have hz1 : Box w1 (w.heap.size + 1) 23 nul := by
      have h := box_new (w.alloc (.cells #[.int .i64 A, .int .i64 B, .int .i64 C, .int .i64 D, .int .i64 K] 23)) 0 0 0 0 0 23
      rw [World.size_alloc] at h
      exact h.below hb (by simp <;> omega)
    obtain ⟨c0, c1, c2, c3, c4⟩ := hx1.cell
    obtain ⟨f0, f1, f2, f3, f4⟩ := hx1.free
    have hlt1 := hx1.lt
    dsimp only at c0 c1 c2 c3 c4
    have hbx := Lib.hid (box_cells hx1 r)
    have hbz : Hid (Box (((((w1.setCell ⟨w.heap.size, 0, none⟩ (.int .i64 r.A)).setCell ⟨w.heap.size, 1, none⟩ (.int .i64 r.B)).setCell ⟨w.heap.size, 2, none⟩ (.int .i64 r.C)).setCell ⟨w.heap.size, 3, none⟩ (.int .i64 r.D)).setCell ⟨w.heap.size, 4, none⟩ (.int .i64 r.K)) (w.heap.size + 1) 23 nul) := ((((hz1.other (by omega)).other (by omega)).other (by omega)).other (by omega)).other (by omega)
    have hbw : Hid (Below w.heap.size w (((((w1.setCell ⟨w.heap.size, 0, none⟩ (.int .i64 r.A)).setCell ⟨w.heap.size, 1, none⟩ (.int .i64 r.B)).setCell ⟨w.heap.size, 2, none⟩ (.int .i64 r.C)).setCell ⟨w.heap.size, 3, none⟩ (.int .i64 r.D)).setCell ⟨w.heap.size, 4, none⟩ (.int .i64 r.K))) := ((((hw1.setCell (by simp) _).setCell (by simp) _).setCell (by simp) _).setCell (by simp) _).setCell (by simp) _
    clear hx1 hz1 hb
    go_wp2_with fail
    obtain ⟨V, hV⟩ : ∃ V, ((((w1.setCell ⟨w.heap.size, 0, none⟩ (.int .i64 r.A)).setCell ⟨w.heap.size, 1, none⟩ (.int .i64 r.B)).setCell ⟨w.heap.size, 2, none⟩ (.int .i64 r.C)).setCell ⟨w.heap.size, 3, none⟩ (.int .i64 r.D)).setCell ⟨w.heap.size, 4, none⟩ (.int .i64 r.K) = V := ⟨_, rfl⟩
    rw [hV] at hbx hbz hbw ⊢
    clear hV c0 c1 c2 c3 c4 f0 f1 f2 f3 f4 hlt1 hw1
    refine (HC.out _).mono ?_
    rintro e w2 ⟨rfl, hb2⟩
    have hx2 := hbx.out.below hb2 hbx.out.lt
    have hz2 := hbz.out.below hb2 hbz.out.lt
    have hw2 := below_via hb2 hbw.out
    obtain ⟨c0, c1, c2, c3, c4⟩ := hx2.cell
    obtain ⟨z0, z1, z2, z3, z4⟩ := hz2.cell
    obtain ⟨g0, g1, g2, g3, g4⟩ := hz2.free
    have hlt := hz2.lt
    (try dsimp only at c0 c1 c2 c3 c4 z0 z1 z2 z3 z4)
    clear hx2 hz2
    go_wp2_with fail
    exact bodyPost_ret (v := .tuple #[nul.v, .int .i64 8]) (by simp [results, Tryd.results46, go_sem, z0, z1, z2, z3, z4]) rfl ⟨rfl, (by repeat (first | with_reducible exact Below.refl _ _ | with_reducible refine below_al ?_ _ | with_reducible refine below_dN ?_ _ | with_reducible refine Below.drew ?_ | (with_reducible refine Below.setCell ?_ (by simp <;> omega) _) | (with_reducible refine below_via (by assumption) ?_)))⟩

theorem negN_wide {x : Nm} (h : x.wide) : (negN x).wide := by unfold Nm.wide negN at *; dsimp only at *; omega
theorem conjN_wide {x : Nm} (h : x.wide) : (conjN x).wide := by unfold Nm.wide conjN at *; dsimp only at *; omega
/-- What the reference's Neg, Conj and Dot return. -/
def turnV (x y : Nm) : Value := .tuple #[(if x.chk = 0 then y.least else nul).v, .int .i64 x.chk]

set_option maxHeartbeats 2000000 in
theorem r_Neg (x : Nm) (w : World) : Calls Tryd.prog 14 #[x.v] w (Gives (turnV x (negN x)) w) := by
  have HC : Hid (∀ w, Calls Tryd.prog 12 #[x.v] w (Gives (.int .i64 x.chk) w)) := fun w => r_check _ _ _ _ _ w
  unfold turnV
  by_cases h : x.chk = 0
  · have hk := chk_ok (A := x.A) (B := x.B) (C := x.C) (D := x.D) (K := x.K) h
    have hw : x.wide := right_wide h
    have HT : Hid (∀ w, Calls Tryd.prog 44 #[x.v] w (Gives (negN x).v w)) := fun w => r_negative _ _ _ _ _ w hw
    have HF : Hid (∀ w, Calls Tryd.prog 32 #[(negN x).v] w (Gives (negN x).least.v w)) := fun w => r_form _ w (negN_wide hw) (by have e : (negN x).K = x.K := rfl; omega)
    rw [if_pos h, h]
    rw [h] at HC
    generalize (negN x).least = r at *
    generalize negN x = y at *
    clear h hk hw
    obtain ⟨A, B, C, D, K⟩ := x
    go_enter Tryd.func14, Tryd.ntmps14
    go_wp2_with fail
    refine (HC.out _).mono ?_
    rintro e w1 ⟨rfl, hb⟩
    obtain ⟨hc, hf⟩ := bcell hb
    have hw1 : Below w.heap.size w w1 := below_via hb (by repeat (first | with_reducible exact Below.refl _ _ | with_reducible refine below_al ?_ _ | with_reducible refine below_dN ?_ _ | with_reducible refine Below.drew ?_ | (with_reducible refine Below.setCell ?_ (by simp <;> omega) _) | (with_reducible refine below_via (by assumption) ?_)))
    have hz1 : Hid (Box w1 (w.heap.size + 1) 23 nul) := by
      have h := box_new (w.alloc (.cells #[.int .i64 A, .int .i64 B, .int .i64 C, .int .i64 D, .int .i64 K] 23)) 0 0 0 0 0 23
      rw [World.size_alloc] at h
      exact h.below hb (by simp <;> omega)
    go_wp2_with fail
    refine (HT.out _).mono ?_
    rintro e w2 ⟨rfl, hb2⟩
    go_wp2_with fail
    refine (HF.out _).mono ?_
    rintro e w3 ⟨rfl, hb3⟩
    have hz3 := (hz1.out.below hb2 hz1.out.lt).below hb3 (hz1.out.below hb2 hz1.out.lt).lt
    have hw3 := below_via hb3 (below_via hb2 hw1)
    obtain ⟨z0, z1, z2, z3, z4⟩ := hz3.cell
    obtain ⟨g0, g1, g2, g3, g4⟩ := hz3.free
    have hlt := hz3.lt
    (try dsimp only at z0 z1 z2 z3 z4)
    clear hz3
    go_wp2_with fail
    exact bodyPost_ret (v := .tuple #[r.v, .int .i64 0]) (by simp [results, Tryd.results14, go_sem, z0, z1, z2, z3, z4]) rfl ⟨rfl, (by repeat (first | with_reducible exact Below.refl _ _ | with_reducible refine below_al ?_ _ | with_reducible refine below_dN ?_ _ | with_reducible refine Below.drew ?_ | (with_reducible refine Below.setCell ?_ (by simp <;> omega) _) | (with_reducible refine below_via (by assumption) ?_)))⟩
  · rw [if_neg h]
    have h2 : (x.chk != 0) = true := bne_iff_ne.2 h
    generalize x.chk = q at *
    obtain ⟨A, B, C, D, K⟩ := x
    go_enter Tryd.func14, Tryd.ntmps14
    go_wp2_with fail
    refine (HC.out _).mono ?_
    rintro e w1 ⟨rfl, hb⟩
    obtain ⟨hc, hf⟩ := bcell hb
    go_wp2_with fail
    exact bodyPost_ret (v := .tuple #[nul.v, .int .i64 q]) (by simp [results, Tryd.results14, go_sem, hc]) rfl ⟨rfl, (by repeat (first | with_reducible exact Below.refl _ _ | with_reducible refine below_al ?_ _ | with_reducible refine below_dN ?_ _ | with_reducible refine Below.drew ?_ | (with_reducible refine Below.setCell ?_ (by simp <;> omega) _) | (with_reducible refine below_via (by assumption) ?_)))⟩

set_option maxHeartbeats 2000000 in
theorem r_Conj (x : Nm) (w : World) : Calls Tryd.prog 15 #[x.v] w (Gives (turnV x (conjN x)) w) := by
  have HC : Hid (∀ w, Calls Tryd.prog 12 #[x.v] w (Gives (.int .i64 x.chk) w)) := fun w => r_check _ _ _ _ _ w
  unfold turnV
  by_cases h : x.chk = 0
  · have hk := chk_ok (A := x.A) (B := x.B) (C := x.C) (D := x.D) (K := x.K) h
    have hw : x.wide := right_wide h
    have HT : Hid (∀ w, Calls Tryd.prog 45 #[x.v] w (Gives (conjN x).v w)) := fun w => r_conjugate _ _ _ _ _ w hw
    have HF : Hid (∀ w, Calls Tryd.prog 32 #[(conjN x).v] w (Gives (conjN x).least.v w)) := fun w => r_form _ w (conjN_wide hw) (by have e : (conjN x).K = x.K := rfl; omega)
    rw [if_pos h, h]
    rw [h] at HC
    generalize (conjN x).least = r at *
    generalize conjN x = y at *
    clear h hk hw
    obtain ⟨A, B, C, D, K⟩ := x
    go_enter Tryd.func15, Tryd.ntmps15
    go_wp2_with fail
    refine (HC.out _).mono ?_
    rintro e w1 ⟨rfl, hb⟩
    obtain ⟨hc, hf⟩ := bcell hb
    have hw1 : Below w.heap.size w w1 := below_via hb (by repeat (first | with_reducible exact Below.refl _ _ | with_reducible refine below_al ?_ _ | with_reducible refine below_dN ?_ _ | with_reducible refine Below.drew ?_ | (with_reducible refine Below.setCell ?_ (by simp <;> omega) _) | (with_reducible refine below_via (by assumption) ?_)))
    have hz1 : Hid (Box w1 (w.heap.size + 1) 23 nul) := by
      have h := box_new (w.alloc (.cells #[.int .i64 A, .int .i64 B, .int .i64 C, .int .i64 D, .int .i64 K] 23)) 0 0 0 0 0 23
      rw [World.size_alloc] at h
      exact h.below hb (by simp <;> omega)
    go_wp2_with fail
    refine (HT.out _).mono ?_
    rintro e w2 ⟨rfl, hb2⟩
    go_wp2_with fail
    refine (HF.out _).mono ?_
    rintro e w3 ⟨rfl, hb3⟩
    have hz3 := (hz1.out.below hb2 hz1.out.lt).below hb3 (hz1.out.below hb2 hz1.out.lt).lt
    have hw3 := below_via hb3 (below_via hb2 hw1)
    obtain ⟨z0, z1, z2, z3, z4⟩ := hz3.cell
    obtain ⟨g0, g1, g2, g3, g4⟩ := hz3.free
    have hlt := hz3.lt
    (try dsimp only at z0 z1 z2 z3 z4)
    clear hz3
    go_wp2_with fail
    exact bodyPost_ret (v := .tuple #[r.v, .int .i64 0]) (by simp [results, Tryd.results15, go_sem, z0, z1, z2, z3, z4]) rfl ⟨rfl, (by repeat (first | with_reducible exact Below.refl _ _ | with_reducible refine below_al ?_ _ | with_reducible refine below_dN ?_ _ | with_reducible refine Below.drew ?_ | (with_reducible refine Below.setCell ?_ (by simp <;> omega) _) | (with_reducible refine below_via (by assumption) ?_)))⟩
  · rw [if_neg h]
    have h2 : (x.chk != 0) = true := bne_iff_ne.2 h
    generalize x.chk = q at *
    obtain ⟨A, B, C, D, K⟩ := x
    go_enter Tryd.func15, Tryd.ntmps15
    go_wp2_with fail
    refine (HC.out _).mono ?_
    rintro e w1 ⟨rfl, hb⟩
    obtain ⟨hc, hf⟩ := bcell hb
    go_wp2_with fail
    exact bodyPost_ret (v := .tuple #[nul.v, .int .i64 q]) (by simp [results, Tryd.results15, go_sem, hc]) rfl ⟨rfl, (by repeat (first | with_reducible exact Below.refl _ _ | with_reducible refine below_al ?_ _ | with_reducible refine below_dN ?_ _ | with_reducible refine Below.drew ?_ | (with_reducible refine Below.setCell ?_ (by simp <;> omega) _) | (with_reducible refine below_via (by assumption) ?_)))⟩
end Go.Proofs.YtfbjnincildfiaaDoor
