
/- The reference's Neg, Conj, Dot, product, fits. -/
import Derived.Test.YtjalpolciofphaaDoorRs
import Derived.Test.YtjalpolciofphaaDoorPh
set_option linter.all false
set_option maxRecDepth 100000
namespace Go.Proofs.YtjalpolciofphaaDoor
open Go.RowKit

set_option maxHeartbeats 1000000 in
theorem r_negative (A B C D K : Int) (w : World) (hx : Nm.wide ⟨A, B, C, D, K⟩) : Calls Tryd.prog 39 #[nv A B C D K] w (Gives (nv (-A) (-B) (-C) (-D) K) w) := by
  obtain ⟨⟨hA1, hA2⟩, ⟨hB1, hB2⟩, ⟨hC1, hC2⟩, ⟨hD1, hD2⟩⟩ := hx
  dsimp only at *
  go_enter Tryd.func39, Tryd.ntmps39
  go_wp2
  exact bodyPost_ret (v := nv (-A) (-B) (-C) (-D) K) (by simp [results, Tryd.results39, go_sem]) rfl ⟨rfl, (by repeat (first | with_reducible exact Below.refl _ _ | with_reducible refine below_al ?_ _ | with_reducible refine below_dN ?_ _ | with_reducible refine Below.drew ?_ | (with_reducible refine Below.setCell ?_ (by simp <;> omega) _) | (with_reducible refine below_via (by assumption) ?_)))⟩
set_option maxHeartbeats 1000000 in
theorem r_conjugate (A B C D K : Int) (w : World) (hx : Nm.wide ⟨A, B, C, D, K⟩) : Calls Tryd.prog 58 #[nv A B C D K] w (Gives (nv A (-D) (-C) (-B) K) w) := by
  obtain ⟨⟨hA1, hA2⟩, ⟨hB1, hB2⟩, ⟨hC1, hC2⟩, ⟨hD1, hD2⟩⟩ := hx
  dsimp only at *
  go_enter Tryd.func58, Tryd.ntmps58
  go_wp2
  exact bodyPost_ret (v := nv A (-D) (-C) (-B) K) (by simp [results, Tryd.results58, go_sem]) rfl ⟨rfl, (by repeat (first | with_reducible exact Below.refl _ _ | with_reducible refine below_al ?_ _ | with_reducible refine below_dN ?_ _ | with_reducible refine Below.drew ?_ | (with_reducible refine Below.setCell ?_ (by simp <;> omega) _) | (with_reducible refine below_via (by assumption) ?_)))⟩
set_option maxHeartbeats 4000000 in
theorem r_product_raw (A B C D K a b c d k : Int) (w : World) :
    Calls Tryd.prog 40 #[nv A B C D K, nv a b c d k] w (Gives (nv (wrap64 (A * a - B * d - C * c - D * b)) (wrap64 (A * b + B * a - C * d - D * c)) (wrap64 (A * c + B * b + C * a - D * d)) (wrap64 (A * d + B * c + C * b + D * a)) (wrap64 (K + k))) w) := by
  have h : Calls Tryd.prog 40 #[nv A B C D K, nv a b c d k] w (Gives (nv (wrap64 (wrap64 (wrap64 (wrap64 (A * a) - wrap64 (B * d)) - wrap64 (C * c)) - wrap64 (D * b))) (wrap64 (wrap64 (wrap64 (wrap64 (A * b) + wrap64 (B * a)) - wrap64 (C * d)) - wrap64 (D * c))) (wrap64 (wrap64 (wrap64 (wrap64 (A * c) + wrap64 (B * b)) + wrap64 (C * a)) - wrap64 (D * d))) (wrap64 (wrap64 (wrap64 (wrap64 (A * d) + wrap64 (B * c)) + wrap64 (C * b)) + wrap64 (D * a))) (wrap64 (K + k))) w) := by
   go_enter Tryd.func40, Tryd.ntmps40
   go_wp2
   generalize wrap64 (wrap64 (wrap64 (wrap64 (A * a) - wrap64 (B * d)) - wrap64 (C * c)) - wrap64 (D * b)) = r0
   generalize wrap64 (wrap64 (wrap64 (wrap64 (A * b) + wrap64 (B * a)) - wrap64 (C * d)) - wrap64 (D * c)) = r1
   generalize wrap64 (wrap64 (wrap64 (wrap64 (A * c) + wrap64 (B * b)) + wrap64 (C * a)) - wrap64 (D * d)) = r2
   generalize wrap64 (wrap64 (wrap64 (wrap64 (A * d) + wrap64 (B * c)) + wrap64 (C * b)) + wrap64 (D * a)) = r3
   generalize wrap64 (K + k) = r4
   exact bodyPost_ret (v := nv r0 r1 r2 r3 r4) (by simp [results, Tryd.results40, go_sem]) rfl ⟨rfl, (by repeat (first | with_reducible exact Below.refl _ _ | with_reducible refine below_al ?_ _ | with_reducible refine below_dN ?_ _ | with_reducible refine Below.drew ?_ | (with_reducible refine Below.setCell ?_ (by simp <;> omega) _) | (with_reducible refine below_via (by assumption) ?_)))⟩
  simp only [wr_sub, wr_add] at h
  exact h
theorem r_product (x y : Nm) (M N : Int) (w : World) (hx : x.le M) (hy : y.le N) (hMN : M * N ≤ 1152921504606846976) (hK : -1000000 ≤ x.K ∧ x.K ≤ 1000000) (hk : -1000000 ≤ y.K ∧ y.K ≤ 1000000) :
    Calls Tryd.prog 40 #[x.v, y.v] w (Gives (mulN x y).v w) := by
  have h := r_product_raw x.A x.B x.C x.D x.K y.A y.B y.C y.D y.K w
  have hm := mulN_le hx hy
  unfold Nm.le mulN at hm
  dsimp only at hm
  rw [wr_in (by omega), wr_in (by omega), wr_in (by omega), wr_in (by omega), wr_in (n := x.K + y.K) (by omega)] at h
  exact h

set_option maxHeartbeats 2000000 in
theorem r_fits (x : Nm) (w : World) (hx : x.wide) (hK : -1000 ≤ x.K ∧ x.K ≤ 1000) : Calls Tryd.prog 38 #[x.v] w (Gives (.tuple #[(fitN x).v, .int .i64 (fitE x)]) w) := by
  have HF : Hid (∀ w, Calls Tryd.prog 36 #[x.v] w (Gives x.least.v w)) := fun w => r_form x w hx hK
  have HC : Hid (∀ w, Calls Tryd.prog 49 #[x.least.v] w (Gives (.int .i64 x.least.chk) w)) := fun w => r_check _ _ _ _ _ w
  unfold fitN fitE
  clear hx hK
  by_cases h : x.least.chk = 0
  · rw [if_pos h, if_pos h]
    rw [h] at HC
    generalize x.least = r at *
    clear h
    obtain ⟨A, B, C, D, K⟩ := x
    go_enter Tryd.func38, Tryd.ntmps38
    go_wp2_with fail
    refine (HF.out _).mono ?_
    rintro e w1 ⟨rfl, hb⟩
    have hw1 : Below w.heap.size w w1 := below_via hb (by repeat (first | with_reducible exact Below.refl _ _ | with_reducible refine below_al ?_ _ | with_reducible refine below_dN ?_ _ | with_reducible refine Below.drew ?_ | (with_reducible refine Below.setCell ?_ (by simp <;> omega) _) | (with_reducible refine below_via (by assumption) ?_)))
    have hx1 : Box w1 w.heap.size 23 ⟨A, B, C, D, K⟩ := (box_al (box_new w _ _ _ _ _ _) _).below hb (by simp <;> omega)
    have hz1 : Box w1 (w.heap.size + 1) 23 nul := by
      have h := box_new (w.alloc (.cells #[.int .i64 A, .int .i64 B, .int .i64 C, .int .i64 D, .int .i64 K] 23)) 0 0 0 0 0 23
      rw [World.size_alloc] at h
      exact h.below hb (by simp <;> omega)
    obtain ⟨c0, c1, c2, c3, c4⟩ := hx1.cell
    obtain ⟨f0, f1, f2, f3, f4⟩ := hx1.free
    have hlt1 := hx1.lt
    dsimp only at c0 c1 c2 c3 c4
    have hbx := Lib.hid (box_cells hx1 r)
    have hbz : Hid (Box (((((w1.setCell ⟨w.heap.size, 0, none⟩ (.int .i64 r.A)).setCell ⟨w.heap.size, 1, none⟩ (.int .i64 r.B)).setCell ⟨w.heap.size, 2, none⟩ (.int .i64 r.C)).setCell ⟨w.heap.size, 3, none⟩ (.int .i64 r.D)).setCell ⟨w.heap.size, 4, none⟩ (.int .i64 r.K)) (w.heap.size + 1) 23 nul) := ((((hz1.other (by omega)).other (by omega)).other (by omega)).other (by omega)).other (by omega)
    have hbw : Hid (Below w.heap.size w (((((w1.setCell ⟨w.heap.size, 0, none⟩ (.int .i64 r.A)).setCell ⟨w.heap.size, 1, none⟩ (.int .i64 r.B)).setCell ⟨w.heap.size, 2, none⟩ (.int .i64 r.C)).setCell ⟨w.heap.size, 3, none⟩ (.int .i64 r.D)).setCell ⟨w.heap.size, 4, none⟩ (.int .i64 r.K))) := ((((hw1.setCell (by simp) _).setCell (by simp) _).setCell (by simp) _).setCell (by simp) _).setCell (by simp) _
    clear hx1 hz1 hb
    go_wp2_with fail
    obtain ⟨V, hV⟩ : ∃ V, ((((w1.setCell ⟨w.heap.size, 0, none⟩ (.int .i64 r.A)).setCell ⟨w.heap.size, 1, none⟩ (.int .i64 r.B)).setCell ⟨w.heap.size, 2, none⟩ (.int .i64 r.C)).setCell ⟨w.heap.size, 3, none⟩ (.int .i64 r.D)).setCell ⟨w.heap.size, 4, none⟩ (.int .i64 r.K) = V := ⟨_, rfl⟩
    rw [hV] at hbx hbz hbw ⊢
    clear hV c0 c1 c2 c3 c4 f0 f1 f2 f3 f4 hlt1 hw1
    refine (HC.out _).mono ?_
    rintro e w2 ⟨rfl, hb2⟩
    have hx2 := hbx.out.below hb2 hbx.out.lt
    have hz2 := hbz.out.below hb2 hbz.out.lt
    have hw2 := below_via hb2 hbw.out
    obtain ⟨c0, c1, c2, c3, c4⟩ := hx2.cell
    obtain ⟨z0, z1, z2, z3, z4⟩ := hz2.cell
    obtain ⟨g0, g1, g2, g3, g4⟩ := hz2.free
    have hlt := hz2.lt
    (try dsimp only at c0 c1 c2 c3 c4 z0 z1 z2 z3 z4)
    clear hx2 hz2
    go_wp2_with fail
    exact bodyPost_ret (v := .tuple #[r.v, .int .i64 0]) (by simp [results, Tryd.results38, go_sem, z0, z1, z2, z3, z4]) rfl ⟨rfl, (by repeat (first | with_reducible exact Below.refl _ _ | with_reducible refine below_al ?_ _ | with_reducible refine below_dN ?_ _ | with_reducible refine Below.drew ?_ | (with_reducible refine Below.setCell ?_ (by simp <;> omega) _) | (with_reducible refine below_via (by assumption) ?_)))⟩
  · rw [if_neg h, if_neg h]
    have h2 : (x.least.chk != 0) = true := bne_iff_ne.2 h
    generalize x.least = r at *
    generalize r.chk = q at *
    clear h
    obtain ⟨A, B, C, D, K⟩ := x
    go_enter Tryd.func38, Tryd.ntmps38
    go_wp2_with fail
    refine (HF.out _).mono ?_
    rintro e w1 ⟨rfl, hb⟩
    have hw1 : Below w.heap.size w w1 := below_via hb (by repeat (first | with_reducible exact Below.refl _ _ | with_reducible refine below_al ?_ _ | with_reducible refine below_dN ?_ _ | with_reducible refine Below.drew ?_ | (with_reducible refine Below.setCell ?_ (by simp <;> omega) _) | (with_reducible refine below_via (by assumption) ?_)))
    have hx1 : Box w1 w.heap.size 23 ⟨A, B, C, D, K⟩ := (box_al (box_new w _ _ _ _ _ _) _).below hb (by simp <;> omega)
    have hz1 : Box w1 (w.heap.size + 1) 23 nul := by
      have h := box_new (w.alloc (.cells #[.int .i64 A, .int .i64 B, .int .i64 C, .int .i64 D, .int .i64 K] 23)) 0 0 0 0 0 23
      rw [World.size_alloc] at h
      exact h.below hb (by simp <;> omega)
    obtain ⟨c0, c1, c2, c3, c4⟩ := hx1.cell
    obtain ⟨f0, f1, f2, f3, f4⟩ := hx1.free
    have hlt1 := hx1.lt
    dsimp only at c0 c1 c2 c3 c4
    have hbx := Lib.hid (box_cells hx1 r)
    have hbz : Hid (Box (((((w1.setCell ⟨w.heap.size, 0, none⟩ (.int .i64 r.A)).setCell ⟨w.heap.size, 1, none⟩ (.int .i64 r.B)).setCell ⟨w.heap.size, 2, none⟩ (.int .i64 r.C)).setCell ⟨w.heap.size, 3, none⟩ (.int .i64 r.D)).setCell ⟨w.heap.size, 4, none⟩ (.int .i64 r.K)) (w.heap.size + 1) 23 nul) := ((((hz1.other (by omega)).other (by omega)).other (by omega)).other (by omega)).other (by omega)
    have hbw : Hid (Below w.heap.size w (((((w1.setCell ⟨w.heap.size, 0, none⟩ (.int .i64 r.A)).setCell ⟨w.heap.size, 1, none⟩ (.int .i64 r.B)).setCell ⟨w.heap.size, 2, none⟩ (.int .i64 r.C)).setCell ⟨w.heap.size, 3, none⟩ (.int .i64 r.D)).setCell ⟨w.heap.size, 4, none⟩ (.int .i64 r.K))) := ((((hw1.setCell (by simp) _).setCell (by simp) _).setCell (by simp) _).setCell (by simp) _).setCell (by simp) _
    clear hx1 hz1 hb
    go_wp2_with fail
    obtain ⟨V, hV⟩ : ∃ V, ((((w1.setCell ⟨w.heap.size, 0, none⟩ (.int .i64 r.A)).setCell ⟨w.heap.size, 1, none⟩ (.int .i64 r.B)).setCell ⟨w.heap.size, 2, none⟩ (.int .i64 r.C)).setCell ⟨w.heap.size, 3, none⟩ (.int .i64 r.D)).setCell ⟨w.heap.size, 4, none⟩ (.int .i64 r.K) = V := ⟨_, rfl⟩
    rw [hV] at hbx hbz hbw ⊢
    clear hV c0 c1 c2 c3 c4 f0 f1 f2 f3 f4 hlt1 hw1
    refine (HC.out _).mono ?_
    rintro e w2 ⟨rfl, hb2⟩
    have hx2 := hbx.out.below hb2 hbx.out.lt
    have hz2 := hbz.out.below hb2 hbz.out.lt
    have hw2 := below_via hb2 hbw.out
    obtain ⟨c0, c1, c2, c3, c4⟩ := hx2.cell
    obtain ⟨z0, z1, z2, z3, z4⟩ := hz2.cell
    obtain ⟨g0, g1, g2, g3, g4⟩ := hz2.free
    have hlt := hz2.lt
    (try dsimp only at c0 c1 c2 c3 c4 z0 z1 z2 z3 z4)
    clear hx2 hz2
    go_wp2_with fail
    exact bodyPost_ret (v := .tuple #[nul.v, .int .i64 8]) (by simp [results, Tryd.results38, go_sem, z0, z1, z2, z3, z4]) rfl ⟨rfl, (by repeat (first | with_reducible exact Below.refl _ _ | with_reducible refine below_al ?_ _ | with_reducible refine below_dN ?_ _ | with_reducible refine Below.drew ?_ | (with_reducible refine Below.setCell ?_ (by simp <;> omega) _) | (with_reducible refine below_via (by assumption) ?_)))⟩

theorem negN_wide {x : Nm} (h : x.wide) : (negN x).wide := by unfold Nm.wide negN at *; dsimp only at *; omega
theorem conjN_wide {x : Nm} (h : x.wide) : (conjN x).wide := by unfold Nm.wide conjN at *; dsimp only at *; omega
/-- What the reference's Neg, Conj and Dot return. -/
def turnV (x y : Nm) : Value := .tuple #[(if x.chk = 0 then y.least else nul).v, .int .i64 x.chk]

end Go.Proofs.YtjalpolciofphaaDoor
