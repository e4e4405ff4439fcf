/- The reference's Neg, Conj, Dot, product, fits. -/
import Derived.Test.YtcdmcndjbajhlaaGreatDoorPt
import Derived.Test.YtcdmcndjbajhlaaGreatDoorPh
import Derived.Test.YtcdmcndjbajhlaaGreatDoorJb
set_option linter.all false
set_option maxRecDepth 100000
namespace Go.Proofs.YtcdmcndjbajhlaaGreatDoor
open Go.RowKit Go.Shelf
attribute [local go_sem] run_field_num

def printT (r : Nm) : ByteArray := if r.K = 0 then termsT r else { data := #[40] } ++ termsT r ++ { data := #[41, 47, 114] } ++ bytesOf r.K
theorem termsT_size (x : Nm) (hx : ∀ k, -9223372036854775808 ≤ coefAt x k ∧ coefAt x k ≤ 9223372036854775807) : (termsT x).size ≤ 96 := by
  have h := textU_size x hx 4
  unfold termsT
  split
  · decide
  · omega

set_option maxHeartbeats 4000000 in
theorem Print_ok (A B C D K : Int) (r : Nm) (w : World) (hx : ∀ k, -9223372036854775808 ≤ coefAt r k ∧ coefAt r k ≤ 9223372036854775807) (hK : 0 ≤ r.K ∧ r.K ≤ 1000) (hN : NamesAre w) (htab : Lib.TabIs Tryz.prog w "internal/strconv.uint64pow10" .u64 Lib.pow10Tab)
    (HC : Hid (∀ w, Calls Tryz.prog 15 #[nv A B C D K] w (Gives (.int .i64 0) w)))
    (HL : Hid (∀ w, Calls Tryz.prog 16 #[nv A B C D K] w (Gives r.v w))) :
    Calls Tryz.prog 6 #[nv A B C D K] w (Gives (.tuple #[.string (printT r), .int .i64 0]) w) := by
  have HT : Hid (∀ w', Below w.heap.size w w' → Calls Tryz.prog 17 #[.agg #[.int .i64 r.A, .int .i64 r.B, .int .i64 r.C, .int .i64 r.D]] w' (Gives (.string (termsT r)) w')) :=
    fun w' hb => printTerms_any r w' hx (hN.below hb) (Lib.tabBelow_of_tabIs htab w' hb)
  have HI : Hid (∀ w', Below w.heap.size w w' → Calls Tryz.prog 19 #[.int .i64 r.K] w' (Gives (.string (bytesOf r.K)) w')) := fun w' hb => by
    refine (Tryz.strconv_Itoa r.K (by omega) (by omega) _ (Lib.tabBelow_of_tabIs htab w' hb)).mono ?_
    rintro e w1 ⟨rfl, k1, os1, hg⟩
    exact ⟨rfl, hg ▸ below_grow _ _ _⟩
  have hs := termsT_size r hx
  have hl := Lib.itoa_length_le r.K (by omega) (by omega)
  have hp : Hid (printT r = if r.K = 0 then termsT r else { data := #[40] } ++ termsT r ++ { data := #[41, 47, 114] } ++ bytesOf r.K) := rfl
  generalize termsT r = t at *
  have o1 : ¬ 9223372036854775807 < 1 + t.size := by omega
  have o2 : ¬ 9223372036854775807 < 1 + t.size + 3 := by omega
  have o3 : ¬ 9223372036854775807 < 1 + t.size + 3 + (Lib.itoa r.K).length := by omega
  clear hx hN htab hs hl
  go_enter Tryz.func6, Tryz.ntmps6
  go_wp2_with fail
  refine (HC.out _).mono ?_
  rintro e w1 ⟨rfl, hb⟩
  have hw1 : Below w.heap.size w w1 := (by repeat (first | with_reducible exact Below.refl _ _ | with_reducible refine below_al ?_ _ | with_reducible refine below_dN ?_ _ | with_reducible refine Below.drew ?_ | (with_reducible refine Below.setCell ?_ (by simp <;> omega) _) | (with_reducible refine below_via (by assumption) ?_)))
  have bx : Box w1 w.heap.size 23 ⟨A, B, C, D, K⟩ := by
    have h := box_new w A B C D K 23
    exact h.below hb (by simp)
  obtain ⟨c0, c1, c2, c3, c4⟩ := bx.cell
  have hlt0 := bx.lt
  clear bx
  go_wp2_with fail
  refine (HL.out _).mono ?_
  rintro e w2 ⟨rfl, hb2⟩
  have hw2 : Below w.heap.size w w2 := below_via hb2 hw1
  go_wp2_with fail
  obtain ⟨V, hV⟩ : ∃ V, w2.alloc (Obj.cells #[.int .i64 r.A, .int .i64 r.B, .int .i64 r.C, .int .i64 r.D, .int .i64 r.K] 40) = V := ⟨_, rfl⟩
  have hVw : Below w.heap.size w V := by rw [← hV]; exact (by repeat (first | with_reducible exact Below.refl _ _ | with_reducible refine below_al ?_ _ | with_reducible refine below_dN ?_ _ | with_reducible refine Below.drew ?_ | (with_reducible refine Below.setCell ?_ (by simp <;> omega) _) | (with_reducible refine below_via (by assumption) ?_)))
  have hVb : Box V w2.heap.size 40 r := by rw [← hV]; exact heap_alloc_new w2 _
  rw [hV]
  clear hV
  refine (coefs_any _ _ _ _ _ _).mono ?_
  rintro e w3 ⟨rfl, hb3⟩
  have hw3 : Below w.heap.size w w3 := below_via hb3 hVw
  have hVb3 := hVb.below hb3 hVb.lt
  go_wp2_with fail
  refine (HT.out _ hw3).mono ?_
  rintro e w4 ⟨rfl, hb4⟩
  have hw4 : Below w.heap.size w w4 := below_via hb4 hw3
  have hVb4 := hVb3.below hb4 hVb3.lt
  obtain ⟨k0, k1, k2, k3, k4⟩ := hVb4.cell
  by_cases hk : r.K = 0
  · have hkb : (r.K == 0) = true := by simp [hk]
    rw [if_pos hk] at hp
    go_wp2_with fail
    go_ret2
    rw [hp.out]
    exact ⟨rfl, hw4⟩
  · have hkb : (r.K == 0) = false := by simp [hk]
    rw [if_neg hk] at hp
    go_wp2_with (go_at_call 19; (with_reducible refine (HI.out _ hw4).mono ?_); rintro e w5 ⟨rfl, hb5⟩)
    go_ret2
    rw [hp.out]
    exact ⟨rfl, below_via hb5 hw4⟩

set_option maxHeartbeats 2000000 in
theorem Print_bad (A B C D K : Int) (w : World) (hq : (chk A B C D K != 0) = true) :
    Calls Tryz.prog 6 #[nv A B C D K] w (Gives (.tuple #[.string { data := #[] }, .int .i64 (chk A B C D K)]) w) := by
  have HC2 : Hid (∀ w, Calls Tryz.prog 15 #[nv A B C D K] w (Gives (.int .i64 (chk A B C D K)) w)) := fun w => check_any A B C D K w
  generalize chk A B C D K = q at *
  go_enter Tryz.func6, Tryz.ntmps6
  go_wp2_with fail
  refine (HC2.out _).mono ?_
  rintro e w1 ⟨rfl, hb⟩
  obtain ⟨hc, hf⟩ := bcell hb
  go_wp2_with fail
  go_ret2
  exact ⟨rfl, (by repeat (first | with_reducible exact Below.refl _ _ | with_reducible refine below_al ?_ _ | with_reducible refine below_dN ?_ _ | with_reducible refine Below.drew ?_ | (with_reducible refine Below.setCell ?_ (by simp <;> omega) _) | (with_reducible refine below_via (by assumption) ?_)))⟩
theorem inb_coefs {r : Nm} (h : r.inb 1073741824 = true) : ∀ k, -9223372036854775808 ≤ coefAt r k ∧ coefAt r k ≤ 9223372036854775807 := by
  simp [Nm.inb, inb] at h
  intro k
  unfold coefAt
  split <;> omega
theorem Print_any (A B C D K : Int) (w : World) (hN : NamesAre w) (htab : Lib.TabIs Tryz.prog w "internal/strconv.uint64pow10" .u64 Lib.pow10Tab) :
    Calls Tryz.prog 6 #[nv A B C D K] w (Gives (.tuple #[.string (if chk A B C D K = 0 then printT (Nm.least ⟨A, B, C, D, K⟩) else { data := #[] }), .int .i64 (chk A B C D K)]) w) := by
  by_cases h : chk A B C D K = 0
  · rw [if_pos h, h]
    have hk := chk_ok h
    have hin : (Nm.least ⟨A, B, C, D, K⟩).inb 1073741824 = true := least_inb (by omega) (by simp [Nm.inb, inb]; omega)
    have hK := least_K (x := ⟨A, B, C, D, K⟩) (by show 0 ≤ K; omega)
    have hK2 : (Nm.least ⟨A, B, C, D, K⟩).K ≤ K := hK.2
    exact Print_ok A B C D K _ w (inb_coefs hin) (by omega) hN htab (fun w => by have h1 := check_any A B C D K w; rw [h] at h1; exact h1) (right_least h)
  · rw [if_neg h]
    exact Print_bad A B C D K w (bne_iff_ne.2 h)
end Go.Proofs.YtcdmcndjbajhlaaGreatDoor
namespace Go.Proofs.YtcdmcndjbajhlaaGreatDoor
open Go.RowKit

set_option maxHeartbeats 1000000 in
theorem r_negative (A B C D K : Int) (w : World) (hx : Nm.wide ⟨A, B, C, D, K⟩) : Calls Tryz.prog 87 #[nv A B C D K] w (Gives (nv (-A) (-B) (-C) (-D) K) w) := by
  obtain ⟨⟨hA1, hA2⟩, ⟨hB1, hB2⟩, ⟨hC1, hC2⟩, ⟨hD1, hD2⟩⟩ := hx
  dsimp only at *
  go_enter Tryz.func87, Tryz.ntmps87
  go_wp2
  exact bodyPost_ret (v := nv (-A) (-B) (-C) (-D) K) (by simp [results, Tryz.results87, go_sem]) rfl ⟨rfl, (by repeat (first | with_reducible exact Below.refl _ _ | with_reducible refine below_al ?_ _ | with_reducible refine below_dN ?_ _ | with_reducible refine Below.drew ?_ | (with_reducible refine Below.setCell ?_ (by simp <;> omega) _) | (with_reducible refine below_via (by assumption) ?_)))⟩
set_option maxHeartbeats 1000000 in
theorem r_conjugate (A B C D K : Int) (w : World) (hx : Nm.wide ⟨A, B, C, D, K⟩) : Calls Tryz.prog 91 #[nv A B C D K] w (Gives (nv A (-D) (-C) (-B) K) w) := by
  obtain ⟨⟨hA1, hA2⟩, ⟨hB1, hB2⟩, ⟨hC1, hC2⟩, ⟨hD1, hD2⟩⟩ := hx
  dsimp only at *
  go_enter Tryz.func91, Tryz.ntmps91
  go_wp2
  exact bodyPost_ret (v := nv A (-D) (-C) (-B) K) (by simp [results, Tryz.results91, go_sem]) rfl ⟨rfl, (by repeat (first | with_reducible exact Below.refl _ _ | with_reducible refine below_al ?_ _ | with_reducible refine below_dN ?_ _ | with_reducible refine Below.drew ?_ | (with_reducible refine Below.setCell ?_ (by simp <;> omega) _) | (with_reducible refine below_via (by assumption) ?_)))⟩
set_option maxHeartbeats 4000000 in
theorem r_product_raw (A B C D K a b c d k : Int) (w : World) :
    Calls Tryz.prog 88 #[nv A B C D K, nv a b c d k] w (Gives (nv (wrap64 (A * a - B * d - C * c - D * b)) (wrap64 (A * b + B * a - C * d - D * c)) (wrap64 (A * c + B * b + C * a - D * d)) (wrap64 (A * d + B * c + C * b + D * a)) (wrap64 (K + k))) w) := by
  have h : Calls Tryz.prog 88 #[nv A B C D K, nv a b c d k] w (Gives (nv (wrap64 (wrap64 (wrap64 (wrap64 (A * a) - wrap64 (B * d)) - wrap64 (C * c)) - wrap64 (D * b))) (wrap64 (wrap64 (wrap64 (wrap64 (A * b) + wrap64 (B * a)) - wrap64 (C * d)) - wrap64 (D * c))) (wrap64 (wrap64 (wrap64 (wrap64 (A * c) + wrap64 (B * b)) + wrap64 (C * a)) - wrap64 (D * d))) (wrap64 (wrap64 (wrap64 (wrap64 (A * d) + wrap64 (B * c)) + wrap64 (C * b)) + wrap64 (D * a))) (wrap64 (K + k))) w) := by
   go_enter Tryz.func88, Tryz.ntmps88
   go_wp2
   generalize wrap64 (wrap64 (wrap64 (wrap64 (A * a) - wrap64 (B * d)) - wrap64 (C * c)) - wrap64 (D * b)) = r0
   generalize wrap64 (wrap64 (wrap64 (wrap64 (A * b) + wrap64 (B * a)) - wrap64 (C * d)) - wrap64 (D * c)) = r1
   generalize wrap64 (wrap64 (wrap64 (wrap64 (A * c) + wrap64 (B * b)) + wrap64 (C * a)) - wrap64 (D * d)) = r2
   generalize wrap64 (wrap64 (wrap64 (wrap64 (A * d) + wrap64 (B * c)) + wrap64 (C * b)) + wrap64 (D * a)) = r3
   generalize wrap64 (K + k) = r4
   exact bodyPost_ret (v := nv r0 r1 r2 r3 r4) (by simp [results, Tryz.results88, go_sem]) rfl ⟨rfl, (by repeat (first | with_reducible exact Below.refl _ _ | with_reducible refine below_al ?_ _ | with_reducible refine below_dN ?_ _ | with_reducible refine Below.drew ?_ | (with_reducible refine Below.setCell ?_ (by simp <;> omega) _) | (with_reducible refine below_via (by assumption) ?_)))⟩
  simp only [wr_sub, wr_add] at h
  exact h
theorem r_product (x y : Nm) (M N : Int) (w : World) (hx : x.le M) (hy : y.le N) (hMN : M * N ≤ 1152921504606846976) (hK : -1000000 ≤ x.K ∧ x.K ≤ 1000000) (hk : -1000000 ≤ y.K ∧ y.K ≤ 1000000) :
    Calls Tryz.prog 88 #[x.v, y.v] w (Gives (mulN x y).v w) := by
  have h := r_product_raw x.A x.B x.C x.D x.K y.A y.B y.C y.D y.K w
  have hm := mulN_le hx hy
  unfold Nm.le mulN at hm
  dsimp only at hm
  rw [wr_in (by omega), wr_in (by omega), wr_in (by omega), wr_in (by omega), wr_in (n := x.K + y.K) (by omega)] at h
  exact h

set_option maxHeartbeats 2000000 in
theorem r_fits (x : Nm) (w : World) (hx : x.wide) (hK : -1000 ≤ x.K ∧ x.K ≤ 1000) : Calls Tryz.prog 86 #[x.v] w (Gives (.tuple #[(fitN x).v, .int .i64 (fitE x)]) w) := by
  have HF : Hid (∀ w, Calls Tryz.prog 63 #[x.v] w (Gives x.least.v w)) := fun w => r_form x w hx hK
  have HC : Hid (∀ w, Calls Tryz.prog 41 #[x.least.v] w (Gives (.int .i64 x.least.chk) w)) := fun w => r_check _ _ _ _ _ w
  unfold fitN fitE
  clear hx hK
  by_cases h : x.least.chk = 0
  · rw [if_pos h, if_pos h]
    rw [h] at HC
    generalize x.least = r at *
    clear h
    obtain ⟨A, B, C, D, K⟩ := x
    go_enter Tryz.func86, Tryz.ntmps86
    go_wp2_with fail
    refine (HF.out _).mono ?_
    rintro e w1 ⟨rfl, hb⟩
    have hw1 : Below w.heap.size w w1 := below_via hb (by repeat (first | with_reducible exact Below.refl _ _ | with_reducible refine below_al ?_ _ | with_reducible refine below_dN ?_ _ | with_reducible refine Below.drew ?_ | (with_reducible refine Below.setCell ?_ (by simp <;> omega) _) | (with_reducible refine below_via (by assumption) ?_)))
    have hx1 : Box w1 w.heap.size 23 ⟨A, B, C, D, K⟩ := (box_al (box_new w _ _ _ _ _ _) _).below hb (by simp <;> omega)
    have hz1 : Box w1 (w.heap.size + 1) 23 nul := by
      have h := box_new (w.alloc (.cells #[.int .i64 A, .int .i64 B, .int .i64 C, .int .i64 D, .int .i64 K] 23)) 0 0 0 0 0 23
      rw [World.size_alloc] at h
      exact h.below hb (by simp <;> omega)
    obtain ⟨c0, c1, c2, c3, c4⟩ := hx1.cell
    obtain ⟨f0, f1, f2, f3, f4⟩ := hx1.free
    have hlt1 := hx1.lt
    dsimp only at c0 c1 c2 c3 c4
    have hbx := Lib.hid (box_cells hx1 r)
    have hbz : Hid (Box (((((w1.setCell ⟨w.heap.size, 0, none⟩ (.int .i64 r.A)).setCell ⟨w.heap.size, 1, none⟩ (.int .i64 r.B)).setCell ⟨w.heap.size, 2, none⟩ (.int .i64 r.C)).setCell ⟨w.heap.size, 3, none⟩ (.int .i64 r.D)).setCell ⟨w.heap.size, 4, none⟩ (.int .i64 r.K)) (w.heap.size + 1) 23 nul) := ((((hz1.other (by omega)).other (by omega)).other (by omega)).other (by omega)).other (by omega)
    have hbw : Hid (Below w.heap.size w (((((w1.setCell ⟨w.heap.size, 0, none⟩ (.int .i64 r.A)).setCell ⟨w.heap.size, 1, none⟩ (.int .i64 r.B)).setCell ⟨w.heap.size, 2, none⟩ (.int .i64 r.C)).setCell ⟨w.heap.size, 3, none⟩ (.int .i64 r.D)).setCell ⟨w.heap.size, 4, none⟩ (.int .i64 r.K))) := ((((hw1.setCell (by simp) _).setCell (by simp) _).setCell (by simp) _).setCell (by simp) _).setCell (by simp) _
    clear hx1 hz1 hb
    go_wp2_with fail
    obtain ⟨V, hV⟩ : ∃ V, ((((w1.setCell ⟨w.heap.size, 0, none⟩ (.int .i64 r.A)).setCell ⟨w.heap.size, 1, none⟩ (.int .i64 r.B)).setCell ⟨w.heap.size, 2, none⟩ (.int .i64 r.C)).setCell ⟨w.heap.size, 3, none⟩ (.int .i64 r.D)).setCell ⟨w.heap.size, 4, none⟩ (.int .i64 r.K) = V := ⟨_, rfl⟩
    rw [hV] at hbx hbz hbw ⊢
    clear hV c0 c1 c2 c3 c4 f0 f1 f2 f3 f4 hlt1 hw1
    refine (HC.out _).mono ?_
    rintro e w2 ⟨rfl, hb2⟩
    have hx2 := hbx.out.below hb2 hbx.out.lt
    have hz2 := hbz.out.below hb2 hbz.out.lt
    have hw2 := below_via hb2 hbw.out
    obtain ⟨c0, c1, c2, c3, c4⟩ := hx2.cell
    obtain ⟨z0, z1, z2, z3, z4⟩ := hz2.cell
    obtain ⟨g0, g1, g2, g3, g4⟩ := hz2.free
    have hlt := hz2.lt
    (try dsimp only at c0 c1 c2 c3 c4 z0 z1 z2 z3 z4)
    clear hx2 hz2
    go_wp2_with fail
    exact bodyPost_ret (v := .tuple #[r.v, .int .i64 0]) (by simp [results, Tryz.results86, go_sem, z0, z1, z2, z3, z4]) rfl ⟨rfl, (by repeat (first | with_reducible exact Below.refl _ _ | with_reducible refine below_al ?_ _ | with_reducible refine below_dN ?_ _ | with_reducible refine Below.drew ?_ | (with_reducible refine Below.setCell ?_ (by simp <;> omega) _) | (with_reducible refine below_via (by assumption) ?_)))⟩
  · rw [if_neg h, if_neg h]
    have h2 : (x.least.chk != 0) = true := bne_iff_ne.2 h
    generalize x.least = r at *
    generalize r.chk = q at *
    clear h
    obtain ⟨A, B, C, D, K⟩ := x
    go_enter Tryz.func86, Tryz.ntmps86
    go_wp2_with fail
    refine (HF.out _).mono ?_
    rintro e w1 ⟨rfl, hb⟩
    have hw1 : Below w.heap.size w w1 := below_via hb (by repeat (first | with_reducible exact Below.refl _ _ | with_reducible refine below_al ?_ _ | with_reducible refine below_dN ?_ _ | with_reducible refine Below.drew ?_ | (with_reducible refine Below.setCell ?_ (by simp <;> omega) _) | (with_reducible refine below_via (by assumption) ?_)))
    have hx1 : Box w1 w.heap.size 23 ⟨A, B, C, D, K⟩ := (box_al (box_new w _ _ _ _ _ _) _).below hb (by simp <;> omega)
    have hz1 : Box w1 (w.heap.size + 1) 23 nul := by
      have h := box_new (w.alloc (.cells #[.int .i64 A, .int .i64 B, .int .i64 C, .int .i64 D, .int .i64 K] 23)) 0 0 0 0 0 23
      rw [World.size_alloc] at h
      exact h.below hb (by simp <;> omega)
    obtain ⟨c0, c1, c2, c3, c4⟩ := hx1.cell
    obtain ⟨f0, f1, f2, f3, f4⟩ := hx1.free
    have hlt1 := hx1.lt
    dsimp only at c0 c1 c2 c3 c4
    have hbx := Lib.hid (box_cells hx1 r)
    have hbz : Hid (Box (((((w1.setCell ⟨w.heap.size, 0, none⟩ (.int .i64 r.A)).setCell ⟨w.heap.size, 1, none⟩ (.int .i64 r.B)).setCell ⟨w.heap.size, 2, none⟩ (.int .i64 r.C)).setCell ⟨w.heap.size, 3, none⟩ (.int .i64 r.D)).setCell ⟨w.heap.size, 4, none⟩ (.int .i64 r.K)) (w.heap.size + 1) 23 nul) := ((((hz1.other (by omega)).other (by omega)).other (by omega)).other (by omega)).other (by omega)
    have hbw : Hid (Below w.heap.size w (((((w1.setCell ⟨w.heap.size, 0, none⟩ (.int .i64 r.A)).setCell ⟨w.heap.size, 1, none⟩ (.int .i64 r.B)).setCell ⟨w.heap.size, 2, none⟩ (.int .i64 r.C)).setCell ⟨w.heap.size, 3, none⟩ (.int .i64 r.D)).setCell ⟨w.heap.size, 4, none⟩ (.int .i64 r.K))) := ((((hw1.setCell (by simp) _).setCell (by simp) _).setCell (by simp) _).setCell (by simp) _).setCell (by simp) _
    clear hx1 hz1 hb
    go_wp2_with fail
    obtain ⟨V, hV⟩ : ∃ V, ((((w1.setCell ⟨w.heap.size, 0, none⟩ (.int .i64 r.A)).setCell ⟨w.heap.size, 1, none⟩ (.int .i64 r.B)).setCell ⟨w.heap.size, 2, none⟩ (.int .i64 r.C)).setCell ⟨w.heap.size, 3, none⟩ (.int .i64 r.D)).setCell ⟨w.heap.size, 4, none⟩ (.int .i64 r.K) = V := ⟨_, rfl⟩
    rw [hV] at hbx hbz hbw ⊢
    clear hV c0 c1 c2 c3 c4 f0 f1 f2 f3 f4 hlt1 hw1
    refine (HC.out _).mono ?_
    rintro e w2 ⟨rfl, hb2⟩
    have hx2 := hbx.out.below hb2 hbx.out.lt
    have hz2 := hbz.out.below hb2 hbz.out.lt
    have hw2 := below_via hb2 hbw.out
    obtain ⟨c0, c1, c2, c3, c4⟩ := hx2.cell
    obtain ⟨z0, z1, z2, z3, z4⟩ := hz2.cell
    obtain ⟨g0, g1, g2, g3, g4⟩ := hz2.free
    have hlt := hz2.lt
    (try dsimp only at c0 c1 c2 c3 c4 z0 z1 z2 z3 z4)
    clear hx2 hz2
    go_wp2_with fail
    exact bodyPost_ret (v := .tuple #[nul.v, .int .i64 8]) (by simp [results, Tryz.results86, go_sem, z0, z1, z2, z3, z4]) rfl ⟨rfl, (by repeat (first | with_reducible exact Below.refl _ _ | with_reducible refine below_al ?_ _ | with_reducible refine below_dN ?_ _ | with_reducible refine Below.drew ?_ | (with_reducible refine Below.setCell ?_ (by simp <;> omega) _) | (with_reducible refine below_via (by assumption) ?_)))⟩

theorem negN_wide {x : Nm} (h : x.wide) : (negN x).wide := by unfold Nm.wide negN at *; dsimp only at *; omega
theorem conjN_wide {x : Nm} (h : x.wide) : (conjN x).wide := by unfold Nm.wide conjN at *; dsimp only at *; omega
/-- What the reference's Neg, Conj and Dot return. -/
def turnV (x y : Nm) : Value := .tuple #[(if x.chk = 0 then y.least else nul).v, .int .i64 x.chk]

set_option maxHeartbeats 2000000 in
theorem r_Neg (x : Nm) (w : World) : Calls Tryz.prog 47 #[x.v] w (Gives (turnV x (negN x)) w) := by
  have HC : Hid (∀ w, Calls Tryz.prog 41 #[x.v] w (Gives (.int .i64 x.chk) w)) := fun w => r_check _ _ _ _ _ w
  unfold turnV
  by_cases h : x.chk = 0
  · have hk := chk_ok (A := x.A) (B := x.B) (C := x.C) (D := x.D) (K := x.K) h
    have hw : x.wide := right_wide h
    have HT : Hid (∀ w, Calls Tryz.prog 87 #[x.v] w (Gives (negN x).v w)) := fun w => r_negative _ _ _ _ _ w hw
    have HF : Hid (∀ w, Calls Tryz.prog 63 #[(negN x).v] w (Gives (negN x).least.v w)) := fun w => r_form _ w (negN_wide hw) (by have e : (negN x).K = x.K := rfl; omega)
    rw [if_pos h, h]
    rw [h] at HC
    generalize (negN x).least = r at *
    generalize negN x = y at *
    clear h hk hw
    obtain ⟨A, B, C, D, K⟩ := x
    go_enter Tryz.func47, Tryz.ntmps47
    go_wp2_with fail
    refine (HC.out _).mono ?_
    rintro e w1 ⟨rfl, hb⟩
    obtain ⟨hc, hf⟩ := bcell hb
    have hw1 : Below w.heap.size w w1 := below_via hb (by repeat (first | with_reducible exact Below.refl _ _ | with_reducible refine below_al ?_ _ | with_reducible refine below_dN ?_ _ | with_reducible refine Below.drew ?_ | (with_reducible refine Below.setCell ?_ (by simp <;> omega) _) | (with_reducible refine below_via (by assumption) ?_)))
    have hz1 : Hid (Box w1 (w.heap.size + 1) 23 nul) := by
      have h := box_new (w.alloc (.cells #[.int .i64 A, .int .i64 B, .int .i64 C, .int .i64 D, .int .i64 K] 23)) 0 0 0 0 0 23
      rw [World.size_alloc] at h
      exact h.below hb (by simp <;> omega)
    go_wp2_with fail
    refine (HT.out _).mono ?_
    rintro e w2 ⟨rfl, hb2⟩
    go_wp2_with fail
    refine (HF.out _).mono ?_
    rintro e w3 ⟨rfl, hb3⟩
    have hz3 := (hz1.out.below hb2 hz1.out.lt).below hb3 (hz1.out.below hb2 hz1.out.lt).lt
    have hw3 := below_via hb3 (below_via hb2 hw1)
    obtain ⟨z0, z1, z2, z3, z4⟩ := hz3.cell
    obtain ⟨g0, g1, g2, g3, g4⟩ := hz3.free
    have hlt := hz3.lt
    (try dsimp only at z0 z1 z2 z3 z4)
    clear hz3
    go_wp2_with fail
    exact bodyPost_ret (v := .tuple #[r.v, .int .i64 0]) (by simp [results, Tryz.results47, go_sem, z0, z1, z2, z3, z4]) rfl ⟨rfl, (by repeat (first | with_reducible exact Below.refl _ _ | with_reducible refine below_al ?_ _ | with_reducible refine below_dN ?_ _ | with_reducible refine Below.drew ?_ | (with_reducible refine Below.setCell ?_ (by simp <;> omega) _) | (with_reducible refine below_via (by assumption) ?_)))⟩
  · rw [if_neg h]
    have h2 : (x.chk != 0) = true := bne_iff_ne.2 h
    generalize x.chk = q at *
    obtain ⟨A, B, C, D, K⟩ := x
    go_enter Tryz.func47, Tryz.ntmps47
    go_wp2_with fail
    refine (HC.out _).mono ?_
    rintro e w1 ⟨rfl, hb⟩
    obtain ⟨hc, hf⟩ := bcell hb
    go_wp2_with fail
    exact bodyPost_ret (v := .tuple #[nul.v, .int .i64 q]) (by simp [results, Tryz.results47, go_sem, hc]) rfl ⟨rfl, (by repeat (first | with_reducible exact Below.refl _ _ | with_reducible refine below_al ?_ _ | with_reducible refine below_dN ?_ _ | with_reducible refine Below.drew ?_ | (with_reducible refine Below.setCell ?_ (by simp <;> omega) _) | (with_reducible refine below_via (by assumption) ?_)))⟩

set_option maxHeartbeats 2000000 in
theorem r_Conj (x : Nm) (w : World) : Calls Tryz.prog 48 #[x.v] w (Gives (turnV x (conjN x)) w) := by
  have HC : Hid (∀ w, Calls Tryz.prog 41 #[x.v] w (Gives (.int .i64 x.chk) w)) := fun w => r_check _ _ _ _ _ w
  unfold turnV
  by_cases h : x.chk = 0
  · have hk := chk_ok (A := x.A) (B := x.B) (C := x.C) (D := x.D) (K := x.K) h
    have hw : x.wide := right_wide h
    have HT : Hid (∀ w, Calls Tryz.prog 91 #[x.v] w (Gives (conjN x).v w)) := fun w => r_conjugate _ _ _ _ _ w hw
    have HF : Hid (∀ w, Calls Tryz.prog 63 #[(conjN x).v] w (Gives (conjN x).least.v w)) := fun w => r_form _ w (conjN_wide hw) (by have e : (conjN x).K = x.K := rfl; omega)
    rw [if_pos h, h]
    rw [h] at HC
    generalize (conjN x).least = r at *
    generalize conjN x = y at *
    clear h hk hw
    obtain ⟨A, B, C, D, K⟩ := x
    go_enter Tryz.func48, Tryz.ntmps48
    go_wp2_with fail
    refine (HC.out _).mono ?_
    rintro e w1 ⟨rfl, hb⟩
    obtain ⟨hc, hf⟩ := bcell hb
    have hw1 : Below w.heap.size w w1 := below_via hb (by repeat (first | with_reducible exact Below.refl _ _ | with_reducible refine below_al ?_ _ | with_reducible refine below_dN ?_ _ | with_reducible refine Below.drew ?_ | (with_reducible refine Below.setCell ?_ (by simp <;> omega) _) | (with_reducible refine below_via (by assumption) ?_)))
    have hz1 : Hid (Box w1 (w.heap.size + 1) 23 nul) := by
      have h := box_new (w.alloc (.cells #[.int .i64 A, .int .i64 B, .int .i64 C, .int .i64 D, .int .i64 K] 23)) 0 0 0 0 0 23
      rw [World.size_alloc] at h
      exact h.below hb (by simp <;> omega)
    go_wp2_with fail
    refine (HT.out _).mono ?_
    rintro e w2 ⟨rfl, hb2⟩
    go_wp2_with fail
    refine (HF.out _).mono ?_
    rintro e w3 ⟨rfl, hb3⟩
    have hz3 := (hz1.out.below hb2 hz1.out.lt).below hb3 (hz1.out.below hb2 hz1.out.lt).lt
    have hw3 := below_via hb3 (below_via hb2 hw1)
    obtain ⟨z0, z1, z2, z3, z4⟩ := hz3.cell
    obtain ⟨g0, g1, g2, g3, g4⟩ := hz3.free
    have hlt := hz3.lt
    (try dsimp only at z0 z1 z2 z3 z4)
    clear hz3
    go_wp2_with fail
    exact bodyPost_ret (v := .tuple #[r.v, .int .i64 0]) (by simp [results, Tryz.results48, go_sem, z0, z1, z2, z3, z4]) rfl ⟨rfl, (by repeat (first | with_reducible exact Below.refl _ _ | with_reducible refine below_al ?_ _ | with_reducible refine below_dN ?_ _ | with_reducible refine Below.drew ?_ | (with_reducible refine Below.setCell ?_ (by simp <;> omega) _) | (with_reducible refine below_via (by assumption) ?_)))⟩
  · rw [if_neg h]
    have h2 : (x.chk != 0) = true := bne_iff_ne.2 h
    generalize x.chk = q at *
    obtain ⟨A, B, C, D, K⟩ := x
    go_enter Tryz.func48, Tryz.ntmps48
    go_wp2_with fail
    refine (HC.out _).mono ?_
    rintro e w1 ⟨rfl, hb⟩
    obtain ⟨hc, hf⟩ := bcell hb
    go_wp2_with fail
    exact bodyPost_ret (v := .tuple #[nul.v, .int .i64 q]) (by simp [results, Tryz.results48, go_sem, hc]) rfl ⟨rfl, (by repeat (first | with_reducible exact Below.refl _ _ | with_reducible refine below_al ?_ _ | with_reducible refine below_dN ?_ _ | with_reducible refine Below.drew ?_ | (with_reducible refine Below.setCell ?_ (by simp <;> omega) _) | (with_reducible refine below_via (by assumption) ?_)))⟩
end Go.Proofs.YtcdmcndjbajhlaaGreatDoor
