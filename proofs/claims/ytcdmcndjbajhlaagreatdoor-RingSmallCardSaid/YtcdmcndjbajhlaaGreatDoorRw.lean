
/- The reference's Divide: right numbers of which one is too large, or the second is nothing. -/
import Derived.Test.YtcdmcndjbajhlaaGreatDoorJx
set_option linter.all false
set_option maxRecDepth 100000
namespace Go.Proofs.YtcdmcndjbajhlaaGreatDoor
open Go.RowKit

set_option maxHeartbeats 4000000 in
theorem r_Divide_early (x y : Nm) (w : World) (h : chk2 x y = 0) (hq : ¬ (x.least.inb 4096 = true ∧ y.least.inb 4096 = true ∧ y.least.zero = false)) : Calls Tryz.prog 53 #[x.v, y.v] w (Gives (.tuple #[(divN x.least y.least).v, .int .i64 (divE x.least y.least)]) w) := by
  have hbx : InTwo w w.heap.size (w.heap.size + 1) x y ((w.alloc (.cells #[.int .i64 x.A, .int .i64 x.B, .int .i64 x.C, .int .i64 x.D, .int .i64 x.K] 23)).alloc (.cells #[.int .i64 y.A, .int .i64 y.B, .int .i64 y.C, .int .i64 y.D, .int .i64 y.K] 23)) := by
    refine ⟨(by repeat (first | with_reducible exact Below.refl _ _ | with_reducible refine below_al ?_ _ | with_reducible refine below_dN ?_ _ | with_reducible refine Below.drew ?_ | (with_reducible refine Below.setCell ?_ (by simp <;> omega) _) | (with_reducible refine below_via (by assumption) ?_))), box_al (box_new w _ _ _ _ _ _) _, ?_⟩
    have h := box_new (w.alloc (.cells #[.int .i64 x.A, .int .i64 x.B, .int .i64 x.C, .int .i64 x.D, .int .i64 x.K] 23)) y.A y.B y.C y.D y.K 23
    rw [World.size_alloc] at h
    exact h
  have HBX := Lib.hid hbx
  clear hbx
  have HC : Hid (∀ (b T : Nat) (w : World), Two w b T x y → Calls Tryz.prog 68 #[.slice (some ⟨b, 0, none⟩) 2 2] w (Gives (.int .i64 (chk2 x y)) w)) := fun b T w h => r_checks2 x y b T w h
  have h12 := chk2_ok h
  have hk1 := chk_ok (A := x.A) (B := x.B) (C := x.C) (D := x.D) (K := x.K) h12.1
  have hk2 := chk_ok (A := y.A) (B := y.B) (C := y.C) (D := y.D) (K := y.K) h12.2
  have HX : Hid (∀ w, Calls Tryz.prog 63 #[x.v] w (Gives x.least.v w)) := fun w => r_form x w (right_wide h12.1) (by omega)
  have HY : Hid (∀ w, Calls Tryz.prog 63 #[y.v] w (Gives y.least.v w)) := fun w => r_form y w (right_wide h12.2) (by omega)
  rw [h] at HC
  obtain ⟨r, hr⟩ : ∃ r, r = x.least := ⟨_, rfl⟩
  obtain ⟨s, hs⟩ : ∃ s, s = y.least := ⟨_, rfl⟩
  rw [← hr] at HX hq ⊢
  rw [← hs] at HY hq ⊢
  have HQ := Lib.hid hq
  clear hq
  have hR := least_K (x := x) (by omega)
  have hS := least_K (x := y) (by omega)
  rw [← hr] at hR
  rw [← hs] at hS
  have HR : Hid (0 ≤ r.K ∧ r.K ≤ 60 ∧ 0 ≤ s.K ∧ s.K ≤ 60) := ⟨hR.1, by omega, hS.1, by omega⟩
  clear h12 hk1 hk2 h hr hs hR hS
  obtain ⟨dN, hdN⟩ : ∃ d, d = divN r s := ⟨_, rfl⟩
  obtain ⟨dE, hdE⟩ : ∃ d, d = divE r s := ⟨_, rfl⟩
  have HDN := Lib.hid hdN
  have HDE := Lib.hid hdE
  rw [← hdN, ← hdE]
  clear hdN hdE
  go_enter Tryz.func53, Tryz.ntmps53
  go_wp2_with fail
  refine (HC.out _ _ _ (two_new3 w _ _ _ x y _)).mono ?_
  rintro e w1 ⟨rfl, hb⟩
  have h1 : InAdd w x y w1 := by
    have h2 := ((HBX.out.al (.cells #[.int .i64 0, .int .i64 0, .int .i64 0, .int .i64 0, .int .i64 0] 23)).al _).call hb
    refine ⟨h2.1, h2.2.1, h2.2.2, ?_⟩
    have h := box_new ((w.alloc (.cells #[.int .i64 x.A, .int .i64 x.B, .int .i64 x.C, .int .i64 x.D, .int .i64 x.K] 23)).alloc (.cells #[.int .i64 y.A, .int .i64 y.B, .int .i64 y.C, .int .i64 y.D, .int .i64 y.K] 23)) 0 0 0 0 0 23
    simp only [World.size_alloc] at h
    exact (box_al h _).below hb (by simp <;> omega)
  clear hb HBX
  go_wp2_with fail
  refine region_stores (fun n W => InAdd w (match n with | 0 => x | _ => r) (match n with | 0 => y | 1 => y | _ => s) W) [4, 5] 20 (x.v :: r.v :: y.v :: s.v :: undef :: undef :: undef :: undef :: undef :: undef :: undef :: undef :: undef :: undef :: undef :: undef :: undef :: undef :: undef :: undef :: undef :: undef :: undef :: undef :: undef :: undef :: undef :: undef :: undef :: undef :: undef :: undef :: undef :: undef :: undef :: undef :: undef :: undef :: undef :: undef :: undef :: undef :: undef :: undef :: undef :: undef :: undef :: undef :: undef :: undef :: undef :: undef :: undef :: undef :: undef :: undef :: undef :: undef :: undef :: undef :: undef :: undef :: undef :: undef :: undef :: undef :: undef :: undef :: undef :: undef :: undef :: undef :: undef :: undef :: undef :: undef :: undef :: undef :: undef :: undef :: undef :: undef :: undef :: undef :: undef :: undef :: undef :: undef :: undef :: undef :: undef :: undef :: undef :: undef :: undef :: undef :: undef :: undef :: undef :: undef :: undef :: undef :: undef :: undef :: undef :: undef :: undef :: undef :: undef :: undef :: undef :: undef :: undef :: undef :: undef :: undef :: undef :: undef :: undef :: undef :: undef :: undef :: undef :: undef :: undef :: undef :: undef :: undef :: undef :: undef :: undef :: undef :: undef :: undef :: undef :: undef :: undef :: []) 20 x.v (by kernel_rfl) (by kernel_rfl) (by kernel_rfl) (outV_fin _ 4 (by kernel_rfl) (Nat.le_of_ble_eq_true (by kernel_rfl)) (Nat.le_of_ble_eq_true (by kernel_rfl)) (by kernel_rfl)) (by kernel_rfl) (h1.call (below_dN (Below.refl _ _) 1)) ?_ ?_
  rotate_left
  · clear h1
    refine eachOp_cons (okM_load (by kernel_rfl) (by kernel_rfl) (by kernel_rfl) rfl rfl (by kernel_rfl) (fun W hC => load_num (b := w.heap.size) (x := x) rfl (by kernel_rfl) hC.2.1)) ?_
    refine eachOp_cons (okM_call 63 #[x.v] (by kernel_rfl) (by kernel_rfl) (by kernel_rfl) (fun _ => by kernel_rfl) (fun n W hC => (HX.out W).mono fun _ _ h => ⟨h.1, hC.call h.2⟩)) ?_
    refine eachOp_cons (okM_read 1 (by kernel_rfl) (by kernel_rfl) (by kernel_rfl) rfl rfl (by kernel_rfl) (fun n W hn hC => load_num (b := w.heap.size + 1) (x := y) rfl (by kernel_rfl) (by match n, hn with | 0, _ => exact hC.2.2.1 | 1, _ => exact hC.2.2.1))) ?_
    refine eachOp_cons (okM_call 63 #[y.v] (by kernel_rfl) (by kernel_rfl) (by kernel_rfl) (fun _ => by kernel_rfl) (fun n W hC => (HY.out W).mono fun _ _ h => ⟨h.1, hC.call h.2⟩)) ?_
    refine eachOp_cons (okM_store 0 rfl (by kernel_rfl) (by kernel_rfl) rfl (fun W hC => ⟨_, store_num (b := w.heap.size) (y := r) rfl (by kernel_rfl) (by kernel_rfl) hC.2.1, hC.first r⟩)) ?_
    refine eachOp_cons (okM_store 1 rfl (by kernel_rfl) (by kernel_rfl) rfl (fun W hC => ⟨_, store_num (b := w.heap.size + 1) (y := s) rfl (by kernel_rfl) (by kernel_rfl) hC.2.2.1, hC.second s⟩)) ?_
    exact eachOp_nil
  intro W hW
  rename_i hK
  refine hK _ _ ?_
  replace hW : InAdd w r s W := hW
  simp only [finA, List.take_succ_cons, List.take_zero, List.cons_append, List.nil_append, List.set_cons_succ, List.set_cons_zero]
  clear hK HX HY HC h1
  obtain ⟨c0, c1, c2, c3, c4⟩ := hW.2.1.cell
  obtain ⟨d0, d1, d2, d3, d4⟩ := hW.2.2.1.cell
  have hlt := hW.2.2.2.lt
  have HW := Lib.hid hW
  clear hW
  have HB1 : Hid (∀ w, Calls Tryz.prog 84 #[nv r.A r.B r.C r.D r.K, .int .i64 4096] w (Gives (.bool (!r.inb 4096)) w)) := fun w => r_beyond r.A r.B r.C r.D r.K 4096 w (by omega) (by omega)
  have HB2 : Hid (∀ w, Calls Tryz.prog 84 #[nv s.A s.B s.C s.D s.K, .int .i64 4096] w (Gives (.bool (!s.inb 4096)) w)) := fun w => r_beyond s.A s.B s.C s.D s.K 4096 w (by omega) (by omega)
  by_cases i1 : r.inb 4096 = true
  · by_cases i2 : s.inb 4096 = true
    · have hz : s.zero = true := by
        cases hz : s.zero with
        | true => rfl
        | false => exact absurd ⟨i1, i2, hz⟩ HQ.out
      have HZ : Hid (∀ w, Calls Tryz.prog 94 #[nv s.A s.B s.C s.D s.K] w (Gives (.bool true) w)) := fun w => by
        have h := r_zero s.A s.B s.C s.D s.K w
        rw [show Nm.zero ⟨s.A, s.B, s.C, s.D, s.K⟩ = true from hz] at h
        exact h
      have e : (!r.inb 4096) = false := by simp [i1]
      have e2 : (!s.inb 4096) = false := by simp [i2]
      rw [e] at HB1
      rw [e2] at HB2
      have hb0 := (bN_zero s).2 hz
      have hdN : dN = nul := by rw [HDN.out]; unfold divN; exact if_neg (fun h => h.2.2.1 hb0)
      have hdE : dE = 6 := by
        rw [HDE.out]
        have nn : ¬ ¬ (r.inb 4096 = true ∧ s.inb 4096 = true) := fun h => h ⟨i1, i2⟩
        unfold divE
        rw [if_neg nn]
        exact if_neg (fun h => h.1 hb0)
      rw [hdN, hdE]
      clear HDN HDE hdN hdE hb0 HQ
      go_wp2_with fail
      refine (HB1.out _).mono ?_
      rintro e w2 ⟨rfl, hb2⟩
      have HW2 := Lib.hid (HW.out.call hb2)
      clear hb2 c0 c1 c2 c3 c4 d0 d1 d2 d3 d4 hlt
      obtain ⟨d0, d1, d2, d3, d4⟩ := HW2.out.2.2.1.cell
      have hlt := HW2.out.2.2.2.lt
      go_wp2_with fail
      refine (HB2.out _).mono ?_
      rintro e w3 ⟨rfl, hb3⟩
      have HW3 := Lib.hid (HW2.out.call hb3)
      clear hb3 d0 d1 d2 d3 d4 hlt
      obtain ⟨d0, d1, d2, d3, d4⟩ := HW3.out.2.2.1.cell
      have hlt := HW3.out.2.2.2.lt
      go_wp2_with fail
      refine (HZ.out _).mono ?_
      rintro e w4 ⟨rfl, hb2⟩
      have h3 := HW3.out.call hb2
      obtain ⟨z0, z1, z2, z3, z4⟩ := h3.2.2.2.cell
      obtain ⟨g0, g1, g2, g3, g4⟩ := h3.2.2.2.free
      have hlt2 := h3.2.2.2.lt
      have hw2 := h3.1
      have hle3 : w.heap.size ≤ w.heap.size + 1 + 1 := by omega
      dsimp only at z0 z1 z2 z3 z4
      clear h3
      go_wp2_with fail
      exact bodyPost_ret (v := .tuple #[nul.v, .int .i64 6]) (by simp [results, Tryz.results53, go_sem, z0, z1, z2, z3, z4]) rfl ⟨rfl, by first | exact hw2 | exact ((((hw2.setCell hle3 _).setCell hle3 _).setCell hle3 _).setCell hle3 _).setCell hle3 _⟩
    · have e : (!r.inb 4096) = false := by simp [i1]
      have e2 : (!s.inb 4096) = true := by simp [i2]
      rw [e] at HB1
      rw [e2] at HB2
      have hdN : dN = nul := by rw [HDN.out]; unfold divN; exact if_neg (fun h => i2 h.2.1)
      have hdE : dE = 8 := by rw [HDE.out]; unfold divE; exact if_pos (fun h => i2 h.2)
      rw [hdN, hdE]
      clear HDN HDE hdN hdE HQ
      go_wp2_with fail
      refine (HB1.out _).mono ?_
      rintro e w2 ⟨rfl, hb2⟩
      have HW2 := Lib.hid (HW.out.call hb2)
      clear hb2 c0 c1 c2 c3 c4 d0 d1 d2 d3 d4 hlt
      obtain ⟨d0, d1, d2, d3, d4⟩ := HW2.out.2.2.1.cell
      have hlt := HW2.out.2.2.2.lt
      go_wp2_with fail
      refine (HB2.out _).mono ?_
      rintro e w3 ⟨rfl, hb2⟩
      have h3 := HW2.out.call hb2
      obtain ⟨z0, z1, z2, z3, z4⟩ := h3.2.2.2.cell
      obtain ⟨g0, g1, g2, g3, g4⟩ := h3.2.2.2.free
      have hlt2 := h3.2.2.2.lt
      have hw2 := h3.1
      have hle3 : w.heap.size ≤ w.heap.size + 1 + 1 := by omega
      dsimp only at z0 z1 z2 z3 z4
      clear h3
      go_wp2_with fail
      exact bodyPost_ret (v := .tuple #[nul.v, .int .i64 8]) (by simp [results, Tryz.results53, go_sem, z0, z1, z2, z3, z4]) rfl ⟨rfl, by first | exact hw2 | exact ((((hw2.setCell hle3 _).setCell hle3 _).setCell hle3 _).setCell hle3 _).setCell hle3 _⟩
  · have e : (!r.inb 4096) = true := by simp [i1]
    rw [e] at HB1
    have hdN : dN = nul := by rw [HDN.out]; unfold divN; exact if_neg (fun h => i1 h.1)
    have hdE : dE = 8 := by rw [HDE.out]; unfold divE; exact if_pos (fun h => i1 h.1)
    rw [hdN, hdE]
    clear HDN HDE hdN hdE
    go_wp2_with fail
    refine (HB1.out _).mono ?_
    rintro e w2 ⟨rfl, hb2⟩
    have h3 := HW.out.call hb2
    obtain ⟨z0, z1, z2, z3, z4⟩ := h3.2.2.2.cell
    obtain ⟨g0, g1, g2, g3, g4⟩ := h3.2.2.2.free
    have hlt2 := h3.2.2.2.lt
    have hw2 := h3.1
    have hle3 : w.heap.size ≤ w.heap.size + 1 + 1 := by omega
    dsimp only at z0 z1 z2 z3 z4
    clear h3
    go_wp2_with fail
    exact bodyPost_ret (v := .tuple #[nul.v, .int .i64 8]) (by simp [results, Tryz.results53, go_sem, z0, z1, z2, z3, z4]) rfl ⟨rfl, by first | exact hw2 | exact ((((hw2.setCell hle3 _).setCell hle3 _).setCell hle3 _).setCell hle3 _).setCell hle3 _⟩
end Go.Proofs.YtcdmcndjbajhlaaGreatDoor
