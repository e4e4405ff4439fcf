
/- The reference's Divide, the main way: zero. -/
import Derived.Test.YtcdmcndjbajhlaaGreatDoorRb
set_option linter.all false
set_option maxRecDepth 100000
namespace Go.Proofs.YtcdmcndjbajhlaaGreatDoor
open Go.RowKit

theorem run_field_zero (w : World) (A B C D K : Int) :
    (Instr.field 23 (.agg #[.int .i64 A, .int .i64 B, .int .i64 C, .int .i64 D, .int .i64 K]) 0).run Tryz.prog w = .ok (.int .i64 A) w := by
  kernel_rfl
attribute [local go_sem] run_field_zero

set_option maxHeartbeats 20000000 in
theorem r_Divide_zero (x y : Nm) (w : World) (h : chk2 x y = 0) (hq : x.least.inb 4096 = true ∧ y.least.inb 4096 = true ∧ y.least.zero = false) (hc : goes x.least y.least ∧ (quoN x.least y.least).zero = true) : Calls Tryz.prog 53 #[x.v, y.v] w (Gives (.tuple #[(divN x.least y.least).v, .int .i64 (divE x.least y.least)]) w) := by
  have hbx : InTwo w w.heap.size (w.heap.size + 1) x y ((w.alloc (.cells #[.int .i64 x.A, .int .i64 x.B, .int .i64 x.C, .int .i64 x.D, .int .i64 x.K] 23)).alloc (.cells #[.int .i64 y.A, .int .i64 y.B, .int .i64 y.C, .int .i64 y.D, .int .i64 y.K] 23)) := by
    refine ⟨(by repeat (first | with_reducible exact Below.refl _ _ | with_reducible refine below_al ?_ _ | with_reducible refine below_dN ?_ _ | with_reducible refine Below.drew ?_ | (with_reducible refine Below.setCell ?_ (by simp <;> omega) _) | (with_reducible refine below_via (by assumption) ?_))), box_al (box_new w _ _ _ _ _ _) _, ?_⟩
    have h := box_new (w.alloc (.cells #[.int .i64 x.A, .int .i64 x.B, .int .i64 x.C, .int .i64 x.D, .int .i64 x.K] 23)) y.A y.B y.C y.D y.K 23
    rw [World.size_alloc] at h
    exact h
  have HBX := Lib.hid hbx
  clear hbx
  have HC : Hid (∀ (b T : Nat) (w : World), Two w b T x y → Calls Tryz.prog 68 #[.slice (some ⟨b, 0, none⟩) 2 2] w (Gives (.int .i64 (chk2 x y)) w)) := fun b T w h => r_checks2 x y b T w h
  have h12 := chk2_ok h
  have hk1 := chk_ok (A := x.A) (B := x.B) (C := x.C) (D := x.D) (K := x.K) h12.1
  have hk2 := chk_ok (A := y.A) (B := y.B) (C := y.C) (D := y.D) (K := y.K) h12.2
  have HX : Hid (∀ w, Calls Tryz.prog 63 #[x.v] w (Gives x.least.v w)) := fun w => r_form x w (right_wide h12.1) (by omega)
  have HY : Hid (∀ w, Calls Tryz.prog 63 #[y.v] w (Gives y.least.v w)) := fun w => r_form y w (right_wide h12.2) (by omega)
  rw [h] at HC
  obtain ⟨r, hr⟩ : ∃ r, r = x.least := ⟨_, rfl⟩
  obtain ⟨s, hs⟩ : ∃ s, s = y.least := ⟨_, rfl⟩
  rw [← hr] at HX hq hc ⊢
  rw [← hs] at HY hq hc ⊢
  have HQ := Lib.hid hq
  have HCA := Lib.hid hc
  clear hq hc
  have hR := least_K (x := x) (by omega)
  have hS := least_K (x := y) (by omega)
  rw [← hr] at hR
  rw [← hs] at hS
  have HR : Hid (0 ≤ r.K ∧ r.K ≤ 60 ∧ 0 ≤ s.K ∧ s.K ≤ 60) := ⟨hR.1, by omega, hS.1, by omega⟩
  clear h12 hk1 hk2 h hr hs hR hS
  obtain ⟨dN, hdN⟩ : ∃ d, d = divN r s := ⟨_, rfl⟩
  obtain ⟨dE, hdE⟩ : ∃ d, d = divE r s := ⟨_, rfl⟩
  have HDN := Lib.hid hdN
  have HDE := Lib.hid hdE
  rw [← hdN, ← hdE]
  clear hdN hdE
  go_enter Tryz.func53, Tryz.ntmps53
  go_wp2_with fail
  refine (HC.out _ _ _ (two_new3 w _ _ _ x y _)).mono ?_
  rintro e w1 ⟨rfl, hb⟩
  have h1 : InAdd w x y w1 := by
    have h2 := ((HBX.out.al (.cells #[.int .i64 0, .int .i64 0, .int .i64 0, .int .i64 0, .int .i64 0] 23)).al _).call hb
    refine ⟨h2.1, h2.2.1, h2.2.2, ?_⟩
    have h := box_new ((w.alloc (.cells #[.int .i64 x.A, .int .i64 x.B, .int .i64 x.C, .int .i64 x.D, .int .i64 x.K] 23)).alloc (.cells #[.int .i64 y.A, .int .i64 y.B, .int .i64 y.C, .int .i64 y.D, .int .i64 y.K] 23)) 0 0 0 0 0 23
    simp only [World.size_alloc] at h
    exact (box_al h _).below hb (by simp <;> omega)
  clear hb HBX
  go_wp2_with fail
  refine region_stores (fun n W => InAdd w (match n with | 0 => x | _ => r) (match n with | 0 => y | 1 => y | _ => s) W) [4, 5] 20 (x.v :: r.v :: y.v :: s.v :: undef :: undef :: undef :: undef :: undef :: undef :: undef :: undef :: undef :: undef :: undef :: undef :: undef :: undef :: undef :: undef :: undef :: undef :: undef :: undef :: undef :: undef :: undef :: undef :: undef :: undef :: undef :: undef :: undef :: undef :: undef :: undef :: undef :: undef :: undef :: undef :: undef :: undef :: undef :: undef :: undef :: undef :: undef :: undef :: undef :: undef :: undef :: undef :: undef :: undef :: undef :: undef :: undef :: undef :: undef :: undef :: undef :: undef :: undef :: undef :: undef :: undef :: undef :: undef :: undef :: undef :: undef :: undef :: undef :: undef :: undef :: undef :: undef :: undef :: undef :: undef :: undef :: undef :: undef :: undef :: undef :: undef :: undef :: undef :: undef :: undef :: undef :: undef :: undef :: undef :: undef :: undef :: undef :: undef :: undef :: undef :: undef :: undef :: undef :: undef :: undef :: undef :: undef :: undef :: undef :: undef :: undef :: undef :: undef :: undef :: undef :: undef :: undef :: undef :: undef :: undef :: undef :: undef :: undef :: undef :: undef :: undef :: undef :: undef :: undef :: undef :: undef :: undef :: undef :: undef :: undef :: undef :: undef :: []) 20 x.v (by kernel_rfl) (by kernel_rfl) (by kernel_rfl) (outV_fin _ 4 (by kernel_rfl) (Nat.le_of_ble_eq_true (by kernel_rfl)) (Nat.le_of_ble_eq_true (by kernel_rfl)) (by kernel_rfl)) (by kernel_rfl) (h1.call (below_dN (Below.refl _ _) 1)) ?_ ?_
  rotate_left
  · clear h1
    refine eachOp_cons (okM_load (by kernel_rfl) (by kernel_rfl) (by kernel_rfl) rfl rfl (by kernel_rfl) (fun W hC => load_num (b := w.heap.size) (x := x) rfl (by kernel_rfl) hC.2.1)) ?_
    refine eachOp_cons (okM_call 63 #[x.v] (by kernel_rfl) (by kernel_rfl) (by kernel_rfl) (fun _ => by kernel_rfl) (fun n W hC => (HX.out W).mono fun _ _ h => ⟨h.1, hC.call h.2⟩)) ?_
    refine eachOp_cons (okM_read 1 (by kernel_rfl) (by kernel_rfl) (by kernel_rfl) rfl rfl (by kernel_rfl) (fun n W hn hC => load_num (b := w.heap.size + 1) (x := y) rfl (by kernel_rfl) (by match n, hn with | 0, _ => exact hC.2.2.1 | 1, _ => exact hC.2.2.1))) ?_
    refine eachOp_cons (okM_call 63 #[y.v] (by kernel_rfl) (by kernel_rfl) (by kernel_rfl) (fun _ => by kernel_rfl) (fun n W hC => (HY.out W).mono fun _ _ h => ⟨h.1, hC.call h.2⟩)) ?_
    refine eachOp_cons (okM_store 0 rfl (by kernel_rfl) (by kernel_rfl) rfl (fun W hC => ⟨_, store_num (b := w.heap.size) (y := r) rfl (by kernel_rfl) (by kernel_rfl) hC.2.1, hC.first r⟩)) ?_
    refine eachOp_cons (okM_store 1 rfl (by kernel_rfl) (by kernel_rfl) rfl (fun W hC => ⟨_, store_num (b := w.heap.size + 1) (y := s) rfl (by kernel_rfl) (by kernel_rfl) hC.2.2.1, hC.second s⟩)) ?_
    exact eachOp_nil
  intro W hW
  rename_i hK
  refine hK _ _ ?_
  replace hW : InAdd w r s W := hW
  simp only [finA, List.take_succ_cons, List.take_zero, List.cons_append, List.nil_append, List.set_cons_succ, List.set_cons_zero]
  clear hK HX HY HC h1
  obtain ⟨c0, c1, c2, c3, c4⟩ := hW.2.1.cell
  obtain ⟨d0, d1, d2, d3, d4⟩ := hW.2.2.1.cell
  have hlt := hW.2.2.2.lt
  have HW := Lib.hid hW
  clear hW
  have HB1 : Hid (∀ w, Calls Tryz.prog 84 #[nv r.A r.B r.C r.D r.K, .int .i64 4096] w (Gives (.bool (!r.inb 4096)) w)) := fun w => r_beyond r.A r.B r.C r.D r.K 4096 w (by omega) (by omega)
  have HB2 : Hid (∀ w, Calls Tryz.prog 84 #[nv s.A s.B s.C s.D s.K, .int .i64 4096] w (Gives (.bool (!s.inb 4096)) w)) := fun w => r_beyond s.A s.B s.C s.D s.K 4096 w (by omega) (by omega)
  have e1 : (!r.inb 4096) = false := by simp [HQ.out.1]
  have e2 : (!s.inb 4096) = false := by simp [HQ.out.2.1]
  rw [e1] at HB1
  rw [e2] at HB2
  have HZ : Hid (∀ w, Calls Tryz.prog 94 #[nv s.A s.B s.C s.D s.K] w (Gives (.bool false) w)) := fun w => by
    have h := r_zero s.A s.B s.C s.D s.K w
    rw [show Nm.zero ⟨s.A, s.B, s.C, s.D, s.K⟩ = false from HQ.out.2.2] at h
    exact h
  go_wp2_with fail
  refine (HB1.out _).mono ?_
  rintro e w2 ⟨rfl, hb2⟩
  have HW2 := Lib.hid (HW.out.call hb2)
  clear hb2 c0 c1 c2 c3 c4 d0 d1 d2 d3 d4 hlt
  obtain ⟨d0, d1, d2, d3, d4⟩ := HW2.out.2.2.1.cell
  have hlt := HW2.out.2.2.2.lt
  go_wp2_with fail
  refine (HB2.out _).mono ?_
  rintro e w3 ⟨rfl, hb3⟩
  have HW3 := Lib.hid (HW2.out.call hb3)
  clear hb3 d0 d1 d2 d3 d4 hlt
  obtain ⟨d0, d1, d2, d3, d4⟩ := HW3.out.2.2.1.cell
  have hlt := HW3.out.2.2.2.lt
  go_wp2_with fail
  refine (HZ.out _).mono ?_
  rintro e w4 ⟨rfl, hb4⟩
  have HW4 := Lib.hid (HW3.out.call hb4)
  clear hb4 d0 d1 d2 d3 d4 hlt e1 e2 HB1 HB2 HZ HW HW2 HW3
  obtain ⟨c0, c1, c2, c3, c4⟩ := HW4.out.2.1.cell
  obtain ⟨d0, d1, d2, d3, d4⟩ := HW4.out.2.2.1.cell
  obtain ⟨f0, f1, f2, f3, f4⟩ := HW4.out.2.1.free
  obtain ⟨g0, g1, g2, g3, g4⟩ := HW4.out.2.2.1.free
  have hlt := HW4.out.2.2.2.lt
  have hk1 : -1000 ≤ r.K := by have := HR.out; omega
  have hk2 : r.K ≤ 1000 := by have := HR.out; omega
  have hk3 : -1000 ≤ s.K := by have := HR.out; omega
  have hk4 : s.K ≤ 1000 := by have := HR.out; omega

  go_upto_region 11 with fail
  have hV0 := (HW4.out.firstK 0).secondK 0
  obtain ⟨V0, hV⟩ : ∃ V0, (w4.setCell ⟨w.heap.size, 4, none⟩ (.int .i64 0)).setCell ⟨w.heap.size + 1, 4, none⟩ (.int .i64 0) = V0 := ⟨_, rfl⟩
  rw [hV] at hV0 ⊢
  clear hV c0 c1 c2 c3 c4 d0 d1 d2 d3 d4 f0 f1 f2 f3 f4 g0 g1 g2 g3 g4 hlt HW4
  have HV0 := Lib.hid hV0
  obtain ⟨c0, c1, c2, c3, c4⟩ := hV0.2.1.cell
  obtain ⟨d0, d1, d2, d3, d4⟩ := hV0.2.2.1.cell
  have hlt := hV0.2.2.2.lt
  have hlt1 := hV0.2.2.1.lt
  clear hV0
  dsimp only at c0 c1 c2 c3 c4 d0 d1 d2 d3 d4
  have hsl : Nm.le ⟨s.A, s.B, s.C, s.D, 0⟩ 4096 := in_le (x := s) HQ.out.2.1
  have hrl : Nm.le ⟨r.A, r.B, r.C, r.D, 0⟩ 4096 := in_le (x := r) HQ.out.1
  have hcl : Nm.le (conjN ⟨s.A, s.B, s.C, s.D, 0⟩) 4096 := by unfold Nm.le conjN at *; dsimp only at *; omega
  have HJ : Hid (∀ w, Calls Tryz.prog 91 #[nv s.A s.B s.C s.D 0] w (Gives (nv s.A (-s.D) (-s.C) (-s.B) 0) w)) := fun w => r_conjugate s.A s.B s.C s.D 0 w (le_wide hsl (by omega))
  have HP : Hid (∀ w, Calls Tryz.prog 88 #[nv s.A s.B s.C s.D 0, nv s.A (-s.D) (-s.C) (-s.B) 0] w (Gives (nv (nP s) (nQ s) 0 (-nQ s) 0) w)) := fun w => by
    have h := r_product ⟨s.A, s.B, s.C, s.D, 0⟩ (conjN ⟨s.A, s.B, s.C, s.D, 0⟩) 4096 4096 w hsl hcl (by decide) ⟨by show (-1000000 : Int) ≤ 0; decide, by show (0 : Int) ≤ 1000000; decide⟩ ⟨by show (-1000000 : Int) ≤ 0; decide, by show (0 : Int) ≤ 1000000; decide⟩
    rw [show mulN ⟨s.A, s.B, s.C, s.D, 0⟩ (conjN ⟨s.A, s.B, s.C, s.D, 0⟩) = ⟨nP s, nQ s, 0, -nQ s, 0⟩ from (whole_ref s).1] at h
    exact h
  go_cut [8] from 41 to 45 (fun p wx => P1 ⟨nP s, nQ s, 0, -nQ s, 0⟩ V0 p wx)
  case first =>
    go_region_held3 (fun w' => Below V0.heap.size V0 w' ∧ (∀ b o, b < V0.heap.size → w'.cell? ⟨b, o, none⟩ = V0.cell? ⟨b, o, none⟩)) ((exact (fun h => ⟨h, (bcell h).1⟩) (by repeat (first | with_reducible exact Below.refl _ _ | with_reducible refine below_al ?_ _ | with_reducible refine below_dN ?_ _ | with_reducible refine Below.drew ?_ | (with_reducible refine Below.setCell ?_ (by simp <;> omega) _) | (with_reducible refine below_via (by assumption) ?_))))) (first | (go_at_call 91; (with_reducible refine (HJ.out _).mono ?_); rintro e w5 ⟨rfl, hw5⟩; (try replace hw5 := below_undrew hw5); obtain ⟨hcw5, hfw5⟩ := bcell hw5; have hzw5 := hw5.size; (try simp at hzw5); (try have hzw50 : w.heap.size < w5.heap.size := (by omega)); (try have hzw51 : w.heap.size + 1 < w5.heap.size := (by omega)); (try have hzw53 : V0.heap.size < w5.heap.size := (by omega))) | (go_at_call 88; (with_reducible refine (HP.out _).mono ?_); rintro e w6 ⟨rfl, hw6⟩; (try replace hw6 := below_undrew hw6); obtain ⟨hcw6, hfw6⟩ := bcell hw6; have hzw6 := hw6.size; (try simp at hzw6); (try have hzw60 : w.heap.size < w6.heap.size := (by omega)); (try have hzw61 : w.heap.size + 1 < w6.heap.size := (by omega)); (try have hzw63 : V0.heap.size < w6.heap.size := (by omega)); (try have hzw65 : w5.heap.size < w6.heap.size := (by omega))))
    all_goals
      go_wp2_with fail
      go_meet
      refine ⟨_, rfl, ⟨?_, ?_, ?_, ?_, ?_⟩, ?_, (by repeat (first | with_reducible exact Below.refl _ _ | with_reducible refine below_al ?_ _ | with_reducible refine below_dN ?_ _ | with_reducible refine Below.drew ?_ | (with_reducible refine Below.setCell ?_ (by simp <;> omega) _) | (with_reducible refine below_via (by assumption) ?_)))⟩
    all_goals (try go_simp)
    all_goals (first | omega | (refine World.cell?_setCell_same' _ _ _ ?_; go_simp))
  case rest =>
    obtain ⟨pn, rfl, ⟨n0, n1, n2, n3, n4⟩, hpn, hb5⟩ := hcut
    have HV1 := Lib.hid (HV0.out.call hb5)
    have hnl : Nm.le ⟨nP s, nQ s, 0, -nQ s, 0⟩ 67108864 := by
      have h := mulN_le hsl hcl
      rw [show mulN ⟨s.A, s.B, s.C, s.D, 0⟩ (conjN ⟨s.A, s.B, s.C, s.D, 0⟩) = ⟨nP s, nQ s, 0, -nQ s, 0⟩ from (whole_ref s).1] at h
      exact h
    have hol : Nm.le ⟨nP s, -nQ s, 0, nQ s, 0⟩ 67108864 := by unfold Nm.le at *; dsimp only at *; omega
    have hq1 : -67108864 ≤ nQ s := hnl.2.1.1
    have hq2 : nQ s ≤ 67108864 := hnl.2.1.2
    have HO : Hid (∀ w, Calls Tryz.prog 88 #[nv (nP s) (nQ s) 0 (-nQ s) 0, nv (nP s) (-nQ s) 0 (nQ s) 0] w (Gives (mulN ⟨nP s, nQ s, 0, -nQ s, 0⟩ ⟨nP s, -nQ s, 0, nQ s, 0⟩).v w)) := fun w =>
      r_product ⟨nP s, nQ s, 0, -nQ s, 0⟩ ⟨nP s, -nQ s, 0, nQ s, 0⟩ 67108864 67108864 w hnl hol (by decide) ⟨by show (-1000000 : Int) ≤ 0; decide, by show (0 : Int) ≤ 1000000; decide⟩ ⟨by show (-1000000 : Int) ≤ 0; decide, by show (0 : Int) ≤ 1000000; decide⟩
    obtain ⟨ww, hww⟩ : ∃ m, m = mulN ⟨nP s, nQ s, 0, -nQ s, 0⟩ ⟨nP s, -nQ s, 0, nQ s, 0⟩ := ⟨_, rfl⟩
    rw [← hww] at HO
    have hwA : ww.A = bN s := by rw [hww]; exact (whole_ref s).2
    have HWA := Lib.hid hwA
    obtain ⟨np, hnp⟩ : ∃ m, m = nP s := ⟨_, rfl⟩
    obtain ⟨nq, hnq⟩ : ∃ m, m = nQ s := ⟨_, rfl⟩
    rw [← hnq] at hq1 hq2
    rw [← hnp, ← hnq] at HO
    dsimp only at n0 n1 n2 n3 n4
    rw [← hnp] at n0
    rw [← hnq] at n1 n3
    have HNP := Lib.hid hnp
    have HNQ := Lib.hid hnq
    have hnle : Nm.le ⟨np, -nq, 0, nq, 0⟩ 67108864 := by rw [hnp, hnq]; exact hol
    have HNL := Lib.hid hnle
    clear c0 c1 c2 c3 c4 d0 d1 d2 d3 d4 hlt hlt1 hww hwA hnp hnq hnl hol HP HV0 hnle
    rename World => V1
    obtain ⟨c0, c1, c2, c3, c4⟩ := HV1.out.2.1.cell
    obtain ⟨d0, d1, d2, d3, d4⟩ := HV1.out.2.2.1.cell
    have hlt := HV1.out.2.2.2.lt
    have hlt1 := HV1.out.2.2.1.lt
    dsimp only at c0 c1 c2 c3 c4 d0 d1 d2 d3 d4
    go_wp2_with fail
    refine (HO.out _).mono ?_
    rintro e w7 ⟨rfl, hb7⟩
    have HV2 := Lib.hid (HV1.out.call (below_via hb7 (below_al (Below.refl _ _) _)))
    have ho : Box w7 V1.heap.size 23 ⟨np, -nq, 0, nq, 0⟩ := (box_new V1 np (-nq) 0 nq 0 23).below hb7 (by simp)
    obtain ⟨o0, o1, o2, o3, o4⟩ := ho.cell
    have hlo := ho.lt
    dsimp only at o0 o1 o2 o3 o4
    clear ho hb7 c0 c1 c2 c3 c4 d0 d1 d2 d3 d4 hlt hlt1 n0 n1 n2 n3 n4 hpn hb5 HO HV1
    rename World => V2
    obtain ⟨c0, c1, c2, c3, c4⟩ := HV2.out.2.1.cell
    obtain ⟨d0, d1, d2, d3, d4⟩ := HV2.out.2.2.1.cell
    have hlt := HV2.out.2.2.2.lt
    have hlt1 := HV2.out.2.2.1.lt
    dsimp only at c0 c1 c2 c3 c4 d0 d1 d2 d3 d4
    have hlt0 := HV2.out.2.1.lt
    obtain ⟨tt, htt⟩ : ∃ m, m = mulN ⟨r.A, r.B, r.C, r.D, 0⟩ (conjN ⟨s.A, s.B, s.C, s.D, 0⟩) := ⟨_, rfl⟩
    have htl : tt.le 67108864 := by rw [htt]; exact mulN_le hrl hcl
    have htK : tt.K = 0 := by rw [htt]; rfl
    have HT1 : Hid (∀ w, Calls Tryz.prog 88 #[nv r.A r.B r.C r.D 0, nv s.A (-s.D) (-s.C) (-s.B) 0] w (Gives tt.v w)) := fun w => by
      rw [htt]
      exact r_product ⟨r.A, r.B, r.C, r.D, 0⟩ (conjN ⟨s.A, s.B, s.C, s.D, 0⟩) 4096 4096 w hrl hcl (by decide) ⟨by show (-1000000 : Int) ≤ 0; decide, by show (0 : Int) ≤ 1000000; decide⟩ ⟨by show (-1000000 : Int) ≤ 0; decide, by show (0 : Int) ≤ 1000000; decide⟩
    obtain ⟨zz, hzz⟩ : ∃ m, m = mulN tt ⟨np, -nq, 0, nq, 0⟩ := ⟨_, rfl⟩
    have HT2 : Hid (∀ w, Calls Tryz.prog 88 #[nv tt.A tt.B tt.C tt.D tt.K, nv np (-nq) 0 nq 0] w (Gives zz.v w)) := fun w => by
      rw [hzz]
      exact r_product tt ⟨np, -nq, 0, nq, 0⟩ 67108864 67108864 w htl HNL.out (by decide) (by rw [htK]; decide) ⟨by show (-1000000 : Int) ≤ 0; decide, by show (0 : Int) ≤ 1000000; decide⟩
    have hzl : zz.le 18014398509481984 := by rw [hzz]; exact mulN_le htl HNL.out
    have hze : zz = ⟨(abN r s).A, (abN r s).B, (abN r s).C, (abN r s).D, 0⟩ := by rw [hzz, htt, HNP.out, HNQ.out]; exact above_ref r s
    have HZL := Lib.hid hzl
    have HZE := Lib.hid hze
    clear htt hzz htl htK hzl hze hsl hrl hcl
    go_upto_region 14 with fail
    go_cut [11] from 58 to 64 (fun p wx => PW zz V2 p wx)
    case first =>
      go_region_held3 (fun w' => Below V2.heap.size V2 w' ∧ (∀ b o, b < V2.heap.size → w'.cell? ⟨b, o, none⟩ = V2.cell? ⟨b, o, none⟩)) ((exact (fun h => ⟨h, (bcell h).1⟩) (by repeat (first | with_reducible exact Below.refl _ _ | with_reducible refine below_al ?_ _ | with_reducible refine below_dN ?_ _ | with_reducible refine Below.drew ?_ | (with_reducible refine Below.setCell ?_ (by simp <;> omega) _) | (with_reducible refine below_via (by assumption) ?_))))) (first | (go_at_call 91; (with_reducible refine (HJ.out _).mono ?_); rintro e w5 ⟨rfl, hw5⟩; (try replace hw5 := below_undrew hw5); obtain ⟨hcw5, hfw5⟩ := bcell hw5; have hzw5 := hw5.size; (try simp at hzw5); (try have hzw50 : w.heap.size < w5.heap.size := (by omega)); (try have hzw51 : w.heap.size + 1 < w5.heap.size := (by omega)); (try have hzw52 : V1.heap.size < w5.heap.size := (by omega)); (try have hzw53 : V2.heap.size < w5.heap.size := (by omega))) | (go_at_call 88; (with_reducible refine (HT1.out _).mono ?_); rintro e w6 ⟨rfl, hw6⟩; (try replace hw6 := below_undrew hw6); obtain ⟨hcw6, hfw6⟩ := bcell hw6; have hzw6 := hw6.size; (try simp at hzw6); (try have hzw60 : w.heap.size < w6.heap.size := (by omega)); (try have hzw61 : w.heap.size + 1 < w6.heap.size := (by omega)); (try have hzw62 : V1.heap.size < w6.heap.size := (by omega)); (try have hzw63 : V2.heap.size < w6.heap.size := (by omega)); (try have hz65 : w5.heap.size < w6.heap.size := (by omega))) | (go_at_call 88; (with_reducible refine (HT2.out _).mono ?_); rintro e w8 ⟨rfl, hw8⟩; (try replace hw8 := below_undrew hw8); obtain ⟨hcw8, hfw8⟩ := bcell hw8; have hzw8 := hw8.size; (try simp at hzw8); (try have hzw80 : w.heap.size < w8.heap.size := (by omega)); (try have hzw81 : w.heap.size + 1 < w8.heap.size := (by omega)); (try have hzw82 : V1.heap.size < w8.heap.size := (by omega)); (try have hzw83 : V2.heap.size < w8.heap.size := (by omega)); (try have hz85 : w5.heap.size < w8.heap.size := (by omega)); (try have hz86 : w6.heap.size < w8.heap.size := (by omega))))
      all_goals
        go_wp2_with fail
        go_meet
        refine ⟨_, rfl, ⟨?_, ?_, ?_, ?_, ?_⟩, ⟨?_, ?_, ?_, ?_, ?_⟩, ?_, ?_, (by repeat (first | with_reducible exact Below.refl _ _ | with_reducible refine below_al ?_ _ | with_reducible refine below_dN ?_ _ | with_reducible refine Below.drew ?_ | (with_reducible refine Below.setCell ?_ (by simp <;> omega) _) | (with_reducible refine below_via (by assumption) ?_)))⟩
      all_goals (try go_simp)
      all_goals (first | omega | (refine World.cell?_setCell_same' _ _ _ ?_; go_simp))
    case rest =>
      obtain ⟨pz, rfl, hcz, hfz, hpz, hge, hb8⟩ := hcut
      have HV3 := HV2.out.call hb8
      have hlt2 := HV2.out.2.2.2.lt
      have hZ : Zat w pz zz wc := ⟨HV3.1, HV3.2.2.2, ⟨hcz, hpz⟩, hfz, by omega⟩
      have ZS := Lib.hid hZ
      clear hcz hfz hpz hge hb8 HV3 hlt2 hZ c0 c1 c2 c3 c4 d0 d1 d2 d3 d4 hlt hlt0 hlt1 o0 o1 o2 o3 o4 hlo HT1 HT2 HV2 HNL HNP HNQ HJ hq1 hq2
      have hb0 : bN s ≠ 0 := fun hc => by
        have h := (bN_zero s).1 hc
        rw [HQ.out.2.2] at h
        cases h
      have hbp : 0 < ww.A := by rw [HWA.out]; have := bN_nonneg s; omega
      have hbl : ww.A ≤ 18014398509481984 := by rw [HWA.out]; exact bN_le (in_le HQ.out.2.1)
      have HB0 := Lib.hid hb0
      obtain ⟨b0, hb0'⟩ : ∃ b, b = ww.A := ⟨_, rfl⟩
      rw [← hb0'] at HWA hbp hbl ⊢
      obtain ⟨k0, hk0⟩ : ∃ k, k = r.K - s.K := ⟨_, rfl⟩
      have HK0 := Lib.hid hk0
      rw [← hk0]
      have hk5 : -60 ≤ k0 := by have := HR.out; omega
      have hk6 : k0 ≤ 60 := by have := HR.out; omega
      clear hb0 hb0' hk0 hk1 hk2 hk3 hk4
      have e64 : b0 < 2 ^ 64 := by
        have h3 : (18014398509481984 : Int) < 2 ^ 64 := by decide
        omega
      have E64 := Lib.hid e64
      have hle3 : w.heap.size ≤ w.heap.size + 1 + 1 := by omega
      clear e64
      go_wp2_with fail
      go_loopw [7, 10] (fun k o wr => ∃ (m : Nat) (ov tv : Int), k = .int .i64 (k0 + 2 * tv) ∧ o = .int .i64 ov ∧ 0 < ov ∧ ov ≤ 18014398509481984 ∧ 0 ≤ tv ∧ tv + m ≤ 64 ∧ Hid (ov < 2 ^ m) ∧ Hid (strip m ov tv = strip 64 b0 0) ∧ Hid (Zat w pz zz wr)) (fun _ o _ => (intOf o).toNat)
      case atStart => exact ⟨64, b0, 0, by rw [Int.mul_zero, Int.add_zero], rfl, hbp, hbl, by omega, by omega, E64.out, rfl, ZS.out⟩
      case round =>
        obtain ⟨m, ov, tv, rfl, rfl, ho1, ho2, ht1, ht2, HP2, HST, ZR⟩ := hrel
        clear ZS hbp hbl E64
        by_cases hev : ov % 2 = 0
        · obtain ⟨m', rfl, hs', ho3, ho4⟩ := strip_even (t := tv) ho1 HP2.out hev
          have HS' : Hid (strip m' (ov / 2) (tv + 1) = strip 64 b0 0) := hs'.symm.trans HST.out
          have HO4 := Lib.hid ho4
          have hb2 : (ov % 2 == 0) = true := beq_iff_eq.2 hev
          clear hev hs' ho4 HP2 HST
          go_wp2_with fail
          go_roundw
          case rel => exact ⟨m', ov / 2, tv + 1, by rw [show k0 + 2 * (tv + 1) = k0 + 2 * tv + 2 by omega], rfl, ho3, by omega, by omega, by omega, HO4.out, HS'.out, ZR.out⟩
          case measure => simp [intOf]; omega
        · have hst : strip 64 (bN s) 0 = (ov, tv) := by rw [← HWA.out, ← HST.out]; exact strip_end hev
          have hb2 : (ov % 2 == 0) = false := beq_eq_false_iff_ne.2 hev
          have hqK : (quoN r s).K = k0 + 2 * tv := by rw [quoN_K' hst, ← HK0.out]
          obtain ⟨kq, hkq⟩ : ∃ k, k = k0 + 2 * tv := ⟨_, rfl⟩
          rw [← hkq] at hqK ⊢
          have hkl : -60 ≤ kq := by omega
          have hkh : kq ≤ 188 := by omega
          clear hkq HST HP2 hev hk5 hk6 ht1 ht2
          obtain ⟨l0, l1, l2, l3⟩ := HZL.out
          have q0 := tdiv_le (o := ov) l0
          have q1 := tdiv_le (o := ov) l1
          have q2 := tdiv_le (o := ov) l2
          have q3 := tdiv_le (o := ov) l3
          obtain ⟨z0, z1, z2, z3, z4⟩ := ZR.out.cb.cell
          obtain ⟨f0, f1, f2, f3, f4⟩ := ZR.out.free
          have hlz := ZR.out.cb.lt
          (try dsimp only at z0 z1 z2 z3 z4)
          obtain ⟨e0, e1, e2, e3, e4⟩ := ZR.out.res.cell
          obtain ⟨g0, g1, g2, g3, g4⟩ := ZR.out.res.free
          have hlr := ZR.out.res.lt
          have hw9 := ZR.out.bel
          (try dsimp only at e0 e1 e2 e3 e4)
          have hg := HCA.out.1
          have hgz : zz.A.tmod ov = 0 ∧ zz.B.tmod ov = 0 ∧ zz.C.tmod ov = 0 ∧ zz.D.tmod ov = 0 := by
            have h := hg
            unfold goes at h
            rw [hst] at h
            rw [HZE.out]
            exact h
          obtain ⟨m0, m1, m2, m3⟩ := hgz
          have hr := div_yes ⟨HQ.out.1, HQ.out.2.1⟩ HB0.out hg
          have hQN : quoN r s = ⟨zz.A.tdiv ov, zz.B.tdiv ov, zz.C.tdiv ov, zz.D.tdiv ov, kq⟩ := by
            refine Nm.ext5 ?_ ?_ ?_ ?_ hqK <;> (unfold quoN; rw [hst, HZE.out])
          rw [hQN] at hr
          have hzq := HCA.out.2
          rw [hQN] at hzq
          have HZQ := Lib.hid hzq
          clear hzq HCA
          have hdN := HDN.out.trans hr.1
          have hdE := HDE.out.trans hr.2
          have HDN2 := Lib.hid hdN
          have HDE2 := Lib.hid hdE
          clear hr hQN hdN hdE hqK hst hg HDN HDE HZE HZL HWA HK0 HQ HR HB0
          go_wp2_with fail
          go_region
          have hne := ZR.out.ne
          have hpz3 : w.heap.size ≤ pz := by omega
          have ZA0 := (ZR.out.put ⟨zz.A.tdiv ov, zz.B.tdiv ov, zz.C.tdiv ov, zz.D.tdiv ov, 0⟩).call (Below.drew (Below.refl _ _))
          generalize hwa : World.drew _ = wa
          have ZA := Lib.hid (hwa ▸ ZA0)
          clear hwa ZA0 ZR m0 m1 m2 m3 l0 l1 l2 l3 z0 z1 z2 z3 z4 f0 f1 f2 f3 f4 hlz e0 e1 e2 e3 e4 g0 g1 g2 g3 g4 hlr hw9
          generalize zz.A.tdiv ov = qa at *
          generalize zz.B.tdiv ov = qb at *
          generalize zz.C.tdiv ov = qc at *
          generalize zz.D.tdiv ov = qd at *
          obtain ⟨z0, z1, z2, z3, z4⟩ := ZA.out.cb.cell
          obtain ⟨f0, f1, f2, f3, f4⟩ := ZA.out.free
          have hlz := ZA.out.cb.lt
          obtain ⟨e0, e1, e2, e3, e4⟩ := ZA.out.res.cell
          obtain ⟨g0, g1, g2, g3, g4⟩ := ZA.out.res.free
          have hlr := ZA.out.res.lt
          have hw9 := ZA.out.bel
          (try dsimp only at z0 z1 z2 z3 z4 e0 e1 e2 e3 e4)
          have HZ0 : Hid (∀ w, Calls Tryz.prog 94 #[nv qa qb qc qd 0] w (Gives (.bool (Nm.zero ⟨qa, qb, qc, qd, kq⟩)) w)) := fun w => r_zero qa qb qc qd 0 w
          have hz := HZQ.out
          clear HZQ
          rw [hz] at HZ0
          have hs := sett_zero hz
          have hdN := HDN2.out.trans hs.1
          have hdE := HDE2.out.trans hs.2
          have hv : qa = 0 ∧ qb = 0 ∧ qc = 0 ∧ qd = 0 := of_decide_eq_true hz
          clear hs hz HDN2 HDE2 q0 q1 q2 q3
          obtain ⟨rfl, rfl, rfl, rfl⟩ := hv
          go_wp2_with fail
          refine (HZ0.out _).mono ?_
          rintro e w10 ⟨rfl, hbw10⟩
          have Z2 := Lib.hid (ZA.out.call hbw10)
          clear hbw10 ZA HZ0
          clear z0 z1 z2 z3 z4 f0 f1 f2 f3 f4 hlz e0 e1 e2 e3 e4 g0 g1 g2 g3 g4 hlr hw9
          obtain ⟨z0, z1, z2, z3, z4⟩ := Z2.out.cb.cell
          obtain ⟨f0, f1, f2, f3, f4⟩ := Z2.out.free
          have hlz := Z2.out.cb.lt
          obtain ⟨e0, e1, e2, e3, e4⟩ := Z2.out.res.cell
          obtain ⟨g0, g1, g2, g3, g4⟩ := Z2.out.res.free
          have hlr := Z2.out.res.lt
          have hw9 := Z2.out.bel
          (try dsimp only at z0 z1 z2 z3 z4 e0 e1 e2 e3 e4)
          go_wp2_with fail
          exact bodyPost_ret (v := .tuple #[nul.v, .int .i64 0]) (by simp [results, Tryz.results53, go_sem, e0, e1, e2, e3, e4]) rfl ⟨(by first | rfl | (rw [hdN, hdE]; try rfl)), (by repeat (first | with_reducible exact hw9 | with_reducible refine Below.drew ?_ | with_reducible refine below_dN ?_ _ | with_reducible refine Below.setCell ?_ (by first | exact hle3 | exact hpz3) _))⟩
end Go.Proofs.YtcdmcndjbajhlaaGreatDoor
