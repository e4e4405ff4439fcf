
/- The reference's powers of w, and its Phase. -/
import Derived.Test.YtjalpolciofphaaDoorSf
import Derived.Test.YtjalpolciofphaaDoorPm
set_option linter.all false
set_option maxRecDepth 100000
namespace Go.Proofs.YtjalpolciofphaaDoor
open Go.RowKit

set_option maxHeartbeats 2000000 in
theorem r_Omega (n : Nat) (w : World) (hn : n < 8) : Calls Tryd.prog 22 #[.int .i64 n] w (Gives (pw n).v w) := by
  have hm : ((n : Int) % 8 + 8) % 8 = n := by omega
  have hm0 : (n : Int) % 8 = n := by omega
  go_enter Tryd.func22, Tryd.ntmps22
  go_wp2_with fail
  go_loopw [4] (fun i wr => ∃ k : Nat, k ≤ n ∧ i = .int .i64 k ∧ Hid (Box wr w.heap.size 23 nul) ∧ Hid (Box wr (w.heap.size + 1) 23 (pw k)) ∧ Below w.heap.size w wr) (fun i _ => n - (intOf i).toNat)
  case atStart =>
    refine ⟨0, by omega, rfl, box_al (box_new w 0 0 0 0 0 _) _, ?_, (by repeat (first | with_reducible exact Below.refl _ _ | with_reducible refine below_al ?_ _ | with_reducible refine below_dN ?_ _ | with_reducible refine Below.drew ?_ | (with_reducible refine Below.setCell ?_ (by simp <;> omega) _) | (with_reducible refine below_via (by assumption) ?_)))⟩
    have h := box_new (w.alloc (.cells #[.int .i64 0, .int .i64 0, .int .i64 0, .int .i64 0, .int .i64 0] 23)) 1 0 0 0 0 23
    rw [World.size_alloc] at h
    exact h
  case round =>
    obtain ⟨k, hk, rfl, HZ, HX, hwr⟩ := hrel
    obtain ⟨c0, c1, c2, c3, c4⟩ := HX.out.cell
    obtain ⟨f0, f1, f2, f3, f4⟩ := HX.out.free
    obtain ⟨z0, z1, z2, z3, z4⟩ := HZ.out.cell
    obtain ⟨g0, g1, g2, g3, g4⟩ := HZ.out.free
    have hlt := HX.out.lt
    have hltz := HZ.out.lt
    obtain ⟨⟨p1, p2⟩, ⟨p3, p4⟩, ⟨p5, p6⟩, ⟨p7, p8⟩⟩ := pw_le k
    have hK := pw_K k
    rw [hK] at c4
    clear hK
    dsimp only at z0 z1 z2 z3 z4
    by_cases hkn : k < n
    · go_wp2_with fail
      have hbox := box_cells HX.out (pw (k + 1))
      go_roundw
      case rel => exact ⟨k + 1, by omega, by go_num, ((((HZ.out.other (by omega)).other (by omega)).other (by omega)).other (by omega)).other (by omega), hbox, (by repeat (first | with_reducible exact Below.refl _ _ | with_reducible refine below_al ?_ _ | with_reducible refine below_dN ?_ _ | with_reducible refine Below.drew ?_ | (with_reducible refine Below.setCell ?_ (by simp <;> omega) _) | (with_reducible refine below_via (by assumption) ?_)))⟩
      case measure => simp [intOf]; omega
    · have : k = n := by omega
      subst this
      have hv : (pw k).v = nv (pw k).A (pw k).B (pw k).C (pw k).D 0 := by unfold Nm.v; rw [pw_K]
      have HV := Lib.hid hv
      clear hv hm hm0
      go_wp2_with fail
      rw [HV.out]
      exact bodyPost_ret (v := nv (pw k).A (pw k).B (pw k).C (pw k).D 0) (by simp [results, Tryd.results22, go_sem, z0, z1, z2, z3, z4]) rfl ⟨rfl, (by repeat (first | with_reducible exact Below.refl _ _ | with_reducible refine below_al ?_ _ | with_reducible refine below_dN ?_ _ | with_reducible refine Below.drew ?_ | (with_reducible refine Below.setCell ?_ (by simp <;> omega) _) | (with_reducible refine below_via (by assumption) ?_)))⟩

theorem hit_first {x y : Nm} {n : Nat} (m : Nat) (h : hitN x y n = true) : firstHit x y (m + 1) n = some n := by rw [firstHit, if_pos h]
theorem hit_next {x y : Nm} {n : Nat} (m : Nat) (h : hitN x y n = false) : firstHit x y (m + 1) n = firstHit x y m (n + 1) := by rw [firstHit, if_neg (by rw [h]; simp)]
theorem mulN_pw_le {y : Nm} (n : Nat) (h : y.le 1073741824) : (mulN y (pw n)).le 4294967296 := le_mono (mulN_le h (pw_le n)) (by omega)
/-- What the reference's Phase returns. -/
def phaseV (x y : Nm) : Value := .tuple #[.int .i64 (if chk2 x y = 0 then (phaseR x y).1 else 0), .int .i64 (if chk2 x y = 0 then (phaseR x y).2 else chk2 x y)]
set_option maxHeartbeats 4000000 in
theorem r_Phase (x y : Nm) (w : World) : Calls Tryd.prog 27 #[x.v, y.v] w (Gives (phaseV x y) w) := by
  have hbx : InTwo w w.heap.size (w.heap.size + 1) x y ((w.alloc (.cells #[.int .i64 x.A, .int .i64 x.B, .int .i64 x.C, .int .i64 x.D, .int .i64 x.K] 23)).alloc (.cells #[.int .i64 y.A, .int .i64 y.B, .int .i64 y.C, .int .i64 y.D, .int .i64 y.K] 23)) := by
    refine ⟨(by repeat (first | with_reducible exact Below.refl _ _ | with_reducible refine below_al ?_ _ | with_reducible refine below_dN ?_ _ | with_reducible refine Below.drew ?_ | (with_reducible refine Below.setCell ?_ (by simp <;> omega) _) | (with_reducible refine below_via (by assumption) ?_))), box_al (box_new w _ _ _ _ _ _) _, ?_⟩
    have h := box_new (w.alloc (.cells #[.int .i64 x.A, .int .i64 x.B, .int .i64 x.C, .int .i64 x.D, .int .i64 x.K] 23)) y.A y.B y.C y.D y.K 23
    rw [World.size_alloc] at h
    exact h
  have HBX := Lib.hid hbx
  clear hbx
  have HC : Hid (∀ (b T : Nat) (w : World), Two w b T x y → Calls Tryd.prog 35 #[.slice (some ⟨b, 0, none⟩) 2 2] w (Gives (.int .i64 (chk2 x y)) w)) := fun b T w h => r_checks2 x y b T w h
  unfold phaseV
  by_cases h : chk2 x y = 0
  · rw [if_pos h, if_pos h]
    have h12 := chk2_ok h
    have hk1 := chk_ok (A := x.A) (B := x.B) (C := x.C) (D := x.D) (K := x.K) h12.1
    have hk2 := chk_ok (A := y.A) (B := y.B) (C := y.C) (D := y.D) (K := y.K) h12.2
    have HO : Hid (∀ (n : Nat), n < 8 → ∀ w, Calls Tryd.prog 22 #[.int .i64 n] w (Gives (pw n).v w)) := fun n hn w => r_Omega n w hn
    have HP : Hid (∀ (n : Nat) w, Calls Tryd.prog 40 #[y.v, (pw n).v] w (Gives (mulN y (pw n)).v w)) := fun n w => r_product y (pw n) _ 1 w (right_le h12.2) (pw_le n) (by omega) (by omega) (by rw [pw_K]; omega)
    have HE : Hid (∀ (n : Nat) w, Calls Tryd.prog 66 #[x.v, (mulN y (pw n)).v] w (Gives (.bool (hitN x y n)) w)) := fun n w => by
      have hK : (mulN y (pw n)).K = y.K + (pw n).K := rfl
      rw [pw_K] at hK
      exact r_equal x (mulN y (pw n)) w (right_wide h12.1) (le_wide (mulN_pw_le n (right_le h12.2)) (by omega)) (by omega) (by omega)
    rw [h] at HC
    have HF : Hid (firstHit x y 8 0 = firstHit x y 8 0) := rfl
    have HR : Hid (phaseR x y = match firstHit x y 8 0 with | some n => ((n : Int), 0) | none => (0, 6)) := rfl
    generalize phaseR x y = R at *
    generalize hF0 : firstHit x y 8 0 = F0 at HR
    have HF0 := Lib.hid hF0
    clear hF0 HF h h12 hk1 hk2
    go_enter Tryd.func27, Tryd.ntmps27
    go_wp2_with fail
    refine (HC.out _ _ _ (two_new2 w _ _ x y _)).mono ?_
    rintro e w1 ⟨rfl, hb⟩
    have h1 := Lib.hid ((HBX.out.al _).call hb)
    clear hb HBX HC
    go_wp2_with fail
    go_loopw [7] (fun i wr => ∃ k : Nat, k ≤ 8 ∧ i = .int .i64 k ∧ Hid (firstHit x y (8 - k) k = F0) ∧ Hid (InTwo w w.heap.size (w.heap.size + 1) x y wr)) (fun i _ => 8 - (intOf i).toNat)
    case atStart => exact ⟨0, by omega, rfl, HF0.out, h1.out⟩
    case round =>
      obtain ⟨k, hk, rfl, HK, HI⟩ := hrel
      clear h1
      by_cases hk8 : k < 8
      · cases hh : hitN x y k with
        | true =>
          have HEk : Hid (∀ w, Calls Tryd.prog 66 #[x.v, (mulN y (pw k)).v] w (Gives (.bool true) w)) := fun w => by rw [← hh]; exact HE.out k w
          have hr : R = ((k : Int), 0) := by
            have h2 := HK.out
            rw [show 8 - k = (7 - k) + 1 by omega, hit_first _ hh] at h2
            have h3 := HR.out
            rw [← h2] at h3
            exact h3
          have HRR := Lib.hid hr
          clear hr hh HE HR HK
          go_wp2_with fail
          refine region_fin (InTwo w w.heap.size (w.heap.size + 1) x y) 19 [x.v, y.v, .int .i64 k, (pw k).v, (mulN y (pw k)).v, .bool true, u25] 19 x.v (by as_aux_lemma => kernel_rfl) (by as_aux_lemma => kernel_rfl) (by as_aux_lemma => kernel_rfl) (outV_fin _ 6 (by as_aux_lemma => kernel_rfl) (Nat.le_of_ble_eq_true (by kernel_rfl)) (Nat.le_of_ble_eq_true (by kernel_rfl)) (by as_aux_lemma => kernel_rfl)) (HI.out.call (below_dN (Below.refl _ _) 1)) ?_ ?_
          rotate_left
          · refine eachOp_cons (ok_load (by kernel_rfl) (by kernel_rfl) (fun _ hC => load_num (b := w.heap.size) (x := x) rfl (by kernel_rfl) hC.2.1)) ?_
            refine eachOp_cons (ok_load (by kernel_rfl) (by kernel_rfl) (fun _ hC => load_num (b := w.heap.size + 1) (x := y) rfl (by kernel_rfl) hC.2.2)) ?_
            refine eachOp_cons (ok_val (by kernel_rfl) (by kernel_rfl) (fun _ => by kernel_rfl)) ?_
            refine eachOp_cons (ok_call 22 #[.int .i64 k] (by kernel_rfl) (by kernel_rfl) (fun _ => by kernel_rfl) (fun W hC => (HO.out k hk8 W).mono fun _ _ h => ⟨h.1, hC.call h.2⟩)) ?_
            refine eachOp_cons (ok_call 40 #[y.v, (pw k).v] (by kernel_rfl) (by kernel_rfl) (fun _ => by kernel_rfl) (fun W hC => (HP.out k W).mono fun _ _ h => ⟨h.1, hC.call h.2⟩)) ?_
            refine eachOp_cons (ok_call 66 #[x.v, (mulN y (pw k)).v] (by kernel_rfl) (by kernel_rfl) (fun _ => by kernel_rfl) (fun W hC => (HEk.out W).mono fun _ _ h => ⟨h.1, hC.call h.2⟩)) ?_
            exact eachOp_nil
          intro W hW
          rename_i hK
          refine hK _ _ ?_
          have HI2 := Lib.hid hW
          have hw2 := hW.1
          clear hW HI hK
          simp only [finA, List.take_succ_cons, List.take_zero, List.cons_append, List.nil_append, List.set_cons_succ, List.set_cons_zero]
          go_wp2_with fail
          rw [HRR.out]
          go_ret2
          exact ⟨rfl, hw2⟩
        | false =>
          have HEk : Hid (∀ w, Calls Tryd.prog 66 #[x.v, (mulN y (pw k)).v] w (Gives (.bool false) w)) := fun w => by rw [← hh]; exact HE.out k w
          have hn : firstHit x y (8 - (k + 1)) (k + 1) = F0 := by
            have h2 := HK.out
            rw [show 8 - k = (8 - (k + 1)) + 1 by omega, hit_next _ hh] at h2
            exact h2
          have HN := Lib.hid hn
          clear hn hh HE HR HK
          go_wp2_with fail
          refine region_fin (InTwo w w.heap.size (w.heap.size + 1) x y) 19 [x.v, y.v, .int .i64 k, (pw k).v, (mulN y (pw k)).v, .bool false, u25] 19 x.v (by as_aux_lemma => kernel_rfl) (by as_aux_lemma => kernel_rfl) (by as_aux_lemma => kernel_rfl) (outV_fin _ 6 (by as_aux_lemma => kernel_rfl) (Nat.le_of_ble_eq_true (by kernel_rfl)) (Nat.le_of_ble_eq_true (by kernel_rfl)) (by as_aux_lemma => kernel_rfl)) (HI.out.call (below_dN (Below.refl _ _) 1)) ?_ ?_
          rotate_left
          · refine eachOp_cons (ok_load (by kernel_rfl) (by kernel_rfl) (fun _ hC => load_num (b := w.heap.size) (x := x) rfl (by kernel_rfl) hC.2.1)) ?_
            refine eachOp_cons (ok_load (by kernel_rfl) (by kernel_rfl) (fun _ hC => load_num (b := w.heap.size + 1) (x := y) rfl (by kernel_rfl) hC.2.2)) ?_
            refine eachOp_cons (ok_val (by kernel_rfl) (by kernel_rfl) (fun _ => by kernel_rfl)) ?_
            refine eachOp_cons (ok_call 22 #[.int .i64 k] (by kernel_rfl) (by kernel_rfl) (fun _ => by kernel_rfl) (fun W hC => (HO.out k hk8 W).mono fun _ _ h => ⟨h.1, hC.call h.2⟩)) ?_
            refine eachOp_cons (ok_call 40 #[y.v, (pw k).v] (by kernel_rfl) (by kernel_rfl) (fun _ => by kernel_rfl) (fun W hC => (HP.out k W).mono fun _ _ h => ⟨h.1, hC.call h.2⟩)) ?_
            refine eachOp_cons (ok_call 66 #[x.v, (mulN y (pw k)).v] (by kernel_rfl) (by kernel_rfl) (fun _ => by kernel_rfl) (fun W hC => (HEk.out W).mono fun _ _ h => ⟨h.1, hC.call h.2⟩)) ?_
            exact eachOp_nil
          intro W hW
          rename_i hK
          refine hK _ _ ?_
          have HI2 := Lib.hid hW
          have hw2 := hW.1
          clear hW HI hK
          simp only [finA, List.take_succ_cons, List.take_zero, List.cons_append, List.nil_append, List.set_cons_succ, List.set_cons_zero]
          go_wp2_with fail
          go_roundw
          case rel => exact ⟨k + 1, by omega, by go_num, HN.out, HI2.out⟩
          case measure => simp [intOf]; omega
      · have : k = 8 := by omega
        subst this
        have hr : R = (0, 6) := by
          have h2 := HK.out
          have h3 := HR.out
          rw [← h2] at h3
          exact h3
        have HRR := Lib.hid hr
        have hw := HI.out.1
        clear hr HR HK
        go_wp2_with fail
        rw [HRR.out]
        go_ret2
        exact ⟨rfl, hw⟩
  · have h2 : (chk2 x y != 0) = true := bne_iff_ne.2 h
    rw [if_neg h, if_neg h]
    generalize chk2 x y = q at *
    clear h
    go_enter Tryd.func27, Tryd.ntmps27
    go_wp2_with fail
    refine (HC.out _ _ _ (two_new2 w _ _ x y _)).mono ?_
    rintro e w1 ⟨rfl, hb⟩
    have h1 := (HBX.out.al _).call hb
    have hw1 := h1.1
    clear h1
    go_wp2_with fail
    go_ret2
    exact ⟨rfl, hw1⟩
end Go.Proofs.YtjalpolciofphaaDoor
