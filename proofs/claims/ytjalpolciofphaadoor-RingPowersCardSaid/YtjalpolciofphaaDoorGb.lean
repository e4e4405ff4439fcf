import Derived.Test.YtjalpolciofphaaDoorSe
import Derived.Test.YtjalpolciofphaaDoorTn
import Derived.Test.YtjalpolciofphaaDoorSf
import Derived.Test.YtjalpolciofphaaDoorPm
import Derived.Test.YtjalpolciofphaaDoorGa
import Derived.Laws.EntriesVeiled
import Derived.Test.YtjalpolciofphaaDoorRl
import Derived.Laws.AppendOwnNone
set_option linter.all false
set_option maxRecDepth 100000
/- The reference's Mul. -/
namespace Go.Proofs.YtjalpolciofphaaDoor
open Go.RowKit

def mulV (x y : Nm) : Value := .tuple #[(jointN x y (mulN x y)).v, .int .i64 (jointE x y (mulN x y))]
set_option maxHeartbeats 4000000 in
theorem r_Mul (x y : Nm) (w : World) : Calls Tryd.prog 10 #[x.v, y.v] w (Gives (mulV x y) w) := by
  have hbx : InTwo w w.heap.size (w.heap.size + 1) x y ((w.alloc (.cells #[.int .i64 x.A, .int .i64 x.B, .int .i64 x.C, .int .i64 x.D, .int .i64 x.K] 23)).alloc (.cells #[.int .i64 y.A, .int .i64 y.B, .int .i64 y.C, .int .i64 y.D, .int .i64 y.K] 23)) := by
    refine ⟨(by repeat (first | with_reducible exact Below.refl _ _ | with_reducible refine below_al ?_ _ | with_reducible refine below_dN ?_ _ | with_reducible refine Below.drew ?_ | (with_reducible refine Below.setCell ?_ (by simp <;> omega) _) | (with_reducible refine below_via (by assumption) ?_))), box_al (box_new w _ _ _ _ _ _) _, ?_⟩
    have h := box_new (w.alloc (.cells #[.int .i64 x.A, .int .i64 x.B, .int .i64 x.C, .int .i64 x.D, .int .i64 x.K] 23)) y.A y.B y.C y.D y.K 23
    rw [World.size_alloc] at h
    exact h
  have HBX := Lib.hid hbx
  clear hbx
  have HC : Hid (∀ (b T : Nat) (w : World), Two w b T x y → Calls Tryd.prog 35 #[.slice (some ⟨b, 0, none⟩) 2 2] w (Gives (.int .i64 (chk2 x y)) w)) := fun b T w h => r_checks2 x y b T w h
  by_cases h : chk2 x y = 0
  · have h12 := chk2_ok h
    have hk1 := chk_ok (A := x.A) (B := x.B) (C := x.C) (D := x.D) (K := x.K) h12.1
    have hk2 := chk_ok (A := y.A) (B := y.B) (C := y.C) (D := y.D) (K := y.K) h12.2
    have hK : (mulN x y).K = x.K + y.K := rfl
    have hv : mulV x y = .tuple #[(fitN (mulN x y)).v, .int .i64 (fitE (mulN x y))] := by unfold mulV jointN jointE; rw [if_pos h, if_pos h]
    have HX : Hid (∀ w, Calls Tryd.prog 40 #[x.v, y.v] w (Gives (mulN x y).v w)) := fun w => r_product x y _ _ w (right_le h12.1) (right_le h12.2) (by omega) (by omega) (by omega)
    have HY : Hid (∀ w, Calls Tryd.prog 38 #[(mulN x y).v] w (Gives (.tuple #[(fitN (mulN x y)).v, .int .i64 (fitE (mulN x y))]) w)) := fun w => r_fits _ w (le_wide (mulN_le (right_le h12.1) (right_le h12.2)) (by omega)) (by omega)
    rw [hv]
    rw [h] at HC
    clear h12 h hk1 hk2 hK hv
    generalize fitN (mulN x y) = f at *
    generalize fitE (mulN x y) = q at *
    generalize mulN x y = v at *
    go_enter Tryd.func10, Tryd.ntmps10
    go_wp2_with fail
    refine (HC.out _ _ _ (two_new3 w _ _ _ x y _)).mono ?_
    rintro e w1 ⟨rfl, hb⟩
    have h1 : InAdd w x y w1 := by
      have h2 := ((HBX.out.al (.cells #[.int .i64 0, .int .i64 0, .int .i64 0, .int .i64 0, .int .i64 0] 23)).al _).call hb
      refine ⟨h2.1, h2.2.1, h2.2.2, ?_⟩
      have h := box_new ((w.alloc (.cells #[.int .i64 x.A, .int .i64 x.B, .int .i64 x.C, .int .i64 x.D, .int .i64 x.K] 23)).alloc (.cells #[.int .i64 y.A, .int .i64 y.B, .int .i64 y.C, .int .i64 y.D, .int .i64 y.K] 23)) 0 0 0 0 0 23
      simp only [World.size_alloc] at h
      exact (box_al h _).below hb (by simp <;> omega)
    clear hb HBX HC
    obtain ⟨c0, c1, c2, c3, c4⟩ := h1.2.1.cell
    obtain ⟨d0, d1, d2, d3, d4⟩ := h1.2.2.1.cell
    have hlt := h1.2.2.2.lt
    have HI := Lib.hid h1
    clear h1
    go_wp2_with fail
    refine (HX.out _).mono ?_
    rintro e w2 ⟨rfl, hb2⟩
    have HI2 := Lib.hid (HI.out.call hb2)
    clear c0 c1 c2 c3 c4 d0 d1 d2 d3 d4 hlt hb2 HI
    go_wp2_with fail
    refine (HY.out _).mono ?_
    rintro e w3 ⟨rfl, hb3⟩
    have h3 := HI2.out.call hb3
    clear hb3 HI2 HX HY
    obtain ⟨z0, z1, z2, z3, z4⟩ := h3.2.2.2.cell
    obtain ⟨g0, g1, g2, g3, g4⟩ := h3.2.2.2.free
    have hlt := h3.2.2.2.lt
    have hw2 := h3.1
    have hle3 : w.heap.size ≤ w.heap.size + 1 + 1 := by omega
    clear h3
    dsimp only at z0 z1 z2 z3 z4
    go_wp2_with fail
    exact bodyPost_ret (v := .tuple #[f.v, .int .i64 q]) (by simp [results, Tryd.results10, go_sem, z0, z1, z2, z3, z4]) rfl ⟨rfl, by first | exact hw2 | exact ((((hw2.setCell hle3 _).setCell hle3 _).setCell hle3 _).setCell hle3 _).setCell hle3 _⟩
  · have hv : mulV x y = .tuple #[nul.v, .int .i64 (chk2 x y)] := by unfold mulV jointN jointE; rw [if_neg h, if_neg h]
    have h2 : (chk2 x y != 0) = true := bne_iff_ne.2 h
    rw [hv]
    generalize chk2 x y = q at *
    clear h hv
    go_enter Tryd.func10, Tryd.ntmps10
    go_wp2_with fail
    refine (HC.out _ _ _ (two_new3 w _ _ _ x y _)).mono ?_
    rintro e w1 ⟨rfl, hb⟩
    have h1 : InAdd w x y w1 := by
      have h2 := ((HBX.out.al (.cells #[.int .i64 0, .int .i64 0, .int .i64 0, .int .i64 0, .int .i64 0] 23)).al _).call hb
      refine ⟨h2.1, h2.2.1, h2.2.2, ?_⟩
      have h := box_new ((w.alloc (.cells #[.int .i64 x.A, .int .i64 x.B, .int .i64 x.C, .int .i64 x.D, .int .i64 x.K] 23)).alloc (.cells #[.int .i64 y.A, .int .i64 y.B, .int .i64 y.C, .int .i64 y.D, .int .i64 y.K] 23)) 0 0 0 0 0 23
      simp only [World.size_alloc] at h
      exact (box_al h _).below hb (by simp <;> omega)
    clear hb HBX HC
    obtain ⟨z0, z1, z2, z3, z4⟩ := h1.2.2.2.cell
    obtain ⟨g0, g1, g2, g3, g4⟩ := h1.2.2.2.free
    have hlt := h1.2.2.2.lt
    have hw2 := h1.1
    have hle3 : w.heap.size ≤ w.heap.size + 1 + 1 := by omega
    clear h1
    dsimp only at z0 z1 z2 z3 z4
    go_wp2_with fail
    exact bodyPost_ret (v := .tuple #[nul.v, .int .i64 q]) (by simp [results, Tryd.results10, go_sem, z0, z1, z2, z3, z4]) rfl ⟨rfl, by first | exact hw2 | exact ((((hw2.setCell hle3 _).setCell hle3 _).setCell hle3 _).setCell hle3 _).setCell hle3 _⟩
end Go.Proofs.YtjalpolciofphaaDoor
/- The reference's powers of w, and its Phase. -/
namespace Go.Proofs.YtjalpolciofphaaDoor
open Go.RowKit

set_option maxHeartbeats 2000000 in
theorem r_Omega (n : Nat) (w : World) (hn : n < 8) : Calls Tryd.prog 22 #[.int .i64 n] w (Gives (pw n).v w) := by
  have hm : ((n : Int) % 8 + 8) % 8 = n := by omega
  have hm0 : (n : Int) % 8 = n := by omega
  go_enter Tryd.func22, Tryd.ntmps22
  go_wp2_with fail
  go_loopw [4] (fun i wr => ∃ k : Nat, k ≤ n ∧ i = .int .i64 k ∧ Hid (Box wr w.heap.size 23 nul) ∧ Hid (Box wr (w.heap.size + 1) 23 (pw k)) ∧ Below w.heap.size w wr) (fun i _ => n - (intOf i).toNat)
  case atStart =>
    refine ⟨0, by omega, rfl, box_al (box_new w 0 0 0 0 0 _) _, ?_, (by repeat (first | with_reducible exact Below.refl _ _ | with_reducible refine below_al ?_ _ | with_reducible refine below_dN ?_ _ | with_reducible refine Below.drew ?_ | (with_reducible refine Below.setCell ?_ (by simp <;> omega) _) | (with_reducible refine below_via (by assumption) ?_)))⟩
    have h := box_new (w.alloc (.cells #[.int .i64 0, .int .i64 0, .int .i64 0, .int .i64 0, .int .i64 0] 23)) 1 0 0 0 0 23
    rw [World.size_alloc] at h
    exact h
  case round =>
    obtain ⟨k, hk, rfl, HZ, HX, hwr⟩ := hrel
    obtain ⟨c0, c1, c2, c3, c4⟩ := HX.out.cell
    obtain ⟨f0, f1, f2, f3, f4⟩ := HX.out.free
    obtain ⟨z0, z1, z2, z3, z4⟩ := HZ.out.cell
    obtain ⟨g0, g1, g2, g3, g4⟩ := HZ.out.free
    have hlt := HX.out.lt
    have hltz := HZ.out.lt
    obtain ⟨⟨p1, p2⟩, ⟨p3, p4⟩, ⟨p5, p6⟩, ⟨p7, p8⟩⟩ := pw_le k
    have hK := pw_K k
    rw [hK] at c4
    clear hK
    dsimp only at z0 z1 z2 z3 z4
    by_cases hkn : k < n
    · go_wp2_with fail
      have hbox := box_cells HX.out (pw (k + 1))
      go_roundw
      case rel => exact ⟨k + 1, by omega, by go_num, ((((HZ.out.other (by omega)).other (by omega)).other (by omega)).other (by omega)).other (by omega), hbox, (by repeat (first | with_reducible exact Below.refl _ _ | with_reducible refine below_al ?_ _ | with_reducible refine below_dN ?_ _ | with_reducible refine Below.drew ?_ | (with_reducible refine Below.setCell ?_ (by simp <;> omega) _) | (with_reducible refine below_via (by assumption) ?_)))⟩
      case measure => simp [intOf]; omega
    · have : k = n := by omega
      subst this
      have hv : (pw k).v = nv (pw k).A (pw k).B (pw k).C (pw k).D 0 := by unfold Nm.v; rw [pw_K]
      have HV := Lib.hid hv
      clear hv hm hm0
      go_wp2_with fail
      rw [HV.out]
      exact bodyPost_ret (v := nv (pw k).A (pw k).B (pw k).C (pw k).D 0) (by simp [results, Tryd.results22, go_sem, z0, z1, z2, z3, z4]) rfl ⟨rfl, (by repeat (first | with_reducible exact Below.refl _ _ | with_reducible refine below_al ?_ _ | with_reducible refine below_dN ?_ _ | with_reducible refine Below.drew ?_ | (with_reducible refine Below.setCell ?_ (by simp <;> omega) _) | (with_reducible refine below_via (by assumption) ?_)))⟩

theorem hit_first {x y : Nm} {n : Nat} (m : Nat) (h : hitN x y n = true) : firstHit x y (m + 1) n = some n := by rw [firstHit, if_pos h]
theorem hit_next {x y : Nm} {n : Nat} (m : Nat) (h : hitN x y n = false) : firstHit x y (m + 1) n = firstHit x y m (n + 1) := by rw [firstHit, if_neg (by rw [h]; simp)]
theorem mulN_pw_le {y : Nm} (n : Nat) (h : y.le 1073741824) : (mulN y (pw n)).le 4294967296 := le_mono (mulN_le h (pw_le n)) (by omega)
/-- What the reference's Phase returns. -/
def phaseV (x y : Nm) : Value := .tuple #[.int .i64 (if chk2 x y = 0 then (phaseR x y).1 else 0), .int .i64 (if chk2 x y = 0 then (phaseR x y).2 else chk2 x y)]
set_option maxHeartbeats 4000000 in
theorem r_Phase (x y : Nm) (w : World) : Calls Tryd.prog 27 #[x.v, y.v] w (Gives (phaseV x y) w) := by
  have hbx : InTwo w w.heap.size (w.heap.size + 1) x y ((w.alloc (.cells #[.int .i64 x.A, .int .i64 x.B, .int .i64 x.C, .int .i64 x.D, .int .i64 x.K] 23)).alloc (.cells #[.int .i64 y.A, .int .i64 y.B, .int .i64 y.C, .int .i64 y.D, .int .i64 y.K] 23)) := by
    refine ⟨(by repeat (first | with_reducible exact Below.refl _ _ | with_reducible refine below_al ?_ _ | with_reducible refine below_dN ?_ _ | with_reducible refine Below.drew ?_ | (with_reducible refine Below.setCell ?_ (by simp <;> omega) _) | (with_reducible refine below_via (by assumption) ?_))), box_al (box_new w _ _ _ _ _ _) _, ?_⟩
    have h := box_new (w.alloc (.cells #[.int .i64 x.A, .int .i64 x.B, .int .i64 x.C, .int .i64 x.D, .int .i64 x.K] 23)) y.A y.B y.C y.D y.K 23
    rw [World.size_alloc] at h
    exact h
  have HBX := Lib.hid hbx
  clear hbx
  have HC : Hid (∀ (b T : Nat) (w : World), Two w b T x y → Calls Tryd.prog 35 #[.slice (some ⟨b, 0, none⟩) 2 2] w (Gives (.int .i64 (chk2 x y)) w)) := fun b T w h => r_checks2 x y b T w h
  unfold phaseV
  by_cases h : chk2 x y = 0
  · rw [if_pos h, if_pos h]
    have h12 := chk2_ok h
    have hk1 := chk_ok (A := x.A) (B := x.B) (C := x.C) (D := x.D) (K := x.K) h12.1
    have hk2 := chk_ok (A := y.A) (B := y.B) (C := y.C) (D := y.D) (K := y.K) h12.2
    have HO : Hid (∀ (n : Nat), n < 8 → ∀ w, Calls Tryd.prog 22 #[.int .i64 n] w (Gives (pw n).v w)) := fun n hn w => r_Omega n w hn
    have HP : Hid (∀ (n : Nat) w, Calls Tryd.prog 40 #[y.v, (pw n).v] w (Gives (mulN y (pw n)).v w)) := fun n w => r_product y (pw n) _ 1 w (right_le h12.2) (pw_le n) (by omega) (by omega) (by rw [pw_K]; omega)
    have HE : Hid (∀ (n : Nat) w, Calls Tryd.prog 66 #[x.v, (mulN y (pw n)).v] w (Gives (.bool (hitN x y n)) w)) := fun n w => by
      have hK : (mulN y (pw n)).K = y.K + (pw n).K := rfl
      rw [pw_K] at hK
      exact r_equal x (mulN y (pw n)) w (right_wide h12.1) (le_wide (mulN_pw_le n (right_le h12.2)) (by omega)) (by omega) (by omega)
    rw [h] at HC
    have HF : Hid (firstHit x y 8 0 = firstHit x y 8 0) := rfl
    have HR : Hid (phaseR x y = match firstHit x y 8 0 with | some n => ((n : Int), 0) | none => (0, 6)) := rfl
    generalize phaseR x y = R at *
    generalize hF0 : firstHit x y 8 0 = F0 at HR
    have HF0 := Lib.hid hF0
    clear hF0 HF h h12 hk1 hk2
    go_enter Tryd.func27, Tryd.ntmps27
    go_wp2_with fail
    refine (HC.out _ _ _ (two_new2 w _ _ x y _)).mono ?_
    rintro e w1 ⟨rfl, hb⟩
    have h1 := Lib.hid ((HBX.out.al _).call hb)
    clear hb HBX HC
    go_wp2_with fail
    go_loopw [7] (fun i wr => ∃ k : Nat, k ≤ 8 ∧ i = .int .i64 k ∧ Hid (firstHit x y (8 - k) k = F0) ∧ Hid (InTwo w w.heap.size (w.heap.size + 1) x y wr)) (fun i _ => 8 - (intOf i).toNat)
    case atStart => exact ⟨0, by omega, rfl, HF0.out, h1.out⟩
    case round =>
      obtain ⟨k, hk, rfl, HK, HI⟩ := hrel
      clear h1
      by_cases hk8 : k < 8
      · cases hh : hitN x y k with
        | true =>
          have HEk : Hid (∀ w, Calls Tryd.prog 66 #[x.v, (mulN y (pw k)).v] w (Gives (.bool true) w)) := fun w => by rw [← hh]; exact HE.out k w
          have hr : R = ((k : Int), 0) := by
            have h2 := HK.out
            rw [show 8 - k = (7 - k) + 1 by omega, hit_first _ hh] at h2
            have h3 := HR.out
            rw [← h2] at h3
            exact h3
          have HRR := Lib.hid hr
          clear hr hh HE HR HK
          go_wp2_with fail
          refine region_fin (InTwo w w.heap.size (w.heap.size + 1) x y) 19 [x.v, y.v, .int .i64 k, (pw k).v, (mulN y (pw k)).v, .bool true, u25] 19 x.v (by as_aux_lemma => kernel_rfl) (by as_aux_lemma => kernel_rfl) (by as_aux_lemma => kernel_rfl) (outV_fin _ 6 (by as_aux_lemma => kernel_rfl) (Nat.le_of_ble_eq_true (by kernel_rfl)) (Nat.le_of_ble_eq_true (by kernel_rfl)) (by as_aux_lemma => kernel_rfl)) (HI.out.call (below_dN (Below.refl _ _) 1)) ?_ ?_
          rotate_left
          · refine eachOp_cons (ok_load (by kernel_rfl) (by kernel_rfl) (fun _ hC => load_num (b := w.heap.size) (x := x) rfl (by kernel_rfl) hC.2.1)) ?_
            refine eachOp_cons (ok_load (by kernel_rfl) (by kernel_rfl) (fun _ hC => load_num (b := w.heap.size + 1) (x := y) rfl (by kernel_rfl) hC.2.2)) ?_
            refine eachOp_cons (ok_val (by kernel_rfl) (by kernel_rfl) (fun _ => by kernel_rfl)) ?_
            refine eachOp_cons (ok_call 22 #[.int .i64 k] (by kernel_rfl) (by kernel_rfl) (fun _ => by kernel_rfl) (fun W hC => (HO.out k hk8 W).mono fun _ _ h => ⟨h.1, hC.call h.2⟩)) ?_
            refine eachOp_cons (ok_call 40 #[y.v, (pw k).v] (by kernel_rfl) (by kernel_rfl) (fun _ => by kernel_rfl) (fun W hC => (HP.out k W).mono fun _ _ h => ⟨h.1, hC.call h.2⟩)) ?_
            refine eachOp_cons (ok_call 66 #[x.v, (mulN y (pw k)).v] (by kernel_rfl) (by kernel_rfl) (fun _ => by kernel_rfl) (fun W hC => (HEk.out W).mono fun _ _ h => ⟨h.1, hC.call h.2⟩)) ?_
            exact eachOp_nil
          intro W hW
          rename_i hK
          refine hK _ _ ?_
          have HI2 := Lib.hid hW
          have hw2 := hW.1
          clear hW HI hK
          simp only [finA, List.take_succ_cons, List.take_zero, List.cons_append, List.nil_append, List.set_cons_succ, List.set_cons_zero]
          go_wp2_with fail
          rw [HRR.out]
          go_ret2
          exact ⟨rfl, hw2⟩
        | false =>
          have HEk : Hid (∀ w, Calls Tryd.prog 66 #[x.v, (mulN y (pw k)).v] w (Gives (.bool false) w)) := fun w => by rw [← hh]; exact HE.out k w
          have hn : firstHit x y (8 - (k + 1)) (k + 1) = F0 := by
            have h2 := HK.out
            rw [show 8 - k = (8 - (k + 1)) + 1 by omega, hit_next _ hh] at h2
            exact h2
          have HN := Lib.hid hn
          clear hn hh HE HR HK
          go_wp2_with fail
          refine region_fin (InTwo w w.heap.size (w.heap.size + 1) x y) 19 [x.v, y.v, .int .i64 k, (pw k).v, (mulN y (pw k)).v, .bool false, u25] 19 x.v (by as_aux_lemma => kernel_rfl) (by as_aux_lemma => kernel_rfl) (by as_aux_lemma => kernel_rfl) (outV_fin _ 6 (by as_aux_lemma => kernel_rfl) (Nat.le_of_ble_eq_true (by kernel_rfl)) (Nat.le_of_ble_eq_true (by kernel_rfl)) (by as_aux_lemma => kernel_rfl)) (HI.out.call (below_dN (Below.refl _ _) 1)) ?_ ?_
          rotate_left
          · refine eachOp_cons (ok_load (by kernel_rfl) (by kernel_rfl) (fun _ hC => load_num (b := w.heap.size) (x := x) rfl (by kernel_rfl) hC.2.1)) ?_
            refine eachOp_cons (ok_load (by kernel_rfl) (by kernel_rfl) (fun _ hC => load_num (b := w.heap.size + 1) (x := y) rfl (by kernel_rfl) hC.2.2)) ?_
            refine eachOp_cons (ok_val (by kernel_rfl) (by kernel_rfl) (fun _ => by kernel_rfl)) ?_
            refine eachOp_cons (ok_call 22 #[.int .i64 k] (by kernel_rfl) (by kernel_rfl) (fun _ => by kernel_rfl) (fun W hC => (HO.out k hk8 W).mono fun _ _ h => ⟨h.1, hC.call h.2⟩)) ?_
            refine eachOp_cons (ok_call 40 #[y.v, (pw k).v] (by kernel_rfl) (by kernel_rfl) (fun _ => by kernel_rfl) (fun W hC => (HP.out k W).mono fun _ _ h => ⟨h.1, hC.call h.2⟩)) ?_
            refine eachOp_cons (ok_call 66 #[x.v, (mulN y (pw k)).v] (by kernel_rfl) (by kernel_rfl) (fun _ => by kernel_rfl) (fun W hC => (HEk.out W).mono fun _ _ h => ⟨h.1, hC.call h.2⟩)) ?_
            exact eachOp_nil
          intro W hW
          rename_i hK
          refine hK _ _ ?_
          have HI2 := Lib.hid hW
          have hw2 := hW.1
          clear hW HI hK
          simp only [finA, List.take_succ_cons, List.take_zero, List.cons_append, List.nil_append, List.set_cons_succ, List.set_cons_zero]
          go_wp2_with fail
          go_roundw
          case rel => exact ⟨k + 1, by omega, by go_num, HN.out, HI2.out⟩
          case measure => simp [intOf]; omega
      · have : k = 8 := by omega
        subst this
        have hr : R = (0, 6) := by
          have h2 := HK.out
          have h3 := HR.out
          rw [← h2] at h3
          exact h3
        have HRR := Lib.hid hr
        have hw := HI.out.1
        clear hr HR HK
        go_wp2_with fail
        rw [HRR.out]
        go_ret2
        exact ⟨rfl, hw⟩
  · have h2 : (chk2 x y != 0) = true := bne_iff_ne.2 h
    rw [if_neg h, if_neg h]
    generalize chk2 x y = q at *
    clear h
    go_enter Tryd.func27, Tryd.ntmps27
    go_wp2_with fail
    refine (HC.out _ _ _ (two_new2 w _ _ x y _)).mono ?_
    rintro e w1 ⟨rfl, hb⟩
    have h1 := (HBX.out.al _).call hb
    have hw1 := h1.1
    clear h1
    go_wp2_with fail
    go_ret2
    exact ⟨rfl, hw1⟩
end Go.Proofs.YtjalpolciofphaaDoor
/- Roots and powers, on both sides. -/
namespace Go.Proofs.YtjalpolciofphaaDoor
open Go.RowKit

def rootP (k : Int) : Value := if 0 ≤ k ∧ k ≤ 60 then .tuple #[nv 1 0 0 0 k, .int .i64 0] else .tuple #[nul.v, .int .i64 3]
theorem least_root (k : Int) : Nm.least ⟨1, 0, 0, 0, k⟩ = ⟨1, 0, 0, 0, k⟩ := by
  unfold Nm.least
  rw [if_neg (by simp [Nm.zero])]
  exact form_stop (.inr (by simp [Nm.even]))
set_option maxHeartbeats 2000000 in
theorem r_Root (k : Int) (w : World) : Calls Tryd.prog 15 #[.int .i64 k] w (Gives (rootP k) w) := by
  unfold rootP
  by_cases h : 0 ≤ k ∧ k ≤ 60
  · rw [if_pos h]
    obtain ⟨h0, h1⟩ := h
    have HF : Hid (∀ w, Calls Tryd.prog 36 #[nv 1 0 0 0 k] w (Gives (nv 1 0 0 0 k) w)) := fun w => by
      have h := r_form ⟨1, 0, 0, 0, k⟩ w (by unfold Nm.wide; dsimp only; omega) (by dsimp only; omega)
      rw [least_root] at h
      exact h
    go_enter Tryd.func15, Tryd.ntmps15
    go_wp2_with fail
    refine (HF.out _).mono ?_
    rintro e w1 ⟨rfl, hb⟩
    have hw : Below w.heap.size w w1 := below_via hb (by repeat (first | with_reducible exact Below.refl _ _ | with_reducible refine below_al ?_ _ | with_reducible refine below_dN ?_ _ | with_reducible refine Below.drew ?_ | (with_reducible refine Below.setCell ?_ (by simp <;> omega) _) | (with_reducible refine below_via (by assumption) ?_)))
    have hz : Box w1 w.heap.size 23 nul := (box_new w 0 0 0 0 0 _).below hb (by simp)
    obtain ⟨z0, z1, z2, z3, z4⟩ := hz.cell
    obtain ⟨g0, g1, g2, g3, g4⟩ := hz.free
    have hltz := hz.lt
    dsimp only at z0 z1 z2 z3 z4
    clear hz hb
    go_wp2_with fail
    exact bodyPost_ret (v := .tuple #[nv 1 0 0 0 k, .int .i64 0]) (by simp [results, Tryd.results15, go_sem, z0, z1, z2, z3, z4]) rfl ⟨rfl, ((((hw.setCell (Nat.le_refl _) _).setCell (Nat.le_refl _) _).setCell (Nat.le_refl _) _).setCell (Nat.le_refl _) _).setCell (Nat.le_refl _) _⟩
  · rw [if_neg h]
    by_cases h0 : k < 0
    · go_enter Tryd.func15, Tryd.ntmps15
      go_wp2_with fail
      exact bodyPost_ret (v := .tuple #[nul.v, .int .i64 3]) (by simp [results, Tryd.results15, go_sem]) rfl ⟨rfl, (by repeat (first | with_reducible exact Below.refl _ _ | with_reducible refine below_al ?_ _ | with_reducible refine below_dN ?_ _ | with_reducible refine Below.drew ?_ | (with_reducible refine Below.setCell ?_ (by simp <;> omega) _) | (with_reducible refine below_via (by assumption) ?_)))⟩
    · have h1 : 60 < k := by omega
      go_enter Tryd.func15, Tryd.ntmps15
      go_wp2_with fail
      exact bodyPost_ret (v := .tuple #[nul.v, .int .i64 3]) (by simp [results, Tryd.results15, go_sem]) rfl ⟨rfl, (by repeat (first | with_reducible exact Below.refl _ _ | with_reducible refine below_al ?_ _ | with_reducible refine below_dN ?_ _ | with_reducible refine Below.drew ?_ | (with_reducible refine Below.setCell ?_ (by simp <;> omega) _) | (with_reducible refine below_via (by assumption) ?_)))⟩
set_option maxHeartbeats 2000000 in
theorem Root_any (k : Int) (w : World) : Calls Tryd.prog 18 #[.int .i64 k] w (Gives (rootP k) w) := by
  unfold rootP
  by_cases h : 0 ≤ k ∧ k ≤ 60
  · rw [if_pos h]
    obtain ⟨h0, h1⟩ := h
    go_enter Tryd.func18, Tryd.ntmps18
    go_wp2_with fail
    exact bodyPost_ret (v := .tuple #[nv 1 0 0 0 k, .int .i64 0]) (by simp [results, Tryd.results18, go_sem]) rfl ⟨rfl, (by repeat (first | with_reducible exact Below.refl _ _ | with_reducible refine below_al ?_ _ | with_reducible refine below_dN ?_ _ | with_reducible refine Below.drew ?_ | (with_reducible refine Below.setCell ?_ (by simp <;> omega) _) | (with_reducible refine below_via (by assumption) ?_)))⟩
  · rw [if_neg h]
    by_cases h0 : k < 0
    · go_enter Tryd.func18, Tryd.ntmps18
      go_wp2_with fail
      exact bodyPost_ret (v := .tuple #[nul.v, .int .i64 3]) (by simp [results, Tryd.results18, go_sem]) rfl ⟨rfl, (by repeat (first | with_reducible exact Below.refl _ _ | with_reducible refine below_al ?_ _ | with_reducible refine below_dN ?_ _ | with_reducible refine Below.drew ?_ | (with_reducible refine Below.setCell ?_ (by simp <;> omega) _) | (with_reducible refine below_via (by assumption) ?_)))⟩
    · have h1 : 60 < k := by omega
      go_enter Tryd.func18, Tryd.ntmps18
      go_wp2_with fail
      exact bodyPost_ret (v := .tuple #[nul.v, .int .i64 3]) (by simp [results, Tryd.results18, go_sem]) rfl ⟨rfl, (by repeat (first | with_reducible exact Below.refl _ _ | with_reducible refine below_al ?_ _ | with_reducible refine below_dN ?_ _ | with_reducible refine Below.drew ?_ | (with_reducible refine Below.setCell ?_ (by simp <;> omega) _) | (with_reducible refine below_via (by assumption) ?_)))⟩
/-- Powers, from the left to the right. -/
def powR (x : Nm) : Nat → Nm × Int
  | 0 => (⟨1, 0, 0, 0, 0⟩, 0)
  | n + 1 => if (powR x n).2 = 0 then (jointN (powR x n).1 x (mulN (powR x n).1 x), jointE (powR x n).1 x (mulN (powR x n).1 x)) else powR x n
theorem powR_stuck (x : Nm) {k : Nat} (h : (powR x k).2 ≠ 0) : ∀ m, powR x (k + m) = powR x k
  | 0 => rfl
  | m + 1 => by
    have ih := powR_stuck x h m
    rw [← Nat.add_assoc, powR, ih, if_neg h]
theorem powR_nul (x : Nm) : ∀ n, (powR x n).2 ≠ 0 → (powR x n).1 = nul
  | 0, h => absurd rfl h
  | n + 1, h => by
    rw [powR] at h ⊢
    split
    · rename_i h1
      rw [if_pos h1] at h
      exact joint_nul h
    · rename_i h1
      exact powR_nul x n h1
def powV (x : Nm) (n : Int) : Value := if x.chk = 0 then (if 0 ≤ n ∧ n ≤ 64 then .tuple #[(powR x n.toNat).1.v, .int .i64 (powR x n.toNat).2] else .tuple #[nul.v, .int .i64 3]) else .tuple #[nul.v, .int .i64 x.chk]
set_option maxHeartbeats 4000000 in
theorem pow_any (x : Nm) (b7 bx : Nat) (n : Nat) : ∀ (w : World), n ≤ 64 → b7 < w.heap.size → w.cell? ⟨b7, 0, none⟩ = some (.func (.func 51) #[] #[.pointer (some ⟨b7, 0, none⟩), .pointer (some ⟨bx, 0, none⟩)]) → Box w bx 23 x →
    Calls Tryd.prog 51 #[.int .i64 n, .pointer (some ⟨b7, 0, none⟩), .pointer (some ⟨bx, 0, none⟩)] w (Gives (.tuple #[(powR x n).1.v, .int .i64 (powR x n).2]) w) := by
  induction n with
  | zero =>
    intro w _ _ _ _
    have HO : Hid (∀ w, Calls Tryd.prog 21 #[.int .i64 0] w (Gives (nv 1 0 0 0 0) w)) := fun w => Omega_any 0 w
    go_enter Tryd.func51, Tryd.ntmps51
    go_wp2_with fail
    refine (HO.out _).mono ?_
    rintro e w1 ⟨rfl, hb⟩
    have hw : Below w.heap.size w w1 := below_via hb (by repeat (first | with_reducible exact Below.refl _ _ | with_reducible refine below_al ?_ _ | with_reducible refine below_dN ?_ _ | with_reducible refine Below.drew ?_ | (with_reducible refine Below.setCell ?_ (by simp <;> omega) _) | (with_reducible refine below_via (by assumption) ?_)))
    have hz : Box w1 w.heap.size 23 nul := (box_new w 0 0 0 0 0 _).below hb (by simp)
    obtain ⟨z0, z1, z2, z3, z4⟩ := hz.cell
    obtain ⟨g0, g1, g2, g3, g4⟩ := hz.free
    have hltz := hz.lt
    dsimp only at z0 z1 z2 z3 z4
    clear hz hb
    go_wp2_with fail
    exact bodyPost_ret (v := .tuple #[nv 1 0 0 0 0, .int .i64 0]) (by simp [results, Tryd.results51, go_sem, z0, z1, z2, z3, z4]) rfl ⟨rfl, by first | exact hw | exact ((((hw.setCell (Nat.le_refl _) _).setCell (Nat.le_refl _) _).setCell (Nat.le_refl _) _).setCell (Nat.le_refl _) _).setCell (Nat.le_refl _) _⟩
  | succ n ih =>
    intro w hn hb7 h7 hx
    have HI : Hid (∀ w, b7 < w.heap.size → w.cell? ⟨b7, 0, none⟩ = some (.func (.func 51) #[] #[.pointer (some ⟨b7, 0, none⟩), .pointer (some ⟨bx, 0, none⟩)]) → Box w bx 23 x →
      Calls Tryd.prog 51 #[.int .i64 n, .pointer (some ⟨b7, 0, none⟩), .pointer (some ⟨bx, 0, none⟩)] w (Gives (.tuple #[(powR x n).1.v, .int .i64 (powR x n).2]) w)) := fun w h1 h2 h3 => ih w (by omega) h1 h2 h3
    have e1 : ((n + 1 : Nat) : Int) = (n : Int) + 1 := by omega
    rw [e1]
    have hne : ((n : Int) + 1 == 0) = false := by rw [beq_eq_false_iff_ne]; omega
    obtain ⟨RV, hRV⟩ : ∃ RV, RV = powR x (n + 1) := ⟨_, rfl⟩
    rw [← hRV]
    have hst : RV = if (powR x n).2 = 0 then (jointN (powR x n).1 x (mulN (powR x n).1 x), jointE (powR x n).1 x (mulN (powR x n).1 x)) else powR x n := hRV
    have hnul := powR_nul x n
    have HM : Hid (∀ w, Calls Tryd.prog 13 #[(powR x n).1.v, x.v] w (Gives (.tuple #[(jointN (powR x n).1 x (mulN (powR x n).1 x)).v, .int .i64 (jointE (powR x n).1 x (mulN (powR x n).1 x))]) w)) := fun w => Mul_any _ _ _ _ _ x.A x.B x.C x.D x.K w
    generalize jointN (powR x n).1 x (mulN (powR x n).1 x) = r at *
    generalize jointE (powR x n).1 x (mulN (powR x n).1 x) = q at *
    generalize powR x n = p at *
    have hcell : (w.alloc (.cells #[.int .i64 0, .int .i64 0, .int .i64 0, .int .i64 0, .int .i64 0] 23)).cell? ⟨b7, 0, none⟩ = some (.func (.func 51) #[] #[.pointer (some ⟨b7, 0, none⟩), .pointer (some ⟨bx, 0, none⟩)]) :=
      ((bcell ((Below.refl w.heap.size w).alloc (Nat.le_refl _) _)).1 _ _ hb7).trans h7
    have hb7' : b7 < (w.alloc (.cells #[.int .i64 0, .int .i64 0, .int .i64 0, .int .i64 0, .int .i64 0] 23)).heap.size := by simp; omega
    have HX := Lib.hid (box_al hx (.cells #[.int .i64 0, .int .i64 0, .int .i64 0, .int .i64 0, .int .i64 0] 23))
    have HST := Lib.hid hst
    have HNUL := Lib.hid hnul
    clear hx ih hRV e1 hst hnul
    go_enter Tryd.func51, Tryd.ntmps51
    go_wp2_with fail
    refine (HI.out _ hb7' hcell HX.out).mono ?_
    rintro e w1 ⟨rfl, hb⟩
    have hw : Below w.heap.size w w1 := below_via hb (by repeat (first | with_reducible exact Below.refl _ _ | with_reducible refine below_al ?_ _ | with_reducible refine below_dN ?_ _ | with_reducible refine Below.drew ?_ | (with_reducible refine Below.setCell ?_ (by simp <;> omega) _) | (with_reducible refine below_via (by assumption) ?_)))
    have hz : Box w1 w.heap.size 23 nul := (box_new w 0 0 0 0 0 _).below hb (by simp)
    have hx1 := HX.out.below hb HX.out.lt
    obtain ⟨x0, x1, x2, x3, x4⟩ := hx1.cell
    have hltx := hx1.lt
    clear hcell hb7' HX HI
    have hst := HST.out
    have hnul := HNUL.out
    clear HST HNUL
    by_cases hp : p.2 = 0
    · rw [if_pos hp] at hst
      have HRR := Lib.hid hst
      rw [hp]
      clear hst
      have HZ := Lib.hid hz
      clear hz hnul hp hb
      go_wp2_with fail
      refine (HM.out _).mono ?_
      rintro e w2 ⟨rfl, hb2⟩
      have hz2 := (box_al HZ.out (.cells #[.int .i64 p.1.A, .int .i64 p.1.B, .int .i64 p.1.C, .int .i64 p.1.D, .int .i64 p.1.K] 23)).below hb2 (by simp; have := HZ.out.lt; omega)
      have hw' : Below w.heap.size w w2 := below_via hb2 (below_al hw _)
      clear hw
      have hw := hw'
      obtain ⟨z0, z1, z2, z3, z4⟩ := hz2.cell
      obtain ⟨g0, g1, g2, g3, g4⟩ := hz2.free
      have hltz := hz2.lt
      dsimp only at z0 z1 z2 z3 z4
      clear hz2 hb2 x0 x1 x2 x3 x4 hltx
      go_wp2_with fail
      rw [HRR.out]
      exact bodyPost_ret (v := .tuple #[r.v, .int .i64 q]) (by simp [results, Tryd.results51, go_sem, z0, z1, z2, z3, z4]) rfl ⟨rfl, by first | exact hw | exact ((((hw.setCell (Nat.le_refl _) _).setCell (Nat.le_refl _) _).setCell (Nat.le_refl _) _).setCell (Nat.le_refl _) _).setCell (Nat.le_refl _) _⟩
    · rw [if_neg hp] at hst
      have HRR := Lib.hid hst
      clear hst
      have hq : (p.2 != 0) = true := bne_iff_ne.2 hp
      have hn1 := hnul hp
      obtain ⟨R1, R2⟩ := p
      dsimp only at hn1 hq
      subst hn1
      have hz2 := box_al hz (.cells #[.int .i64 0, .int .i64 0, .int .i64 0, .int .i64 0, .int .i64 0] 23)
      obtain ⟨z0, z1, z2, z3, z4⟩ := hz.cell
      obtain ⟨g0, g1, g2, g3, g4⟩ := hz.free
      have hltz := hz.lt
      dsimp only at z0 z1 z2 z3 z4
      clear hz hz2 hb hnul hp x0 x1 x2 x3 x4 hltx
      go_wp2_with fail
      rw [HRR.out]
      exact bodyPost_ret (v := .tuple #[nul.v, .int .i64 R2]) (by simp [results, Tryd.results51, go_sem, z0, z1, z2, z3, z4, hltz]) rfl ⟨rfl, by first | exact below_al hw _ | exact below_al (((((hw.setCell (Nat.le_refl _) _).setCell (Nat.le_refl _) _).setCell (Nat.le_refl _) _).setCell (Nat.le_refl _) _).setCell (Nat.le_refl _) _) _⟩
end Go.Proofs.YtjalpolciofphaaDoor
/- Power, on both sides. -/
namespace Go.Proofs.YtjalpolciofphaaDoor
open Go.RowKit

set_option maxHeartbeats 4000000 in
theorem Power_any (x : Nm) (n : Int) (w : World) : Calls Tryd.prog 19 #[x.v, .int .i64 n] w (Gives (powV x n) w) := by
  have HC : Hid (∀ w, Calls Tryd.prog 50 #[x.v] w (Gives (.int .i64 x.chk) w)) := fun w => check_any _ _ _ _ _ w
  have hbx : Box ((w.alloc (.cells #[.int .i64 x.A, .int .i64 x.B, .int .i64 x.C, .int .i64 x.D, .int .i64 x.K] 23)).alloc (.cells #[.int .i64 0, .int .i64 0, .int .i64 0, .int .i64 0, .int .i64 0] 23)) w.heap.size 23 x := box_al (box_new w _ _ _ _ _ _) _
  have hbz : Box ((w.alloc (.cells #[.int .i64 x.A, .int .i64 x.B, .int .i64 x.C, .int .i64 x.D, .int .i64 x.K] 23)).alloc (.cells #[.int .i64 0, .int .i64 0, .int .i64 0, .int .i64 0, .int .i64 0] 23)) (w.heap.size + 1) 23 nul := by
    have h := box_new (w.alloc (.cells #[.int .i64 x.A, .int .i64 x.B, .int .i64 x.C, .int .i64 x.D, .int .i64 x.K] 23)) 0 0 0 0 0 23
    rw [World.size_alloc] at h
    exact h
  have HBX := Lib.hid hbx
  have HBZ := Lib.hid hbz
  clear hbx hbz
  unfold powV
  by_cases h : x.chk = 0
  · rw [if_pos h]
    rw [h] at HC
    clear h
    by_cases hn : 0 ≤ n ∧ n ≤ 64
    · rw [if_pos hn]
      obtain ⟨m, rfl⟩ : ∃ m : Nat, n = m := ⟨n.toNat, by omega⟩
      have e : ((m : Nat) : Int).toNat = m := by omega
      rw [e]
      have hm : m ≤ 64 := by omega
      have HP : Hid (∀ (b7 bx : Nat) w, b7 < w.heap.size → w.cell? ⟨b7, 0, none⟩ = some (.func (.func 51) #[] #[.pointer (some ⟨b7, 0, none⟩), .pointer (some ⟨bx, 0, none⟩)]) → Box w bx 23 x →
        Calls Tryd.prog 51 #[.int .i64 m, .pointer (some ⟨b7, 0, none⟩), .pointer (some ⟨bx, 0, none⟩)] w (Gives (.tuple #[(powR x m).1.v, .int .i64 (powR x m).2]) w)) := fun b7 bx w h1 h2 h3 => pow_any x b7 bx m w hm h1 h2 h3
      generalize powR x m = R at *
      clear hn e
      go_enter Tryd.func19, Tryd.ntmps19
      go_wp2_with fail
      refine (HC.out _).mono ?_
      rintro e w1 ⟨rfl, hb⟩
      have hw : Below w.heap.size w w1 := below_via hb (by repeat (first | with_reducible exact Below.refl _ _ | with_reducible refine below_al ?_ _ | with_reducible refine below_dN ?_ _ | with_reducible refine Below.drew ?_ | (with_reducible refine Below.setCell ?_ (by simp <;> omega) _) | (with_reducible refine below_via (by assumption) ?_)))
      have hx1 := HBX.out.below hb HBX.out.lt
      have hz1 := HBZ.out.below hb HBZ.out.lt
      have HX1 := Lib.hid hx1
      have HZ1 := Lib.hid hz1
      clear hx1 hz1 hb HBX HBZ HC
      go_wp2_with fail
      have h7 : (w1.alloc (.cells #[.func (.func 51) #[] #[.pointer (some ⟨w1.heap.size, 0, none⟩), .pointer (some ⟨w.heap.size, 0, none⟩)]] 30)).cell? ⟨w1.heap.size, 0, none⟩ = some (.func (.func 51) #[] #[.pointer (some ⟨w1.heap.size, 0, none⟩), .pointer (some ⟨w.heap.size, 0, none⟩)]) := by
        unfold World.cell?
        dsimp only
        rw [heap_alloc_new]
        rfl
      refine (HP.out _ _ _ (by simp) h7 (box_al HX1.out _)).mono ?_
      rintro e w2 ⟨rfl, hb2⟩
      have hw2 := below_via hb2 (below_al hw _)
      have hz2 := (box_al HZ1.out (.cells #[.func (.func 51) #[] #[.pointer (some ⟨w1.heap.size, 0, none⟩), .pointer (some ⟨w.heap.size, 0, none⟩)]] 30)).below hb2 (by simp; have := HZ1.out.lt; omega)
      clear h7 HP hb2 hw
      obtain ⟨z0, z1, z2, z3, z4⟩ := hz2.cell
      obtain ⟨g0, g1, g2, g3, g4⟩ := hz2.free
      have hltz := hz2.lt
      dsimp only at z0 z1 z2 z3 z4
      clear hz2
      go_wp2_with fail
      exact bodyPost_ret (v := .tuple #[R.1.v, .int .i64 R.2]) (by simp [results, Tryd.results19, go_sem, z0, z1, z2, z3, z4]) rfl ⟨rfl, by first | exact hw2 | exact ((((hw2.setCell (Nat.le_succ _) _).setCell (Nat.le_succ _) _).setCell (Nat.le_succ _) _).setCell (Nat.le_succ _) _).setCell (Nat.le_succ _) _⟩
    · rw [if_neg hn]
      by_cases h0 : n < 0
      · clear hn
        go_enter Tryd.func19, Tryd.ntmps19
        go_wp2_with fail
        refine (HC.out _).mono ?_
        rintro e w1 ⟨rfl, hb⟩
        have hw2 : Below w.heap.size w w1 := below_via hb (by repeat (first | with_reducible exact Below.refl _ _ | with_reducible refine below_al ?_ _ | with_reducible refine below_dN ?_ _ | with_reducible refine Below.drew ?_ | (with_reducible refine Below.setCell ?_ (by simp <;> omega) _) | (with_reducible refine below_via (by assumption) ?_)))
        have hz1 := HBZ.out.below hb HBZ.out.lt
        clear hb HBX HBZ HC
        obtain ⟨z0, z1, z2, z3, z4⟩ := hz1.cell
        obtain ⟨g0, g1, g2, g3, g4⟩ := hz1.free
        have hltz := hz1.lt
        dsimp only at z0 z1 z2 z3 z4
        clear hz1
        go_wp2_with fail
        exact bodyPost_ret (v := .tuple #[nul.v, .int .i64 3]) (by simp [results, Tryd.results19, go_sem, z0, z1, z2, z3, z4]) rfl ⟨rfl, by first | exact hw2 | exact ((((hw2.setCell (Nat.le_succ _) _).setCell (Nat.le_succ _) _).setCell (Nat.le_succ _) _).setCell (Nat.le_succ _) _).setCell (Nat.le_succ _) _⟩
      · have h1 : 64 < n := by omega
        clear hn
        go_enter Tryd.func19, Tryd.ntmps19
        go_wp2_with fail
        refine (HC.out _).mono ?_
        rintro e w1 ⟨rfl, hb⟩
        have hw2 : Below w.heap.size w w1 := below_via hb (by repeat (first | with_reducible exact Below.refl _ _ | with_reducible refine below_al ?_ _ | with_reducible refine below_dN ?_ _ | with_reducible refine Below.drew ?_ | (with_reducible refine Below.setCell ?_ (by simp <;> omega) _) | (with_reducible refine below_via (by assumption) ?_)))
        have hz1 := HBZ.out.below hb HBZ.out.lt
        clear hb HBX HBZ HC
        obtain ⟨z0, z1, z2, z3, z4⟩ := hz1.cell
        obtain ⟨g0, g1, g2, g3, g4⟩ := hz1.free
        have hltz := hz1.lt
        dsimp only at z0 z1 z2 z3 z4
        clear hz1
        go_wp2_with fail
        exact bodyPost_ret (v := .tuple #[nul.v, .int .i64 3]) (by simp [results, Tryd.results19, go_sem, z0, z1, z2, z3, z4]) rfl ⟨rfl, by first | exact hw2 | exact ((((hw2.setCell (Nat.le_succ _) _).setCell (Nat.le_succ _) _).setCell (Nat.le_succ _) _).setCell (Nat.le_succ _) _).setCell (Nat.le_succ _) _⟩
  · rw [if_neg h]
    have hq : (x.chk != 0) = true := bne_iff_ne.2 h
    generalize x.chk = q at *
    clear h
    go_enter Tryd.func19, Tryd.ntmps19
    go_wp2_with fail
    refine (HC.out _).mono ?_
    rintro e w1 ⟨rfl, hb⟩
    have hw2 : Below w.heap.size w w1 := below_via hb (by repeat (first | with_reducible exact Below.refl _ _ | with_reducible refine below_al ?_ _ | with_reducible refine below_dN ?_ _ | with_reducible refine Below.drew ?_ | (with_reducible refine Below.setCell ?_ (by simp <;> omega) _) | (with_reducible refine below_via (by assumption) ?_)))
    have hz1 := HBZ.out.below hb HBZ.out.lt
    clear hb HBX HBZ HC
    obtain ⟨z0, z1, z2, z3, z4⟩ := hz1.cell
    obtain ⟨g0, g1, g2, g3, g4⟩ := hz1.free
    have hltz := hz1.lt
    dsimp only at z0 z1 z2 z3 z4
    clear hz1
    go_wp2_with fail
    exact bodyPost_ret (v := .tuple #[nul.v, .int .i64 q]) (by simp [results, Tryd.results19, go_sem, z0, z1, z2, z3, z4]) rfl ⟨rfl, by first | exact hw2 | exact ((((hw2.setCell (Nat.le_succ _) _).setCell (Nat.le_succ _) _).setCell (Nat.le_succ _) _).setCell (Nat.le_succ _) _).setCell (Nat.le_succ _) _⟩
/-- The blocks of the reference's Power: the number, the result, the power so far. -/
def InPow (w : World) (bo : Nat) (x p : Nm) (W : World) : Prop := Below w.heap.size w W ∧ Box W w.heap.size 23 x ∧ Box W (w.heap.size + 1) 23 nul ∧ Box W bo 23 p ∧ w.heap.size + 1 < bo
theorem InPow.call {w W W' : World} {bo : Nat} {x p : Nm} (h : InPow w bo x p W) (hb : Below W.heap.size W W') : InPow w bo x p W' :=
  ⟨below_via hb h.1, h.2.1.below hb h.2.1.lt, h.2.2.1.below hb h.2.2.1.lt, h.2.2.2.1.below hb h.2.2.2.1.lt, h.2.2.2.2⟩
theorem InPow.put {w W : World} {bo : Nat} {x p : Nm} (h : InPow w bo x p W) (r : Nm) : InPow w bo x r (((((W.setCell ⟨bo, 0, none⟩ (.int .i64 r.A)).setCell ⟨bo, 1, none⟩ (.int .i64 r.B)).setCell ⟨bo, 2, none⟩ (.int .i64 r.C)).setCell ⟨bo, 3, none⟩ (.int .i64 r.D)).setCell ⟨bo, 4, none⟩ (.int .i64 r.K)) := by
  obtain ⟨h1, h2, h3, h4, h5⟩ := h
  have hle : w.heap.size ≤ bo := by omega
  have hne : w.heap.size ≠ bo := by omega
  have hne2 : w.heap.size + 1 ≠ bo := by omega
  exact ⟨((((h1.setCell hle _).setCell hle _).setCell hle _).setCell hle _).setCell hle _, ((((h2.other hne).other hne).other hne).other hne).other hne, ((((h3.other hne2).other hne2).other hne2).other hne2).other hne2, box_cells h4 r, h5⟩
set_option maxHeartbeats 4000000 in
theorem r_Power (x : Nm) (n : Int) (w : World) : Calls Tryd.prog 16 #[x.v, .int .i64 n] w (Gives (powV x n) w) := by
  have HC : Hid (∀ w, Calls Tryd.prog 49 #[x.v] w (Gives (.int .i64 x.chk) w)) := fun w => r_check _ _ _ _ _ w
  have hbx : Box ((w.alloc (.cells #[.int .i64 x.A, .int .i64 x.B, .int .i64 x.C, .int .i64 x.D, .int .i64 x.K] 23)).alloc (.cells #[.int .i64 0, .int .i64 0, .int .i64 0, .int .i64 0, .int .i64 0] 23)) w.heap.size 23 x := box_al (box_new w _ _ _ _ _ _) _
  have hbz : Box ((w.alloc (.cells #[.int .i64 x.A, .int .i64 x.B, .int .i64 x.C, .int .i64 x.D, .int .i64 x.K] 23)).alloc (.cells #[.int .i64 0, .int .i64 0, .int .i64 0, .int .i64 0, .int .i64 0] 23)) (w.heap.size + 1) 23 nul := by
    have h := box_new (w.alloc (.cells #[.int .i64 x.A, .int .i64 x.B, .int .i64 x.C, .int .i64 x.D, .int .i64 x.K] 23)) 0 0 0 0 0 23
    rw [World.size_alloc] at h
    exact h
  have HBX := Lib.hid hbx
  have HBZ := Lib.hid hbz
  clear hbx hbz
  unfold powV
  by_cases h : x.chk = 0
  · rw [if_pos h]
    rw [h] at HC
    clear h
    by_cases hn : 0 ≤ n ∧ n ≤ 64
    · rw [if_pos hn]
      obtain ⟨m, rfl⟩ : ∃ m : Nat, n = m := ⟨n.toNat, by omega⟩
      have e : ((m : Nat) : Int).toNat = m := by omega
      rw [e]
      have hm : m ≤ 64 := by omega
      have HM : Hid (∀ (p : Nm) w, Calls Tryd.prog 10 #[p.v, x.v] w (Gives (.tuple #[(jointN p x (mulN p x)).v, .int .i64 (jointE p x (mulN p x))]) w)) := fun p w => r_Mul p x w
      obtain ⟨R, hR⟩ : ∃ R, R = powR x m := ⟨_, rfl⟩
      rw [← hR]
      have HR := Lib.hid hR
      clear hn e hR
      go_enter Tryd.func16, Tryd.ntmps16
      go_wp2_with fail
      refine (HC.out _).mono ?_
      rintro e w1 ⟨rfl, hb⟩
      have hw : Below w.heap.size w w1 := below_via hb (by repeat (first | with_reducible exact Below.refl _ _ | with_reducible refine below_al ?_ _ | with_reducible refine below_dN ?_ _ | with_reducible refine Below.drew ?_ | (with_reducible refine Below.setCell ?_ (by simp <;> omega) _) | (with_reducible refine below_via (by assumption) ?_)))
      have hx1 := HBX.out.below hb HBX.out.lt
      have hz1 := HBZ.out.below hb HBZ.out.lt
      have HI : Hid (InPow w w1.heap.size x ⟨1, 0, 0, 0, 0⟩ (w1.alloc (.cells #[.int .i64 1, .int .i64 0, .int .i64 0, .int .i64 0, .int .i64 0] 23))) :=
        ⟨below_al hw _, box_al hx1 _, box_al hz1 _, box_new w1 1 0 0 0 0 _, hz1.lt⟩
      clear hx1 hz1 hb HBX HBZ HC hw
      go_wp2_with fail
      generalize w1.heap.size = bo at HI ⊢
      go_loopw [8, 9] (fun e i wr => ∃ (k : Nat) (p : Nm) (q : Int), k ≤ m ∧ i = .int .i64 k ∧ e = .int .i64 q ∧ Hid (InPow w bo x p wr) ∧ Hid (powR x k = (p, q))) (fun _ i _ => m - (intOf i).toNat)
      case atStart => exact ⟨0, ⟨1, 0, 0, 0, 0⟩, 0, by omega, rfl, rfl, HI.out, rfl⟩
      case round =>
        obtain ⟨k, p, q, hk, rfl, rfl, HI, HK⟩ := hrel
        obtain ⟨z0, z1, z2, z3, z4⟩ := HI.out.2.2.1.cell
        obtain ⟨g0, g1, g2, g3, g4⟩ := HI.out.2.2.1.free
        obtain ⟨x0, x1, x2, x3, x4⟩ := HI.out.2.1.cell
        obtain ⟨s0, s1, s2, s3, s4⟩ := HI.out.2.2.2.1.cell
        have hltz := HI.out.2.2.1.lt
        have hltx := HI.out.2.1.lt
        have hlts := HI.out.2.2.2.1.lt
        have hw2 := HI.out.1
        dsimp only at z0 z1 z2 z3 z4
        by_cases hq : q = 0
        · subst hq
          by_cases hlt : k < m
          · have hst : powR x (k + 1) = (jointN p x (mulN p x), jointE p x (mulN p x)) := by
              rw [powR, HK.out, if_pos rfl]
            have HMp := Lib.hid (HM.out p)
            generalize jointN p x (mulN p x) = r at *
            generalize jointE p x (mulN p x) = u at *
            have HS := Lib.hid hst
            clear hst HK z0 z1 z2 z3 z4 g0 g1 g2 g3 g4
            go_wp2_with fail
            refine (HMp.out _).mono ?_
            rintro e w2 ⟨rfl, hb2⟩
            have HI2 := Lib.hid (HI.out.call hb2)
            clear x0 x1 x2 x3 x4 s0 s1 s2 s3 s4 hltz hltx hlts hw2 hb2 HI
            obtain ⟨s0, s1, s2, s3, s4⟩ := HI2.out.2.2.2.1.cell
            obtain ⟨f0, f1, f2, f3, f4⟩ := HI2.out.2.2.2.1.free
            have hlts := HI2.out.2.2.2.1.lt
            go_wp2_with fail
            have hin := HI2.out.put r
            go_roundw
            case rel => exact ⟨k + 1, r, u, by omega, by go_num, rfl, hin, HS.out⟩
            case measure => simp [intOf]; omega
          · have : k = m := by omega
            subst this
            have hre : R = (p, 0) := HR.out.trans HK.out
            have HRE := Lib.hid hre
            have hkk : ¬ ((k : Int) < k) := by omega
            clear hre HK HR
            go_wp2_with fail
            rw [HRE.out]
            exact bodyPost_ret (v := .tuple #[p.v, .int .i64 0]) (by simp [results, Tryd.results16, go_sem, z0, z1, z2, z3, z4]) rfl ⟨rfl, by first | exact hw2 | exact ((((hw2.setCell (Nat.le_succ _) _).setCell (Nat.le_succ _) _).setCell (Nat.le_succ _) _).setCell (Nat.le_succ _) _).setCell (Nat.le_succ _) _⟩
        · have hre : R = (p, q) := by
            rw [HR.out]
            have h := powR_stuck x (k := k) (by rw [HK.out]; exact hq) (m - k)
            rw [show k + (m - k) = m by omega] at h
            rw [h, HK.out]
          have HRE := Lib.hid hre
          have hq2 : (q == 0) = false := beq_eq_false_iff_ne.2 hq
          clear hre HK HR
          by_cases hlt : k < m
          · go_wp2_with fail
            rw [HRE.out]
            exact bodyPost_ret (v := .tuple #[p.v, .int .i64 q]) (by simp [results, Tryd.results16, go_sem, z0, z1, z2, z3, z4]) rfl ⟨rfl, by first | exact hw2 | exact ((((hw2.setCell (Nat.le_succ _) _).setCell (Nat.le_succ _) _).setCell (Nat.le_succ _) _).setCell (Nat.le_succ _) _).setCell (Nat.le_succ _) _⟩
          · go_wp2_with fail
            rw [HRE.out]
            exact bodyPost_ret (v := .tuple #[p.v, .int .i64 q]) (by simp [results, Tryd.results16, go_sem, z0, z1, z2, z3, z4]) rfl ⟨rfl, by first | exact hw2 | exact ((((hw2.setCell (Nat.le_succ _) _).setCell (Nat.le_succ _) _).setCell (Nat.le_succ _) _).setCell (Nat.le_succ _) _).setCell (Nat.le_succ _) _⟩
    · rw [if_neg hn]
      by_cases h0 : n < 0
      · clear hn
        go_enter Tryd.func16, Tryd.ntmps16
        go_wp2_with fail
        refine (HC.out _).mono ?_
        rintro e w1 ⟨rfl, hb⟩
        have hw2 : Below w.heap.size w w1 := below_via hb (by repeat (first | with_reducible exact Below.refl _ _ | with_reducible refine below_al ?_ _ | with_reducible refine below_dN ?_ _ | with_reducible refine Below.drew ?_ | (with_reducible refine Below.setCell ?_ (by simp <;> omega) _) | (with_reducible refine below_via (by assumption) ?_)))
        have hz1 := HBZ.out.below hb HBZ.out.lt
        clear hb HBX HBZ HC
        obtain ⟨z0, z1, z2, z3, z4⟩ := hz1.cell
        obtain ⟨g0, g1, g2, g3, g4⟩ := hz1.free
        have hltz := hz1.lt
        dsimp only at z0 z1 z2 z3 z4
        clear hz1
        go_wp2_with fail
        exact bodyPost_ret (v := .tuple #[nul.v, .int .i64 3]) (by simp [results, Tryd.results16, go_sem, z0, z1, z2, z3, z4]) rfl ⟨rfl, by first | exact hw2 | exact ((((hw2.setCell (Nat.le_succ _) _).setCell (Nat.le_succ _) _).setCell (Nat.le_succ _) _).setCell (Nat.le_succ _) _).setCell (Nat.le_succ _) _⟩
      · have h1 : 64 < n := by omega
        clear hn
        go_enter Tryd.func16, Tryd.ntmps16
        go_wp2_with fail
        refine (HC.out _).mono ?_
        rintro e w1 ⟨rfl, hb⟩
        have hw2 : Below w.heap.size w w1 := below_via hb (by repeat (first | with_reducible exact Below.refl _ _ | with_reducible refine below_al ?_ _ | with_reducible refine below_dN ?_ _ | with_reducible refine Below.drew ?_ | (with_reducible refine Below.setCell ?_ (by simp <;> omega) _) | (with_reducible refine below_via (by assumption) ?_)))
        have hz1 := HBZ.out.below hb HBZ.out.lt
        clear hb HBX HBZ HC
        obtain ⟨z0, z1, z2, z3, z4⟩ := hz1.cell
        obtain ⟨g0, g1, g2, g3, g4⟩ := hz1.free
        have hltz := hz1.lt
        dsimp only at z0 z1 z2 z3 z4
        clear hz1
        go_wp2_with fail
        exact bodyPost_ret (v := .tuple #[nul.v, .int .i64 3]) (by simp [results, Tryd.results16, go_sem, z0, z1, z2, z3, z4]) rfl ⟨rfl, by first | exact hw2 | exact ((((hw2.setCell (Nat.le_succ _) _).setCell (Nat.le_succ _) _).setCell (Nat.le_succ _) _).setCell (Nat.le_succ _) _).setCell (Nat.le_succ _) _⟩
  · rw [if_neg h]
    have hq : (x.chk != 0) = true := bne_iff_ne.2 h
    generalize x.chk = q at *
    clear h
    go_enter Tryd.func16, Tryd.ntmps16
    go_wp2_with fail
    refine (HC.out _).mono ?_
    rintro e w1 ⟨rfl, hb⟩
    have hw2 : Below w.heap.size w w1 := below_via hb (by repeat (first | with_reducible exact Below.refl _ _ | with_reducible refine below_al ?_ _ | with_reducible refine below_dN ?_ _ | with_reducible refine Below.drew ?_ | (with_reducible refine Below.setCell ?_ (by simp <;> omega) _) | (with_reducible refine below_via (by assumption) ?_)))
    have hz1 := HBZ.out.below hb HBZ.out.lt
    clear hb HBX HBZ HC
    obtain ⟨z0, z1, z2, z3, z4⟩ := hz1.cell
    obtain ⟨g0, g1, g2, g3, g4⟩ := hz1.free
    have hltz := hz1.lt
    dsimp only at z0 z1 z2 z3 z4
    clear hz1
    go_wp2_with fail
    exact bodyPost_ret (v := .tuple #[nul.v, .int .i64 q]) (by simp [results, Tryd.results16, go_sem, z0, z1, z2, z3, z4]) rfl ⟨rfl, by first | exact hw2 | exact ((((hw2.setCell (Nat.le_succ _) _).setCell (Nat.le_succ _) _).setCell (Nat.le_succ _) _).setCell (Nat.le_succ _) _).setCell (Nat.le_succ _) _⟩
end Go.Proofs.YtjalpolciofphaaDoor
/- The reference's powers of w for any integer; its Sum of nothing. -/
namespace Go.Proofs.YtjalpolciofphaaDoor
open Go.RowKit

set_option maxHeartbeats 2000000 in
theorem r_OmegaZ (n : Int) (w : World) (hn0 : -9223372036854775808 ≤ n) (hn1 : n ≤ 9223372036854775807) : Calls Tryd.prog 22 #[.int .i64 n] w (Gives (pw (n % 8).toNat).v w) := by
  obtain ⟨m, hm⟩ : ∃ m : Nat, m = (n % 8).toNat := ⟨_, rfl⟩
  rw [← hm]
  have hm8 : m < 8 := by omega
  have e1 : (n.tmod 8 + 8) % 8 = m := by
    rcases Int.lt_or_le n 0 with h | h
    · have : n.tmod 8 = -((-n) % 8) := by
        have := Int.neg_tmod (a := -n) (b := 8)
        rw [Int.neg_neg] at this
        rw [this, Int.tmod_eq_emod_of_nonneg (by omega)]
      omega
    · rw [Int.tmod_eq_emod_of_nonneg h]; omega
  have e2 : (n % 8 + 8) % 8 = m := by omega
  have hlo : -8 < n.tmod 8 := by
    have := Int.lt_tmod_of_pos n (b := 8) (by omega)
    exact this
  have hhi : n.tmod 8 < 8 := Int.tmod_lt_of_pos n (by omega)
  have e3 : (n.tmod 8 + 8).tmod 8 = m := by rw [Int.tmod_eq_emod_of_nonneg (by omega)]; exact e1
  clear hm
  go_enter Tryd.func22, Tryd.ntmps22
  go_wp2_with fail
  go_loopw [4] (fun i wr => ∃ k : Nat, k ≤ m ∧ i = .int .i64 k ∧ Hid (Box wr w.heap.size 23 nul) ∧ Hid (Box wr (w.heap.size + 1) 23 (pw k)) ∧ Below w.heap.size w wr) (fun i _ => m - (intOf i).toNat)
  case atStart =>
    refine ⟨0, by omega, rfl, box_al (box_new w 0 0 0 0 0 _) _, ?_, (by repeat (first | with_reducible exact Below.refl _ _ | with_reducible refine below_al ?_ _ | with_reducible refine below_dN ?_ _ | with_reducible refine Below.drew ?_ | (with_reducible refine Below.setCell ?_ (by simp <;> omega) _) | (with_reducible refine below_via (by assumption) ?_)))⟩
    have h := box_new (w.alloc (.cells #[.int .i64 0, .int .i64 0, .int .i64 0, .int .i64 0, .int .i64 0] 23)) 1 0 0 0 0 23
    rw [World.size_alloc] at h
    exact h
  case round =>
    obtain ⟨k, hk, rfl, HZ, HX, hwr⟩ := hrel
    obtain ⟨c0, c1, c2, c3, c4⟩ := HX.out.cell
    obtain ⟨f0, f1, f2, f3, f4⟩ := HX.out.free
    obtain ⟨z0, z1, z2, z3, z4⟩ := HZ.out.cell
    obtain ⟨g0, g1, g2, g3, g4⟩ := HZ.out.free
    have hlt := HX.out.lt
    have hltz := HZ.out.lt
    obtain ⟨⟨p1, p2⟩, ⟨p3, p4⟩, ⟨p5, p6⟩, ⟨p7, p8⟩⟩ := pw_le k
    have hK := pw_K k
    rw [hK] at c4
    clear hK
    dsimp only at z0 z1 z2 z3 z4
    by_cases hkn : k < m
    · go_wp2_with fail
      have hbox := box_cells HX.out (pw (k + 1))
      go_roundw
      case rel => exact ⟨k + 1, by omega, by go_num, ((((HZ.out.other (by omega)).other (by omega)).other (by omega)).other (by omega)).other (by omega), hbox, (by repeat (first | with_reducible exact Below.refl _ _ | with_reducible refine below_al ?_ _ | with_reducible refine below_dN ?_ _ | with_reducible refine Below.drew ?_ | (with_reducible refine Below.setCell ?_ (by simp <;> omega) _) | (with_reducible refine below_via (by assumption) ?_)))⟩
      case measure => simp [intOf]; omega
    · have : k = m := by omega
      subst this
      have hv : (pw k).v = nv (pw k).A (pw k).B (pw k).C (pw k).D 0 := by unfold Nm.v; rw [pw_K]
      have HV := Lib.hid hv
      clear hv
      go_wp2_with fail
      rw [HV.out]
      exact bodyPost_ret (v := nv (pw k).A (pw k).B (pw k).C (pw k).D 0) (by simp [results, Tryd.results22, go_sem, z0, z1, z2, z3, z4]) rfl ⟨rfl, (by repeat (first | with_reducible exact Below.refl _ _ | with_reducible refine below_al ?_ _ | with_reducible refine below_dN ?_ _ | with_reducible refine Below.drew ?_ | (with_reducible refine Below.setCell ?_ (by simp <;> omega) _) | (with_reducible refine below_via (by assumption) ?_)))⟩
set_option maxHeartbeats 2000000 in
theorem r_Sum0 (w : World) : Calls Tryd.prog 17 #[.slice none 0 0] w (Gives (.tuple #[nul.v, .int .i64 0]) w) := by
  have HC : Hid (∀ w, Calls Tryd.prog 35 #[.slice none 0 0] w (Gives (.int .i64 0) w)) := fun w => r_checks0 w
  go_enter Tryd.func17, Tryd.ntmps17
  go_wp2_with fail
  refine (HC.out _).mono ?_
  rintro e w1 ⟨rfl, hb⟩
  have hw2 : Below w.heap.size w w1 := below_via hb (by repeat (first | with_reducible exact Below.refl _ _ | with_reducible refine below_al ?_ _ | with_reducible refine below_dN ?_ _ | with_reducible refine Below.drew ?_ | (with_reducible refine Below.setCell ?_ (by simp <;> omega) _) | (with_reducible refine below_via (by assumption) ?_)))
  have hz1 : Box w1 w.heap.size 23 nul := (box_new w 0 0 0 0 0 _).below hb (by simp)
  have HI : Hid (InSum w w1.heap.size nul (w1.alloc (.cells #[.int .i64 0, .int .i64 0, .int .i64 0, .int .i64 0, .int .i64 0] 23))) := ⟨below_al hw2 _, box_al hz1 _, box_new w1 0 0 0 0 0 _, hz1.lt⟩
  clear hb hw2 hz1
  go_wp2_with fail
  generalize w1.heap.size = bs at HI ⊢
  go_loopw [6, 7] (fun e i wr => i = .int .i64 0 ∧ e = .int .i64 0 ∧ Hid (InSum w bs nul wr)) (fun _ i _ => 0)
  case atStart => exact ⟨rfl, rfl, HI.out⟩
  case round =>
    obtain ⟨rfl, rfl, HI⟩ := hrel
    obtain ⟨z0, z1, z2, z3, z4⟩ := HI.out.2.1.cell
    obtain ⟨g0, g1, g2, g3, g4⟩ := HI.out.2.1.free
    obtain ⟨s0, s1, s2, s3, s4⟩ := HI.out.2.2.1.cell
    have hltz := HI.out.2.1.lt
    have hlts := HI.out.2.2.1.lt
    have hw := HI.out.1
    dsimp only at z0 z1 z2 z3 z4 s0 s1 s2 s3 s4
    go_wp2_with fail
    exact bodyPost_ret (v := .tuple #[nul.v, .int .i64 0]) (by simp [results, Tryd.results17, go_sem, z0, z1, z2, z3, z4]) rfl ⟨rfl, by first | exact hw | exact ((((hw.setCell (Nat.le_refl _) _).setCell (Nat.le_refl _) _).setCell (Nat.le_refl _) _).setCell (Nat.le_refl _) _).setCell (Nat.le_refl _) _⟩
end Go.Proofs.YtjalpolciofphaaDoor
/- The law RingPowers, for all numbers, integers and lists. -/
namespace Go.Proofs.YtjalpolciofphaaDoor
open Go.RowKit Go.Shelf

set_option maxHeartbeats 2000000 in
theorem r_checksE (p : Option Addr) (cap : Nat) (w : World) : Calls Tryd.prog 35 #[.slice p 0 cap] w (Gives (.int .i64 0) w) := by
  go_enter Tryd.func35, Tryd.ntmps35
  go_wp2
  go_loopw [3] (fun i wr => i = .int .i64 0 ∧ wr = w) (fun i _ => 0)
  case atStart => exact ⟨rfl, rfl⟩
  case round =>
    obtain ⟨rfl, rfl⟩ := hrel
    go_wp2_with fail
    go_ret
    exact ⟨rfl, Below.refl _ _⟩
set_option maxHeartbeats 2000000 in
theorem r_SumE (p : Option Addr) (cap : Nat) (w : World) : Calls Tryd.prog 17 #[.slice p 0 cap] w (Gives (.tuple #[nul.v, .int .i64 0]) w) := by
  have HC : Hid (∀ w, Calls Tryd.prog 35 #[.slice p 0 cap] w (Gives (.int .i64 0) w)) := fun w => r_checksE p cap w
  go_enter Tryd.func17, Tryd.ntmps17
  go_wp2_with fail
  refine (HC.out _).mono ?_
  rintro e w1 ⟨rfl, hb⟩
  have hw2 : Below w.heap.size w w1 := below_via hb (by repeat (first | with_reducible exact Below.refl _ _ | with_reducible refine below_al ?_ _ | with_reducible refine below_dN ?_ _ | with_reducible refine Below.drew ?_ | (with_reducible refine Below.setCell ?_ (by simp <;> omega) _) | (with_reducible refine below_via (by assumption) ?_)))
  have hz1 : Box w1 w.heap.size 23 nul := (box_new w 0 0 0 0 0 _).below hb (by simp)
  have HI : Hid (InSum w w1.heap.size nul (w1.alloc (.cells #[.int .i64 0, .int .i64 0, .int .i64 0, .int .i64 0, .int .i64 0] 23))) := ⟨below_al hw2 _, box_al hz1 _, box_new w1 0 0 0 0 0 _, hz1.lt⟩
  clear hb hw2 hz1
  go_wp2_with fail
  generalize w1.heap.size = bs at HI ⊢
  go_loopw [6, 7] (fun e i wr => i = .int .i64 0 ∧ e = .int .i64 0 ∧ Hid (InSum w bs nul wr)) (fun _ i _ => 0)
  case atStart => exact ⟨rfl, rfl, HI.out⟩
  case round =>
    obtain ⟨rfl, rfl, HI⟩ := hrel
    obtain ⟨z0, z1, z2, z3, z4⟩ := HI.out.2.1.cell
    obtain ⟨g0, g1, g2, g3, g4⟩ := HI.out.2.1.free
    obtain ⟨s0, s1, s2, s3, s4⟩ := HI.out.2.2.1.cell
    have hltz := HI.out.2.1.lt
    have hlts := HI.out.2.2.1.lt
    have hw := HI.out.1
    dsimp only at z0 z1 z2 z3 z4 s0 s1 s2 s3 s4
    go_wp2_with fail
    exact bodyPost_ret (v := .tuple #[nul.v, .int .i64 0]) (by simp [results, Tryd.results17, go_sem, z0, z1, z2, z3, z4]) rfl ⟨rfl, by first | exact hw | exact ((((hw.setCell (Nat.le_refl _) _).setCell (Nat.le_refl _) _).setCell (Nat.le_refl _) _).setCell (Nat.le_refl _) _).setCell (Nat.le_refl _) _⟩
/-- Two numbers of rows are compared. -/
theorem neq_row {o : Oper} {a : Act} {s t : Operand} {x y : Nm} {b : Bool} {W : World} (ho : o.op = .binOp .neq 23 s t 23) (hs : a.eval s = x.v) (ht : a.eval t = y.v) (hb : (!eq5 x y) = b) : (execOp a.eval o).run Tryd.prog W = .ok (.value (.bool b)) W := by
  obtain ⟨dst, op, ty, pos, af, gd⟩ := o
  dsimp only at ho
  subst ho
  subst hb
  generalize a.eval = e at *
  simp [go_sem, hs, ht]
  unfold eq5
  by_cases h0 : x.A = y.A <;> by_cases h1 : x.B = y.B <;> by_cases h2 : x.C = y.C <;> by_cases h3 : x.D = y.D <;> by_cases h4 : x.K = y.K <;> simp [h0, h1, h2, h3, h4]
theorem rootP_two (k : Int) : ∃ (r : Nm) (q : Int), rootP k = .tuple #[r.v, .int .i64 q] := by
  unfold rootP; split
  · exact ⟨⟨1, 0, 0, 0, k⟩, 0, rfl⟩
  · exact ⟨nul, 3, rfl⟩
theorem powV_two (x : Nm) (n : Int) : ∃ (r : Nm) (q : Int), powV x n = .tuple #[r.v, .int .i64 q] := by
  unfold powV; split
  · split
    · exact ⟨_, _, rfl⟩
    · exact ⟨nul, 3, rfl⟩
  · exact ⟨nul, _, rfl⟩
theorem sumV_two (xs : List Nm) : ∃ (r : Nm) (q : Int), sumV xs = .tuple #[r.v, .int .i64 q] := by
  unfold sumV; split
  · exact ⟨_, _, rfl⟩
  · exact ⟨nul, _, rfl⟩
/-- Numbers are put behind nothing: they lie in a row of their own. -/
theorem wpList_append_nums {w : World} {ops : Array Oper} {rest : List Oper} {o : Oper} {a : Act} {Q : Exit → Act → World → Prop} (hgd : o.guard = none) (s y : Operand)
    (ho : o.op = .call { callee := .builtin .append, args := #[s, y], argTypes := #[29, 29] }) (hB : Nat) (hs : a.eval s = .slice (some ⟨hB, 0, none⟩) 0 0) (hown : w.heap[hB]? = some (.cells #[] 23 (0, 0)))
    (p : Option Addr) (m c : Nat) (xs : List Nm) (hx : a.eval y = .slice p m c) (hm : xs.length = m) (hm2 : m ≤ 100) (hp : p = none → c = 0)
    (hsrc : xs = [] ∨ ∃ b off, p = some ⟨b, off, none⟩ ∧ Row w b off xs)
    (h : ∀ g cap' w', Row w' g 0 xs → w.grownBy w' (some hB) → wpList Tryd.prog ops Q rest (a.put o.dst (.slice (some ⟨g, 0, none⟩) m cap')) w') : wpList Tryd.prog ops Q (o :: rest) a w := by
  obtain ⟨i0, hi, hz0, hz1, hz2⟩ := info_parts info_num
  have hlt := (Array.getElem?_eq_some_iff.1 hown).1
  have ho0 : w.ownsRow hB 23 5 (.slice (some ⟨hB, 0, none⟩) 0 0) 0 [] := ⟨rfl, .inr ⟨hB, 0, #[], rfl, Nat.le_refl _, hown, Nat.le_refl _, Nat.zero_le _, rfl, rfl⟩⟩
  cases p with
  | none =>
    have hx0 : xs = [] := by
      rcases hsrc with h | ⟨b, off, h, _⟩
      · exact h
      · cases h
    subst hx0
    have hc := hp rfl
    subst hc
    simp at hm
    subst hm
    refine wpList_append_own_none hgd s y 29 ho hB 23 i0 5 und_nums hi (.slice (some ⟨hB, 0, none⟩) 0 0) 0 [] hs ho0 hx ?_
    exact h hB 0 w ⟨hlt, fun i x hx => by simp at hx⟩ ⟨rfl, rfl, rfl, Nat.le_refl _, fun k _ _ => rfl⟩
  | some ad =>
    refine wpList_append_own w hgd s y 29 ho hB 23 i0 nul.v 5 40 und_nums hi hz0 hz1 hz2 rfl (by decide) (.slice (some ⟨hB, 0, none⟩) 0 0) 0 [] hs ho0 ad m c (cellsL xs) hx (by rw [cellsL_len, hm]) ?_ (cellsL_one xs) (by unfold maxLen; omega) (by omega) (Nat.le_of_lt hlt) ?_
    · intro j u hu
      rcases hsrc with h | ⟨b, off, h, hr⟩
      · subst h; simp [cellsL] at hu
      · cases h
        rw [add_at]
        exact Row.cells xs off hr j u hu
    · intro v' w' hown' hgrow hnil
      obtain ⟨hl, hh | ⟨g, cap', cur, h1, h2, h3, h4, h5, h6, h7⟩⟩ := hown'
      · have := hnil.1 hh.1
        cases this.1
      · subst h1
        rw [Nat.zero_add] at h7 ⊢
        refine h g cap' w' (row_of h3 ?_) hgrow
        rw [hm]
        simpa using h7

theorem empty_new (w : World) (o : Obj) (T : Nat) {n : Nat} (h : n = (w.alloc o).heap.size) : ((w.alloc o).alloc (.cells #[] T)).heap[n]? = some (.cells #[] T (0, 0)) := by
  subst h; exact heap_alloc_new _ _
theorem below_app {w w' : World} {T n : Nat} (hg : (w.alloc (.cells #[] T)).grownBy w' (some n)) (hn : n = w.heap.size := by simp) : Below w.heap.size w w' :=
  ((Below.refl w.heap.size w).alloc (Nat.le_refl _) _).grown hg (by simp) (fun k e => by cases e; omega)

set_option maxHeartbeats 16000000 in
theorem RingPowers_row (x : Nm) (n k : Int) (hn0 : -9223372036854775808 ≤ n) (hn1 : n ≤ 9223372036854775807) (xs : List Nm) (b off cap : Nat) (hn : xs.length ≤ 100) (w : World) (hb : Row w b off xs) (hv : Vars w) :
    Calls Tryd.prog 4 #[x.v, .int .i64 n, .int .i64 k, .slice (some ⟨b, off, none⟩) xs.length cap] w (Gives (.bool true) w) := by
  have HA : Hid (∀ w', Below w.heap.size w w' → Calls Tryd.prog 14 #[] w' (Gives (.bool true) w')) := fun w' hb => awake_below hv hb
  have G0 : Hid (Got w [(w.heap.size, x)] (w.alloc (.cells #[.int .i64 x.A, .int .i64 x.B, .int .i64 x.C, .int .i64 x.D, .int .i64 x.K] 23))) := (Got.none w).box x
  obtain ⟨r1, q1, h1⟩ := rootP_two k
  obtain ⟨r2, q2, h2⟩ := powV_two x n
  obtain ⟨r3, q3, h3⟩ := sumV_two xs
  have H1 : Hid (∀ w, Calls Tryd.prog 15 #[.int .i64 k] w (Gives (.tuple #[r1.v, .int .i64 q1]) w)) := fun w => h1 ▸ r_Root k w
  have H2 : Hid (∀ w, Calls Tryd.prog 16 #[x.v, .int .i64 n] w (Gives (.tuple #[r2.v, .int .i64 q2]) w)) := fun w => h2 ▸ r_Power x n w
  have H4 : Hid (∀ w, Calls Tryd.prog 18 #[.int .i64 k] w (Gives (.tuple #[r1.v, .int .i64 q1]) w)) := fun w => h1 ▸ Root_any k w
  have H5 : Hid (∀ w, Calls Tryd.prog 19 #[x.v, .int .i64 n] w (Gives (.tuple #[r2.v, .int .i64 q2]) w)) := fun w => h2 ▸ Power_any x n w
  have HO1 : Hid (∀ w, Calls Tryd.prog 21 #[.int .i64 n] w (Gives (pw (n % 8).toNat).v w)) := fun w => Omega_any n w
  have HO2 : Hid (∀ w, Calls Tryd.prog 22 #[.int .i64 n] w (Gives (pw (n % 8).toNat).v w)) := fun w => r_OmegaZ n w hn0 hn1

  have HRW : Hid (∀ w', Below w.heap.size w w' → Row w' b off xs) := fun w' hb' => hb.below hb'
  have hblt := hb.1
  have H3 : Hid (∀ w', Row w' b off xs → Calls Tryd.prog 17 #[.slice (some ⟨b, off, none⟩) xs.length cap] w' (Gives (.tuple #[r3.v, .int .i64 q3]) w')) := fun w' h => h3 ▸ r_SumL xs b off cap w' h hn
  have H6 : Hid (∀ w' (g cap : Nat), Row w' g 0 xs → Calls Tryd.prog 20 #[.slice (some ⟨g, 0, none⟩) xs.length cap] w' (Gives (.tuple #[r3.v, .int .i64 q3]) w')) := fun w' g cap h => h3 ▸ Sum_any xs g 0 cap w' h hn
  have hnl : ¬ (100 : Int) < xs.length := by omega
  clear hb

  clear hv h1 h2 h3
  generalize pw (n % 8).toNat = om at *
  go_enter Tryd.func4, Tryd.ntmps4
  go_wp2_with fail
  refine (H1.out _).mono ?_
  rintro e u1 ⟨rfl, hb⟩
  have g := G0.out.call hb
  obtain ⟨x0, x1, x2, x3, x4⟩ := (g.2 _ (.head _)).cell
  have hlt := (g.2 _ (.head _)).lt
  dsimp only at x0 x1 x2 x3 x4 hlt
  have G1 := Lib.hid (g.box r1)
  clear g hb G0
  go_wp2_with fail
  clear x0 x1 x2 x3 x4 hlt
  refine (H2.out _).mono ?_
  rintro e u2 ⟨rfl, hb⟩
  have G2 := Lib.hid ((G1.out.call hb).box r2)
  clear hb G1
  go_wp2_with fail
  refine (H3.out _ (HRW.out _ G2.out.1)).mono ?_
  rintro e u3 ⟨rfl, hb⟩
  have G3 := Lib.hid ((G2.out.call hb).box r3)
  clear hb G2
  have HR3 := Lib.hid (HRW.out _ (below_al G3.out.1 (.cells #[] 23)))
  go_wp2_with (at_builtin; refine wpList_append_nums rfl (.tmp 43) (.tmp 44) rfl (u3.heap.size + 1) rfl (empty_new _ _ _ (by simp)) (some ⟨b, off, none⟩) xs.length cap xs rfl rfl hn (fun h => by cases h) (.inr ⟨b, off, rfl, HR3.out⟩) ?_; intro g cap' wa hrow hgrow)
  have hbw := below_app hgrow
  have g4 := G3.out.call hbw
  have G4 := Lib.hid g4
  have HROW := Lib.hid hrow
  clear hgrow hrow hbw g4 G3
  refine (H4.out _).mono ?_
  rintro e u4 ⟨rfl, hb⟩
  have HROW4 := Lib.hid ((HROW.out.below hb).below ((Below.refl _ _).alloc (Nat.le_refl _) (.cells #[.int .i64 r1.A, .int .i64 r1.B, .int .i64 r1.C, .int .i64 r1.D, .int .i64 r1.K] 23)))
  have g := G4.out.call hb
  obtain ⟨x0, x1, x2, x3, x4⟩ := (g.2 _ (.tail _ (.tail _ (.tail _ (.head _))))).cell
  have hlt := (g.2 _ (.tail _ (.tail _ (.tail _ (.head _))))).lt
  dsimp only at x0 x1 x2 x3 x4 hlt
  have G5 := Lib.hid (g.box r1)
  clear g hb G4 HROW
  go_wp2_with fail
  clear x0 x1 x2 x3 x4 hlt
  refine (H5.out _).mono ?_
  rintro e u5 ⟨rfl, hb⟩
  have HROW5 := Lib.hid ((HROW4.out.below hb).below ((Below.refl _ _).alloc (Nat.le_refl _) (.cells #[.int .i64 r2.A, .int .i64 r2.B, .int .i64 r2.C, .int .i64 r2.D, .int .i64 r2.K] 23)))
  have G6 := Lib.hid ((G5.out.call hb).box r2)
  clear hb G5 HROW4
  go_wp2_with fail
  refine (H6.out _ _ _ HROW5.out).mono ?_
  rintro e u6 ⟨rfl, hb⟩
  have HROW6 := Lib.hid ((HROW5.out.below hb).below ((Below.refl _ _).alloc (Nat.le_refl _) (.cells #[.int .i64 r3.A, .int .i64 r3.B, .int .i64 r3.C, .int .i64 r3.D, .int .i64 r3.K] 23)))
  have G7 := Lib.hid ((G6.out.call hb).box r3)
  clear hb G6 HROW5
  have hqq1 : (q1 == q1) = true := by simp
  have hqq2 : (q2 == q2) = true := by simp
  have hqq3 : (q3 == q3) = true := by simp
  go_wp2_with fail
  have HL : Hid (Got w [(u6.heap.size, r3), (u5.heap.size, r2), (u4.heap.size, r1), (u3.heap.size, r3), (u2.heap.size, r2), (u1.heap.size, r1), (w.heap.size, x)] (u6.alloc (.cells #[.int .i64 r3.A, .int .i64 r3.B, .int .i64 r3.C, .int .i64 r3.D, .int .i64 r3.K] 23)) ∧ Row (u6.alloc (.cells #[.int .i64 r3.A, .int .i64 r3.B, .int .i64 r3.C, .int .i64 r3.D, .int .i64 r3.K] 23)) b off xs ∧ Row (u6.alloc (.cells #[.int .i64 r3.A, .int .i64 r3.B, .int .i64 r3.C, .int .i64 r3.D, .int .i64 r3.K] 23)) g 0 xs) := ⟨G7.out, HRW.out _ G7.out.1, HROW6.out⟩
  clear G7 HROW6 HR3
  go_loopw [64] (fun i wr => ∃ j : Nat, j ≤ xs.length ∧ i = .int .i64 j ∧ Hid (Got w [(u6.heap.size, r3), (u5.heap.size, r2), (u4.heap.size, r1), (u3.heap.size, r3), (u2.heap.size, r2), (u1.heap.size, r1), (w.heap.size, x)] wr ∧ Row wr b off xs ∧ Row wr g 0 xs)) (fun i _ => xs.length - (intOf i).toNat)
  case atStart => exact ⟨0, by omega, rfl, HL.out⟩
  case round =>
    obtain ⟨j, hj, rfl, HI⟩ := hrel
    clear HL
    by_cases hlt : j < xs.length
    · obtain ⟨y, hy⟩ : ∃ y, xs[j]? = some y := ⟨_, List.getElem?_eq_getElem hlt⟩
      have HY := Lib.hid hy
      have hne : (!eq5 y y) = false := by rw [(eq5_iff y y).2 rfl]; rfl
      clear hy
      go_wp2_with fail
      refine region_fin (fun W => Got w [(u6.heap.size, r3), (u5.heap.size, r2), (u4.heap.size, r1), (u3.heap.size, r3), (u2.heap.size, r2), (u1.heap.size, r1), (w.heap.size, x)] W ∧ Row W b off xs ∧ Row W g 0 xs) 67 [.slice (some ⟨g, 0, none⟩) xs.length cap', .int .i64 j, .pointer (some ⟨g, 0 + j * 5, none⟩), y.v, .slice (some ⟨b, off, none⟩) xs.length cap, .int .i64 j, .pointer (some ⟨b, off + j * 5, none⟩), y.v, .bool false, u76, undef, undef, undef, undef, undef, undef, undef, undef, undef, undef, undef, undef, undef, undef, undef, undef, undef, undef, undef, undef, undef, undef, undef, undef, undef, undef, undef, undef, undef, undef, undef, undef, undef, undef, undef, undef, undef, undef] 67 (.slice (some ⟨g, 0, none⟩) xs.length cap') (by as_aux_lemma => kernel_rfl) (by as_aux_lemma => kernel_rfl) (by as_aux_lemma => kernel_rfl) (outV_fin _ 9 (by as_aux_lemma => kernel_rfl) (Nat.le_of_ble_eq_true (by kernel_rfl)) (Nat.le_of_ble_eq_true (by kernel_rfl)) (by as_aux_lemma => kernel_rfl)) ⟨HI.out.1.call (below_dN (Below.refl _ _) 1), HI.out.2.1.below (below_dN (Below.refl _ _) 1), HI.out.2.2.below (below_dN (Below.refl _ _) 1)⟩ ?_ ?_
      rotate_left
      · refine eachOp_cons (ok_val (by kernel_rfl) (by kernel_rfl) (fun _ => by kernel_rfl)) ?_
        refine eachOp_cons (ok_val (by kernel_rfl) (by kernel_rfl) (fun _ => by kernel_rfl)) ?_
        refine eachOp_cons (ok_val (by kernel_rfl) (by kernel_rfl) (fun _ => idx_num (b := g) (off := 0) (n := xs.length) (cap := cap') (k := j) rfl (by kernel_rfl) (by kernel_rfl) hlt)) ?_
        refine eachOp_cons (ok_load (by kernel_rfl) (by kernel_rfl) (fun _ hC => load_row (b := g) (off := 0) (i := j) (xs := xs) (x := y) rfl (by kernel_rfl) hC.2.2 HY.out)) ?_
        refine eachOp_cons (ok_val (by kernel_rfl) (by kernel_rfl) (fun _ => by kernel_rfl)) ?_
        refine eachOp_cons (ok_val (by kernel_rfl) (by kernel_rfl) (fun _ => by kernel_rfl)) ?_
        refine eachOp_cons (ok_val (by kernel_rfl) (by kernel_rfl) (fun _ => idx_num (b := b) (off := off) (n := xs.length) (cap := cap) (k := j) rfl (by kernel_rfl) (by kernel_rfl) hlt)) ?_
        refine eachOp_cons (ok_load (by kernel_rfl) (by kernel_rfl) (fun _ hC => load_row (b := b) (off := off) (i := j) (xs := xs) (x := y) rfl (by kernel_rfl) hC.2.1 HY.out)) ?_
        refine eachOp_cons (ok_val (by kernel_rfl) (by kernel_rfl) (fun _ => neq_row (x := y) (y := y) rfl (by kernel_rfl) (by kernel_rfl) hne)) ?_
        exact eachOp_nil
      intro W hW
      rename_i hK
      refine hK _ _ ?_
      have HI2 := Lib.hid hW
      clear hW HI hK
      simp only [finA, List.take_succ_cons, List.take_zero, List.cons_append, List.nil_append, List.set_cons_succ, List.set_cons_zero]
      go_wp2_with fail
      go_roundw
      case rel => exact ⟨j + 1, by omega, by go_num, HI2.out⟩
      case measure => simp [intOf]; omega
    · have HG := Lib.hid HI.out.1
      clear HI
      obtain ⟨c0, c1, c2, c3, c4⟩ := (HG.out.2 _ (.head _)).cell
      have ltc := (HG.out.2 _ (.head _)).lt
      dsimp only at c0 c1 c2 c3 c4 ltc
      obtain ⟨b0, b1, b2, b3, b4⟩ := (HG.out.2 _ (.tail _ (.head _))).cell
      have ltb := (HG.out.2 _ (.tail _ (.head _))).lt
      dsimp only at b0 b1 b2 b3 b4 ltb
      obtain ⟨a0, a1, a2, a3, a4⟩ := (HG.out.2 _ (.tail _ (.tail _ (.head _)))).cell
      have lta := (HG.out.2 _ (.tail _ (.tail _ (.head _)))).lt
      dsimp only at a0 a1 a2 a3 a4 lta
      obtain ⟨s0, s1, s2, s3, s4⟩ := (HG.out.2 _ (.tail _ (.tail _ (.tail _ (.head _))))).cell
      have lts := (HG.out.2 _ (.tail _ (.tail _ (.tail _ (.head _))))).lt
      dsimp only at s0 s1 s2 s3 s4 lts
      obtain ⟨p0, p1, p2, p3, p4⟩ := (HG.out.2 _ (.tail _ (.tail _ (.tail _ (.tail _ (.head _)))))).cell
      have ltp := (HG.out.2 _ (.tail _ (.tail _ (.tail _ (.tail _ (.head _)))))).lt
      dsimp only at p0 p1 p2 p3 p4 ltp
      obtain ⟨t0, t1, t2, t3, t4⟩ := (HG.out.2 _ (.tail _ (.tail _ (.tail _ (.tail _ (.tail _ (.head _))))))).cell
      have ltt := (HG.out.2 _ (.tail _ (.tail _ (.tail _ (.tail _ (.tail _ (.head _))))))).lt
      dsimp only at t0 t1 t2 t3 t4 ltt
      go_wp2_with fail
      refine (HO1.out _).mono ?_
      rintro e v1 ⟨rfl, hb1⟩
      have G8 := Lib.hid (HG.out.call hb1)
      go_wp2_with fail
      refine (HO2.out _).mono ?_
      rintro e v2 ⟨rfl, hb2⟩
      have G9 := Lib.hid (G8.out.call hb2)
      go_wp2_with fail
      refine (HA.out _ G9.out.1).mono ?_
      rintro e u9 ⟨rfl, hb⟩
      go_wp2_with fail
      go_ret
      exact ⟨rfl, below_via hb G9.out.1⟩

set_option maxHeartbeats 16000000 in
theorem RingPowers_none (x : Nm) (n k : Int) (hn0 : -9223372036854775808 ≤ n) (hn1 : n ≤ 9223372036854775807) (p : Option Addr) (cap : Nat) (hp : p = none → cap = 0) (w : World) (hv : Vars w) :
    Calls Tryd.prog 4 #[x.v, .int .i64 n, .int .i64 k, .slice p 0 cap] w (Gives (.bool true) w) := by
  have HA : Hid (∀ w', Below w.heap.size w w' → Calls Tryd.prog 14 #[] w' (Gives (.bool true) w')) := fun w' hb => awake_below hv hb
  have G0 : Hid (Got w [(w.heap.size, x)] (w.alloc (.cells #[.int .i64 x.A, .int .i64 x.B, .int .i64 x.C, .int .i64 x.D, .int .i64 x.K] 23))) := (Got.none w).box x
  obtain ⟨r1, q1, h1⟩ := rootP_two k
  obtain ⟨r2, q2, h2⟩ := powV_two x n
  obtain ⟨r3, q3, h3⟩ := sumV_two []
  have H1 : Hid (∀ w, Calls Tryd.prog 15 #[.int .i64 k] w (Gives (.tuple #[r1.v, .int .i64 q1]) w)) := fun w => h1 ▸ r_Root k w
  have H2 : Hid (∀ w, Calls Tryd.prog 16 #[x.v, .int .i64 n] w (Gives (.tuple #[r2.v, .int .i64 q2]) w)) := fun w => h2 ▸ r_Power x n w
  have H4 : Hid (∀ w, Calls Tryd.prog 18 #[.int .i64 k] w (Gives (.tuple #[r1.v, .int .i64 q1]) w)) := fun w => h1 ▸ Root_any k w
  have H5 : Hid (∀ w, Calls Tryd.prog 19 #[x.v, .int .i64 n] w (Gives (.tuple #[r2.v, .int .i64 q2]) w)) := fun w => h2 ▸ Power_any x n w
  have HO1 : Hid (∀ w, Calls Tryd.prog 21 #[.int .i64 n] w (Gives (pw (n % 8).toNat).v w)) := fun w => Omega_any n w
  have HO2 : Hid (∀ w, Calls Tryd.prog 22 #[.int .i64 n] w (Gives (pw (n % 8).toNat).v w)) := fun w => r_OmegaZ n w hn0 hn1

  have H3 : Hid (∀ w', Calls Tryd.prog 17 #[.slice p 0 cap] w' (Gives (.tuple #[r3.v, .int .i64 q3]) w')) := fun w' => by
    rw [← h3]
    exact r_SumE p cap w'
  have H6 : Hid (∀ w' (g cap : Nat), Row w' g 0 [] → Calls Tryd.prog 20 #[.slice (some ⟨g, 0, none⟩) 0 cap] w' (Gives (.tuple #[r3.v, .int .i64 q3]) w')) := fun w' g cap h => h3 ▸ Sum_any [] g 0 cap w' h (by simp)

  clear hv h1 h2 h3
  generalize pw (n % 8).toNat = om at *
  go_enter Tryd.func4, Tryd.ntmps4
  go_wp2_with fail
  refine (H1.out _).mono ?_
  rintro e u1 ⟨rfl, hb⟩
  have g := G0.out.call hb
  obtain ⟨x0, x1, x2, x3, x4⟩ := (g.2 _ (.head _)).cell
  have hlt := (g.2 _ (.head _)).lt
  dsimp only at x0 x1 x2 x3 x4 hlt
  have G1 := Lib.hid (g.box r1)
  clear g hb G0
  go_wp2_with fail
  clear x0 x1 x2 x3 x4 hlt
  refine (H2.out _).mono ?_
  rintro e u2 ⟨rfl, hb⟩
  have G2 := Lib.hid ((G1.out.call hb).box r2)
  clear hb G1
  go_wp2_with fail
  refine (H3.out _).mono ?_
  rintro e u3 ⟨rfl, hb⟩
  have G3 := Lib.hid ((G2.out.call hb).box r3)
  clear hb G2
  go_wp2_with (at_builtin; refine wpList_append_nums rfl (.tmp 43) (.tmp 44) rfl (u3.heap.size + 1) rfl (empty_new _ _ _ (by simp)) p 0 cap [] rfl rfl (by omega) hp (.inl rfl) ?_; intro g cap' wa hrow hgrow)
  have hbw := below_app hgrow
  have g4 := G3.out.call hbw
  have G4 := Lib.hid g4
  have HROW := Lib.hid hrow
  clear hgrow hrow hbw g4 G3
  refine (H4.out _).mono ?_
  rintro e u4 ⟨rfl, hb⟩
  have HROW4 := Lib.hid ((HROW.out.below hb).below ((Below.refl _ _).alloc (Nat.le_refl _) (.cells #[.int .i64 r1.A, .int .i64 r1.B, .int .i64 r1.C, .int .i64 r1.D, .int .i64 r1.K] 23)))
  have g := G4.out.call hb
  obtain ⟨x0, x1, x2, x3, x4⟩ := (g.2 _ (.tail _ (.tail _ (.tail _ (.head _))))).cell
  have hlt := (g.2 _ (.tail _ (.tail _ (.tail _ (.head _))))).lt
  dsimp only at x0 x1 x2 x3 x4 hlt
  have G5 := Lib.hid (g.box r1)
  clear g hb G4 HROW
  go_wp2_with fail
  clear x0 x1 x2 x3 x4 hlt
  refine (H5.out _).mono ?_
  rintro e u5 ⟨rfl, hb⟩
  have HROW5 := Lib.hid ((HROW4.out.below hb).below ((Below.refl _ _).alloc (Nat.le_refl _) (.cells #[.int .i64 r2.A, .int .i64 r2.B, .int .i64 r2.C, .int .i64 r2.D, .int .i64 r2.K] 23)))
  have G6 := Lib.hid ((G5.out.call hb).box r2)
  clear hb G5 HROW4
  go_wp2_with fail
  refine (H6.out _ _ _ HROW5.out).mono ?_
  rintro e u6 ⟨rfl, hb⟩
  have HROW6 := Lib.hid ((HROW5.out.below hb).below ((Below.refl _ _).alloc (Nat.le_refl _) (.cells #[.int .i64 r3.A, .int .i64 r3.B, .int .i64 r3.C, .int .i64 r3.D, .int .i64 r3.K] 23)))
  have G7 := Lib.hid ((G6.out.call hb).box r3)
  clear hb G6 HROW5
  have hqq1 : (q1 == q1) = true := by simp
  have hqq2 : (q2 == q2) = true := by simp
  have hqq3 : (q3 == q3) = true := by simp
  go_wp2_with fail
  have HL : Hid (Got w [(u6.heap.size, r3), (u5.heap.size, r2), (u4.heap.size, r1), (u3.heap.size, r3), (u2.heap.size, r2), (u1.heap.size, r1), (w.heap.size, x)] (u6.alloc (.cells #[.int .i64 r3.A, .int .i64 r3.B, .int .i64 r3.C, .int .i64 r3.D, .int .i64 r3.K] 23))) := G7.out
  clear G7 HROW6
  go_loopw [64] (fun i wr => i = .int .i64 0 ∧ Hid (Got w [(u6.heap.size, r3), (u5.heap.size, r2), (u4.heap.size, r1), (u3.heap.size, r3), (u2.heap.size, r2), (u1.heap.size, r1), (w.heap.size, x)] wr)) (fun i _ => 0)
  case atStart => exact ⟨rfl, HL.out⟩
  case round =>
    obtain ⟨rfl, HG⟩ := hrel
    clear HL
    by_cases hlt : (0 : Nat) < 0
    · omega
    ·
      obtain ⟨c0, c1, c2, c3, c4⟩ := (HG.out.2 _ (.head _)).cell
      have ltc := (HG.out.2 _ (.head _)).lt
      dsimp only at c0 c1 c2 c3 c4 ltc
      obtain ⟨b0, b1, b2, b3, b4⟩ := (HG.out.2 _ (.tail _ (.head _))).cell
      have ltb := (HG.out.2 _ (.tail _ (.head _))).lt
      dsimp only at b0 b1 b2 b3 b4 ltb
      obtain ⟨a0, a1, a2, a3, a4⟩ := (HG.out.2 _ (.tail _ (.tail _ (.head _)))).cell
      have lta := (HG.out.2 _ (.tail _ (.tail _ (.head _)))).lt
      dsimp only at a0 a1 a2 a3 a4 lta
      obtain ⟨s0, s1, s2, s3, s4⟩ := (HG.out.2 _ (.tail _ (.tail _ (.tail _ (.head _))))).cell
      have lts := (HG.out.2 _ (.tail _ (.tail _ (.tail _ (.head _))))).lt
      dsimp only at s0 s1 s2 s3 s4 lts
      obtain ⟨p0, p1, p2, p3, p4⟩ := (HG.out.2 _ (.tail _ (.tail _ (.tail _ (.tail _ (.head _)))))).cell
      have ltp := (HG.out.2 _ (.tail _ (.tail _ (.tail _ (.tail _ (.head _)))))).lt
      dsimp only at p0 p1 p2 p3 p4 ltp
      obtain ⟨t0, t1, t2, t3, t4⟩ := (HG.out.2 _ (.tail _ (.tail _ (.tail _ (.tail _ (.tail _ (.head _))))))).cell
      have ltt := (HG.out.2 _ (.tail _ (.tail _ (.tail _ (.tail _ (.tail _ (.head _))))))).lt
      dsimp only at t0 t1 t2 t3 t4 ltt
      go_wp2_with fail
      refine (HO1.out _).mono ?_
      rintro e v1 ⟨rfl, hb1⟩
      have G8 := Lib.hid (HG.out.call hb1)
      go_wp2_with fail
      refine (HO2.out _).mono ?_
      rintro e v2 ⟨rfl, hb2⟩
      have G9 := Lib.hid (G8.out.call hb2)
      go_wp2_with fail
      refine (HA.out _ G9.out.1).mono ?_
      rintro e u9 ⟨rfl, hb⟩
      go_wp2_with fail
      go_ret
      exact ⟨rfl, below_via hb G9.out.1⟩

end Go.Proofs.YtjalpolciofphaaDoor
