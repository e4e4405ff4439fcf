/- The reference's Mul. -/
import Derived.Test.YtcdmcndjbajhlaaGreatDoorJp
import Derived.Test.YtcdmcndjbajhlaaGreatDoorJs
import Derived.Test.YtcdmcndjbajhlaaGreatDoorDm
import Derived.Test.YtcdmcndjbajhlaaGreatDoorJk
import Derived.Test.YtcdmcndjbajhlaaGreatDoorJu
import Derived.Test.YtcdmcndjbajhlaaGreatDoorJq
set_option linter.all false
set_option maxRecDepth 100000
namespace Go.Proofs.YtcdmcndjbajhlaaGreatDoor
open Go.RowKit

set_option maxHeartbeats 4000000 in
theorem settle_out (A B C D K : Int) (w : World) (hK : K < 0) (hin : inb A B C D 1073741824 = false) :
    Calls Tryz.prog 82 #[nv A B C D K] w (Gives (.tuple #[nul.v, .int .i64 8]) w) := by
  go_enter Tryz.func82, Tryz.ntmps82
  go_wp2_with fail
  refine (within_any _ _ _ _ _ _ _ (by omega) (by omega)).mono ?_
  rw [hin]
  rintro e w1 ⟨rfl, hb⟩
  obtain ⟨hc, hf⟩ := bcell hb
  have hz0 : w.heap.size < w1.heap.size := by have := hb.size; simp at this; omega
  have hz1 : w.heap.size + 1 < w1.heap.size := by have := hb.size; simp at this; omega
  go_wp2
  exact bodyPost_ret (v := (.tuple #[nul.v, .int .i64 8])) (by simp [results, Tryz.results82, go_sem, hc, hz0, hz1]) rfl ⟨rfl, (by repeat (first | with_reducible exact Below.refl _ _ | with_reducible refine below_al ?_ _ | with_reducible refine below_dN ?_ _ | with_reducible refine Below.drew ?_ | (with_reducible refine Below.setCell ?_ (by simp <;> omega) _) | (with_reducible refine below_via (by assumption) ?_)))⟩

set_option maxHeartbeats 8000000 in
theorem settle_low (A B C D K : Int) (r l : Nm) (q : Int) (v : Nm) (w : World) (hK : K < 0) (hin : inb A B C D 1073741824 = true)
    (HLx : Hid (∀ (w : World) (b T : Nat), Box w b T ⟨A, B, C, D, K⟩ → Calls Tryz.prog 104 #[.pointer (some ⟨b, 0, none⟩), .int .i64 0] w (Lifted r b T w)))
    (HL : Hid (∀ w, Calls Tryz.prog 16 #[nv r.A r.B r.C r.D r.K] w (Gives l.v w)))
    (HQ : (chk l.A l.B l.C l.D l.K = 0 ∧ v = l ∧ q = 0) ∨ ((chk l.A l.B l.C l.D l.K != 0) = true ∧ v = nul ∧ q = 8)) :
    Calls Tryz.prog 82 #[nv A B C D K] w (Gives (.tuple #[v.v, .int .i64 q]) w) := by
  rcases HQ with ⟨hc0, rfl, rfl⟩ | ⟨hc0, rfl, rfl⟩
  · have HC := Lib.hid hc0
    clear hc0
    go_enter Tryz.func82, Tryz.ntmps82
    go_wp2_with fail
    refine (within_any _ _ _ _ _ _ _ (by omega) (by omega)).mono ?_
    rw [hin]
    rintro e w1 ⟨rfl, hb⟩
    have b0 : Box w1 w.heap.size 40 ⟨A, B, C, D, K⟩ := (box_al (box_new w _ _ _ _ _ _) _).below hb (by simp; omega)
    have b1 : Box w1 (w.heap.size + 1) 23 nul := by
      have h := box_new (w.alloc (.cells #[.int .i64 A, .int .i64 B, .int .i64 C, .int .i64 D, .int .i64 K] 40)) 0 0 0 0 0 23
      simp only [World.size_alloc] at h
      exact h.below hb (by simp)
    have hw1 : Below w.heap.size w w1 := (by repeat (first | with_reducible exact Below.refl _ _ | with_reducible refine below_al ?_ _ | with_reducible refine below_dN ?_ _ | with_reducible refine Below.drew ?_ | (with_reducible refine Below.setCell ?_ (by simp <;> omega) _) | (with_reducible refine below_via (by assumption) ?_)))
    have hz0 : w.heap.size + 1 < w1.heap.size := by have := hb.size; simp at this; omega
    have HB0 := Lib.hid b0
    have HB1 := Lib.hid b1
    clear hb b0 b1
    go_wp2_with fail
    refine (HLx.out _ _ _ HB0.out).mono ?_
    rintro e w2 ⟨rfl, ho2, hb2⟩
    have hd1 := HB1.out.only ho2 (by omega)
    have hw2 : Below w.heap.size w w2 := hw1.trans (ho2.below (Nat.le_refl _))
    have hlt2 := hb2.lt
    have hlt3 := hd1.lt
    obtain ⟨c0, c1, c2, c3, c4⟩ := hb2.cell
    obtain ⟨d0, d1, d2, d3, d4⟩ := hd1.cell
    obtain ⟨f0, f1, f2, f3, f4⟩ := hd1.free
    dsimp only at d0 d1 d2 d3 d4
    clear hb2 hd1 ho2
    go_wp2_with fail
    refine (HL.out _).mono ?_
    rintro e w3 ⟨rfl, hb3⟩
    obtain ⟨hc3, hf3⟩ := bcell hb3
    have hw3 : Below w.heap.size w w3 := hw2.trans (hb3.mono hw2.size)
    have hz3 : w.heap.size < w3.heap.size := by have := hb3.size; omega
    have hz31 : w.heap.size + 1 < w3.heap.size := by have := hb3.size; omega
    go_wp2_with fail
    refine (check_any _ _ _ _ _ _).mono ?_
    rw [HC.out]
    rintro e w4 ⟨rfl, hb4⟩
    obtain ⟨hc4, hf4⟩ := bcell hb4
    have hw4 : Below w.heap.size w w4 := hw3.trans ((below_via hb4 (below_al (Below.refl _ _) _)).mono hw3.size)
    go_wp2_with fail
    exact bodyPost_ret (v := (.tuple #[v.v, .int .i64 0])) (by simp [results, Tryz.results82, go_sem, hc4, hc3, d0, d1, d2, d3, d4, hz3, hz31, hlt2, hlt3]) rfl ⟨rfl, by first | exact hw4 | exact ((((hw4.setCell (by simp <;> omega) _).setCell (by simp <;> omega) _).setCell (by simp <;> omega) _).setCell (by simp <;> omega) _).setCell (by simp <;> omega) _⟩
  · go_enter Tryz.func82, Tryz.ntmps82
    go_wp2_with fail
    refine (within_any _ _ _ _ _ _ _ (by omega) (by omega)).mono ?_
    rw [hin]
    rintro e w1 ⟨rfl, hb⟩
    have b0 : Box w1 w.heap.size 40 ⟨A, B, C, D, K⟩ := (box_al (box_new w _ _ _ _ _ _) _).below hb (by simp; omega)
    have b1 : Box w1 (w.heap.size + 1) 23 nul := by
      have h := box_new (w.alloc (.cells #[.int .i64 A, .int .i64 B, .int .i64 C, .int .i64 D, .int .i64 K] 40)) 0 0 0 0 0 23
      simp only [World.size_alloc] at h
      exact h.below hb (by simp)
    have hw1 : Below w.heap.size w w1 := (by repeat (first | with_reducible exact Below.refl _ _ | with_reducible refine below_al ?_ _ | with_reducible refine below_dN ?_ _ | with_reducible refine Below.drew ?_ | (with_reducible refine Below.setCell ?_ (by simp <;> omega) _) | (with_reducible refine below_via (by assumption) ?_)))
    have hz0 : w.heap.size + 1 < w1.heap.size := by have := hb.size; simp at this; omega
    have HB0 := Lib.hid b0
    have HB1 := Lib.hid b1
    clear hb b0 b1
    go_wp2_with fail
    refine (HLx.out _ _ _ HB0.out).mono ?_
    rintro e w2 ⟨rfl, ho2, hb2⟩
    have hd1 := HB1.out.only ho2 (by omega)
    have hw2 : Below w.heap.size w w2 := hw1.trans (ho2.below (Nat.le_refl _))
    have hlt2 := hb2.lt
    have hlt3 := hd1.lt
    obtain ⟨c0, c1, c2, c3, c4⟩ := hb2.cell
    obtain ⟨d0, d1, d2, d3, d4⟩ := hd1.cell
    obtain ⟨f0, f1, f2, f3, f4⟩ := hd1.free
    dsimp only at d0 d1 d2 d3 d4
    clear hb2 hd1 ho2
    go_wp2_with fail
    refine (HL.out _).mono ?_
    rintro e w3 ⟨rfl, hb3⟩
    obtain ⟨hc3, hf3⟩ := bcell hb3
    have hw3 : Below w.heap.size w w3 := hw2.trans (hb3.mono hw2.size)
    have hz3 : w.heap.size < w3.heap.size := by have := hb3.size; omega
    have hz31 : w.heap.size + 1 < w3.heap.size := by have := hb3.size; omega
    go_wp2_with fail
    refine (check_any _ _ _ _ _ _).mono ?_
    rintro e w4 ⟨rfl, hb4⟩
    obtain ⟨hc4, hf4⟩ := bcell hb4
    have hw4 : Below w.heap.size w w4 := hw3.trans ((below_via hb4 (below_al (Below.refl _ _) _)).mono hw3.size)
    go_wp2_with fail
    exact bodyPost_ret (v := (.tuple #[nul.v, .int .i64 8])) (by simp [results, Tryz.results82, go_sem, hc4, hc3, d0, d1, d2, d3, d4, hz3, hz31, hlt2, hlt3]) rfl ⟨rfl, by first | exact hw4 | exact ((((hw4.setCell (by simp <;> omega) _).setCell (by simp <;> omega) _).setCell (by simp <;> omega) _).setCell (by simp <;> omega) _).setCell (by simp <;> omega) _⟩

theorem least_any' (r : Nm) (w : World) (hx : r.wide) (hK : 0 ≤ r.K ∧ r.K ≤ 1000) :
    Calls Tryz.prog 16 #[nv r.A r.B r.C r.D r.K] w (Gives r.least.v w) := by
  obtain ⟨A, B, C, D, K⟩ := r
  exact least_any A B C D K w hx hK

theorem settle_all (x : Nm) (w : World) (hx : x.wide) (hK : -60 ≤ x.K ∧ x.K ≤ 1000) :
    Calls Tryz.prog 82 #[nv x.A x.B x.C x.D x.K] w (Gives (.tuple #[(settN x).v, .int .i64 (settE x)]) w) := by
  by_cases h : x.K < 0
  · by_cases hi : x.inb 1073741824 = true
    · have hle : x.le 1073741824 := by
        unfold Nm.inb inb at hi
        rw [decide_eq_true_eq] at hi
        unfold Nm.le
        omega
      unfold settN settE
      rw [if_pos h, if_pos h, if_pos hi, if_pos hi]
      have hl := liftN_le (x := x) (k := 0) (by omega) hle
      have hlK : (liftN x 0).K = 0 := by unfold liftN; rw [if_neg (by omega), upN_K]; omega
      refine settle_low x.A x.B x.C x.D x.K (liftN x 0) (liftN x 0).least _ _ w h hi (fun w b T hb => lift_any _ 0 b T w hle (by omega) (by omega) hb (by omega)) (fun w => least_any' _ w ?_ (by omega)) ?_
      · unfold Nm.le at hl; unfold Nm.wide; omega
      · unfold fitN fitE
        by_cases hc : (liftN x 0).least.chk = 0
        · rw [if_pos hc, if_pos hc]
          exact Or.inl ⟨hc, rfl, rfl⟩
        · rw [if_neg hc, if_neg hc]
          exact Or.inr ⟨bne_iff_ne.2 hc, rfl, rfl⟩
    · unfold settN settE
      rw [if_pos h, if_pos h, if_neg hi, if_neg hi]
      exact settle_out _ _ _ _ _ w h (Bool.not_eq_true _ ▸ hi)
  · unfold settN settE
    rw [if_neg h, if_neg h]
    exact settle_any x.A x.B x.C x.D x.K w hx (by omega)
end Go.Proofs.YtcdmcndjbajhlaaGreatDoor
namespace Go.Proofs.YtcdmcndjbajhlaaGreatDoor
open Go.RowKit

set_option maxHeartbeats 2000000 in
theorem r_Omega (n : Nat) (w : World) (hn : n < 8) : Calls Tryz.prog 30 #[.int .i64 n] w (Gives (pw n).v w) := by
  have hm : ((n : Int) % 8 + 8) % 8 = n := by omega
  have hm0 : (n : Int) % 8 = n := by omega
  go_enter Tryz.func30, Tryz.ntmps30
  go_wp2_with fail
  go_loopw [4] (fun i wr => ∃ k : Nat, k ≤ n ∧ i = .int .i64 k ∧ Hid (Box wr w.heap.size 23 nul) ∧ Hid (Box wr (w.heap.size + 1) 23 (pw k)) ∧ Below w.heap.size w wr) (fun i _ => n - (intOf i).toNat)
  case atStart =>
    refine ⟨0, by omega, rfl, box_al (box_new w 0 0 0 0 0 _) _, ?_, (by repeat (first | with_reducible exact Below.refl _ _ | with_reducible refine below_al ?_ _ | with_reducible refine below_dN ?_ _ | with_reducible refine Below.drew ?_ | (with_reducible refine Below.setCell ?_ (by simp <;> omega) _) | (with_reducible refine below_via (by assumption) ?_)))⟩
    have h := box_new (w.alloc (.cells #[.int .i64 0, .int .i64 0, .int .i64 0, .int .i64 0, .int .i64 0] 23)) 1 0 0 0 0 23
    rw [World.size_alloc] at h
    exact h
  case round =>
    obtain ⟨k, hk, rfl, HZ, HX, hwr⟩ := hrel
    obtain ⟨c0, c1, c2, c3, c4⟩ := HX.out.cell
    obtain ⟨f0, f1, f2, f3, f4⟩ := HX.out.free
    obtain ⟨z0, z1, z2, z3, z4⟩ := HZ.out.cell
    obtain ⟨g0, g1, g2, g3, g4⟩ := HZ.out.free
    have hlt := HX.out.lt
    have hltz := HZ.out.lt
    obtain ⟨⟨p1, p2⟩, ⟨p3, p4⟩, ⟨p5, p6⟩, ⟨p7, p8⟩⟩ := pw_le k
    have hK := pw_K k
    rw [hK] at c4
    clear hK
    dsimp only at z0 z1 z2 z3 z4
    by_cases hkn : k < n
    · go_wp2_with fail
      have hbox := box_cells HX.out (pw (k + 1))
      go_roundw
      case rel => exact ⟨k + 1, by omega, by go_num, ((((HZ.out.other (by omega)).other (by omega)).other (by omega)).other (by omega)).other (by omega), hbox, (by repeat (first | with_reducible exact Below.refl _ _ | with_reducible refine below_al ?_ _ | with_reducible refine below_dN ?_ _ | with_reducible refine Below.drew ?_ | (with_reducible refine Below.setCell ?_ (by simp <;> omega) _) | (with_reducible refine below_via (by assumption) ?_)))⟩
      case measure => simp [intOf]; omega
    · have : k = n := by omega
      subst this
      have hv : (pw k).v = nv (pw k).A (pw k).B (pw k).C (pw k).D 0 := by unfold Nm.v; rw [pw_K]
      have HV := Lib.hid hv
      clear hv hm hm0
      go_wp2_with fail
      rw [HV.out]
      exact bodyPost_ret (v := nv (pw k).A (pw k).B (pw k).C (pw k).D 0) (by simp [results, Tryz.results30, go_sem, z0, z1, z2, z3, z4]) rfl ⟨rfl, (by repeat (first | with_reducible exact Below.refl _ _ | with_reducible refine below_al ?_ _ | with_reducible refine below_dN ?_ _ | with_reducible refine Below.drew ?_ | (with_reducible refine Below.setCell ?_ (by simp <;> omega) _) | (with_reducible refine below_via (by assumption) ?_)))⟩

theorem hit_first {x y : Nm} {n : Nat} (m : Nat) (h : hitN x y n = true) : firstHit x y (m + 1) n = some n := by rw [firstHit, if_pos h]
theorem hit_next {x y : Nm} {n : Nat} (m : Nat) (h : hitN x y n = false) : firstHit x y (m + 1) n = firstHit x y m (n + 1) := by rw [firstHit, if_neg (by rw [h]; simp)]
theorem mulN_pw_le {y : Nm} (n : Nat) (h : y.le 1073741824) : (mulN y (pw n)).le 4294967296 := le_mono (mulN_le h (pw_le n)) (by omega)
/-- What the reference's Phase returns. -/
def phaseV (x y : Nm) : Value := .tuple #[.int .i64 (if chk2 x y = 0 then (phaseR x y).1 else 0), .int .i64 (if chk2 x y = 0 then (phaseR x y).2 else chk2 x y)]
set_option maxHeartbeats 4000000 in
theorem r_Phase (x y : Nm) (w : World) : Calls Tryz.prog 56 #[x.v, y.v] w (Gives (phaseV x y) w) := by
  have hbx : InTwo w w.heap.size (w.heap.size + 1) x y ((w.alloc (.cells #[.int .i64 x.A, .int .i64 x.B, .int .i64 x.C, .int .i64 x.D, .int .i64 x.K] 23)).alloc (.cells #[.int .i64 y.A, .int .i64 y.B, .int .i64 y.C, .int .i64 y.D, .int .i64 y.K] 23)) := by
    refine ⟨(by repeat (first | with_reducible exact Below.refl _ _ | with_reducible refine below_al ?_ _ | with_reducible refine below_dN ?_ _ | with_reducible refine Below.drew ?_ | (with_reducible refine Below.setCell ?_ (by simp <;> omega) _) | (with_reducible refine below_via (by assumption) ?_))), box_al (box_new w _ _ _ _ _ _) _, ?_⟩
    have h := box_new (w.alloc (.cells #[.int .i64 x.A, .int .i64 x.B, .int .i64 x.C, .int .i64 x.D, .int .i64 x.K] 23)) y.A y.B y.C y.D y.K 23
    rw [World.size_alloc] at h
    exact h
  have HBX := Lib.hid hbx
  clear hbx
  have HC : Hid (∀ (b T : Nat) (w : World), Two w b T x y → Calls Tryz.prog 68 #[.slice (some ⟨b, 0, none⟩) 2 2] w (Gives (.int .i64 (chk2 x y)) w)) := fun b T w h => r_checks2 x y b T w h
  unfold phaseV
  by_cases h : chk2 x y = 0
  · rw [if_pos h, if_pos h]
    have h12 := chk2_ok h
    have hk1 := chk_ok (A := x.A) (B := x.B) (C := x.C) (D := x.D) (K := x.K) h12.1
    have hk2 := chk_ok (A := y.A) (B := y.B) (C := y.C) (D := y.D) (K := y.K) h12.2
    have HO : Hid (∀ (n : Nat), n < 8 → ∀ w, Calls Tryz.prog 30 #[.int .i64 n] w (Gives (pw n).v w)) := fun n hn w => r_Omega n w hn
    have HP : Hid (∀ (n : Nat) w, Calls Tryz.prog 88 #[y.v, (pw n).v] w (Gives (mulN y (pw n)).v w)) := fun n w => r_product y (pw n) _ 1 w (right_le h12.2) (pw_le n) (by omega) (by omega) (by rw [pw_K]; omega)
    have HE : Hid (∀ (n : Nat) w, Calls Tryz.prog 83 #[x.v, (mulN y (pw n)).v] w (Gives (.bool (hitN x y n)) w)) := fun n w => by
      have hK : (mulN y (pw n)).K = y.K + (pw n).K := rfl
      rw [pw_K] at hK
      exact r_equal x (mulN y (pw n)) w (right_wide h12.1) (le_wide (mulN_pw_le n (right_le h12.2)) (by omega)) (by omega) (by omega)
    rw [h] at HC
    have HF : Hid (firstHit x y 8 0 = firstHit x y 8 0) := rfl
    have HR : Hid (phaseR x y = match firstHit x y 8 0 with | some n => ((n : Int), 0) | none => (0, 6)) := rfl
    generalize phaseR x y = R at *
    generalize hF0 : firstHit x y 8 0 = F0 at HR
    have HF0 := Lib.hid hF0
    clear hF0 HF h h12 hk1 hk2
    go_enter Tryz.func56, Tryz.ntmps56
    go_wp2_with fail
    refine (HC.out _ _ _ (two_new2 w _ _ x y _)).mono ?_
    rintro e w1 ⟨rfl, hb⟩
    have h1 := Lib.hid ((HBX.out.al _).call hb)
    clear hb HBX HC
    go_wp2_with fail
    go_loopw [7] (fun i wr => ∃ k : Nat, k ≤ 8 ∧ i = .int .i64 k ∧ Hid (firstHit x y (8 - k) k = F0) ∧ Hid (InTwo w w.heap.size (w.heap.size + 1) x y wr)) (fun i _ => 8 - (intOf i).toNat)
    case atStart => exact ⟨0, by omega, rfl, HF0.out, h1.out⟩
    case round =>
      obtain ⟨k, hk, rfl, HK, HI⟩ := hrel
      clear h1
      by_cases hk8 : k < 8
      · cases hh : hitN x y k with
        | true =>
          have HEk : Hid (∀ w, Calls Tryz.prog 83 #[x.v, (mulN y (pw k)).v] w (Gives (.bool true) w)) := fun w => by rw [← hh]; exact HE.out k w
          have hr : R = ((k : Int), 0) := by
            have h2 := HK.out
            rw [show 8 - k = (7 - k) + 1 by omega, hit_first _ hh] at h2
            have h3 := HR.out
            rw [← h2] at h3
            exact h3
          have HRR := Lib.hid hr
          clear hr hh HE HR HK
          go_wp2_with fail
          refine region_fin (InTwo w w.heap.size (w.heap.size + 1) x y) 19 [x.v, y.v, .int .i64 k, (pw k).v, (mulN y (pw k)).v, .bool true, u25] 19 x.v (by as_aux_lemma => kernel_rfl) (by as_aux_lemma => kernel_rfl) (by as_aux_lemma => kernel_rfl) (outV_fin _ 6 (by as_aux_lemma => kernel_rfl) (Nat.le_of_ble_eq_true (by kernel_rfl)) (Nat.le_of_ble_eq_true (by kernel_rfl)) (by as_aux_lemma => kernel_rfl)) (HI.out.call (below_dN (Below.refl _ _) 1)) ?_ ?_
          rotate_left
          · refine eachOp_cons (ok_load (by kernel_rfl) (by kernel_rfl) (fun _ hC => load_num (b := w.heap.size) (x := x) rfl (by kernel_rfl) hC.2.1)) ?_
            refine eachOp_cons (ok_load (by kernel_rfl) (by kernel_rfl) (fun _ hC => load_num (b := w.heap.size + 1) (x := y) rfl (by kernel_rfl) hC.2.2)) ?_
            refine eachOp_cons (ok_val (by kernel_rfl) (by kernel_rfl) (fun _ => by kernel_rfl)) ?_
            refine eachOp_cons (ok_call 30 #[.int .i64 k] (by kernel_rfl) (by kernel_rfl) (fun _ => by kernel_rfl) (fun W hC => (HO.out k hk8 W).mono fun _ _ h => ⟨h.1, hC.call h.2⟩)) ?_
            refine eachOp_cons (ok_call 88 #[y.v, (pw k).v] (by kernel_rfl) (by kernel_rfl) (fun _ => by kernel_rfl) (fun W hC => (HP.out k W).mono fun _ _ h => ⟨h.1, hC.call h.2⟩)) ?_
            refine eachOp_cons (ok_call 83 #[x.v, (mulN y (pw k)).v] (by kernel_rfl) (by kernel_rfl) (fun _ => by kernel_rfl) (fun W hC => (HEk.out W).mono fun _ _ h => ⟨h.1, hC.call h.2⟩)) ?_
            exact eachOp_nil
          intro W hW
          rename_i hK
          refine hK _ _ ?_
          have HI2 := Lib.hid hW
          have hw2 := hW.1
          clear hW HI hK
          simp only [finA, List.take_succ_cons, List.take_zero, List.cons_append, List.nil_append, List.set_cons_succ, List.set_cons_zero]
          go_wp2_with fail
          rw [HRR.out]
          go_ret2
          exact ⟨rfl, hw2⟩
        | false =>
          have HEk : Hid (∀ w, Calls Tryz.prog 83 #[x.v, (mulN y (pw k)).v] w (Gives (.bool false) w)) := fun w => by rw [← hh]; exact HE.out k w
          have hn : firstHit x y (8 - (k + 1)) (k + 1) = F0 := by
            have h2 := HK.out
            rw [show 8 - k = (8 - (k + 1)) + 1 by omega, hit_next _ hh] at h2
            exact h2
          have HN := Lib.hid hn
          clear hn hh HE HR HK
          go_wp2_with fail
          refine region_fin (InTwo w w.heap.size (w.heap.size + 1) x y) 19 [x.v, y.v, .int .i64 k, (pw k).v, (mulN y (pw k)).v, .bool false, u25] 19 x.v (by as_aux_lemma => kernel_rfl) (by as_aux_lemma => kernel_rfl) (by as_aux_lemma => kernel_rfl) (outV_fin _ 6 (by as_aux_lemma => kernel_rfl) (Nat.le_of_ble_eq_true (by kernel_rfl)) (Nat.le_of_ble_eq_true (by kernel_rfl)) (by as_aux_lemma => kernel_rfl)) (HI.out.call (below_dN (Below.refl _ _) 1)) ?_ ?_
          rotate_left
          · refine eachOp_cons (ok_load (by kernel_rfl) (by kernel_rfl) (fun _ hC => load_num (b := w.heap.size) (x := x) rfl (by kernel_rfl) hC.2.1)) ?_
            refine eachOp_cons (ok_load (by kernel_rfl) (by kernel_rfl) (fun _ hC => load_num (b := w.heap.size + 1) (x := y) rfl (by kernel_rfl) hC.2.2)) ?_
            refine eachOp_cons (ok_val (by kernel_rfl) (by kernel_rfl) (fun _ => by kernel_rfl)) ?_
            refine eachOp_cons (ok_call 30 #[.int .i64 k] (by kernel_rfl) (by kernel_rfl) (fun _ => by kernel_rfl) (fun W hC => (HO.out k hk8 W).mono fun _ _ h => ⟨h.1, hC.call h.2⟩)) ?_
            refine eachOp_cons (ok_call 88 #[y.v, (pw k).v] (by kernel_rfl) (by kernel_rfl) (fun _ => by kernel_rfl) (fun W hC => (HP.out k W).mono fun _ _ h => ⟨h.1, hC.call h.2⟩)) ?_
            refine eachOp_cons (ok_call 83 #[x.v, (mulN y (pw k)).v] (by kernel_rfl) (by kernel_rfl) (fun _ => by kernel_rfl) (fun W hC => (HEk.out W).mono fun _ _ h => ⟨h.1, hC.call h.2⟩)) ?_
            exact eachOp_nil
          intro W hW
          rename_i hK
          refine hK _ _ ?_
          have HI2 := Lib.hid hW
          have hw2 := hW.1
          clear hW HI hK
          simp only [finA, List.take_succ_cons, List.take_zero, List.cons_append, List.nil_append, List.set_cons_succ, List.set_cons_zero]
          go_wp2_with fail
          go_roundw
          case rel => exact ⟨k + 1, by omega, by go_num, HN.out, HI2.out⟩
          case measure => simp [intOf]; omega
      · have : k = 8 := by omega
        subst this
        have hr : R = (0, 6) := by
          have h2 := HK.out
          have h3 := HR.out
          rw [← h2] at h3
          exact h3
        have HRR := Lib.hid hr
        have hw := HI.out.1
        clear hr HR HK
        go_wp2_with fail
        rw [HRR.out]
        go_ret2
        exact ⟨rfl, hw⟩
  · have h2 : (chk2 x y != 0) = true := bne_iff_ne.2 h
    rw [if_neg h, if_neg h]
    generalize chk2 x y = q at *
    clear h
    go_enter Tryz.func56, Tryz.ntmps56
    go_wp2_with fail
    refine (HC.out _ _ _ (two_new2 w _ _ x y _)).mono ?_
    rintro e w1 ⟨rfl, hb⟩
    have h1 := (HBX.out.al _).call hb
    have hw1 := h1.1
    clear h1
    go_wp2_with fail
    go_ret2
    exact ⟨rfl, hw1⟩
end Go.Proofs.YtcdmcndjbajhlaaGreatDoor
namespace Go.Proofs.YtcdmcndjbajhlaaGreatDoor
open Go.RowKit

def mulV (x y : Nm) : Value := .tuple #[(jointN x y (mulN x y)).v, .int .i64 (jointE x y (mulN x y))]
set_option maxHeartbeats 4000000 in
theorem r_Mul (x y : Nm) (w : World) : Calls Tryz.prog 44 #[x.v, y.v] w (Gives (mulV x y) w) := by
  have hbx : InTwo w w.heap.size (w.heap.size + 1) x y ((w.alloc (.cells #[.int .i64 x.A, .int .i64 x.B, .int .i64 x.C, .int .i64 x.D, .int .i64 x.K] 23)).alloc (.cells #[.int .i64 y.A, .int .i64 y.B, .int .i64 y.C, .int .i64 y.D, .int .i64 y.K] 23)) := by
    refine ⟨(by repeat (first | with_reducible exact Below.refl _ _ | with_reducible refine below_al ?_ _ | with_reducible refine below_dN ?_ _ | with_reducible refine Below.drew ?_ | (with_reducible refine Below.setCell ?_ (by simp <;> omega) _) | (with_reducible refine below_via (by assumption) ?_))), box_al (box_new w _ _ _ _ _ _) _, ?_⟩
    have h := box_new (w.alloc (.cells #[.int .i64 x.A, .int .i64 x.B, .int .i64 x.C, .int .i64 x.D, .int .i64 x.K] 23)) y.A y.B y.C y.D y.K 23
    rw [World.size_alloc] at h
    exact h
  have HBX := Lib.hid hbx
  clear hbx
  have HC : Hid (∀ (b T : Nat) (w : World), Two w b T x y → Calls Tryz.prog 68 #[.slice (some ⟨b, 0, none⟩) 2 2] w (Gives (.int .i64 (chk2 x y)) w)) := fun b T w h => r_checks2 x y b T w h
  by_cases h : chk2 x y = 0
  · have h12 := chk2_ok h
    have hk1 := chk_ok (A := x.A) (B := x.B) (C := x.C) (D := x.D) (K := x.K) h12.1
    have hk2 := chk_ok (A := y.A) (B := y.B) (C := y.C) (D := y.D) (K := y.K) h12.2
    have hK : (mulN x y).K = x.K + y.K := rfl
    have hv : mulV x y = .tuple #[(fitN (mulN x y)).v, .int .i64 (fitE (mulN x y))] := by unfold mulV jointN jointE; rw [if_pos h, if_pos h]
    have HX : Hid (∀ w, Calls Tryz.prog 88 #[x.v, y.v] w (Gives (mulN x y).v w)) := fun w => r_product x y _ _ w (right_le h12.1) (right_le h12.2) (by omega) (by omega) (by omega)
    have HY : Hid (∀ w, Calls Tryz.prog 86 #[(mulN x y).v] w (Gives (.tuple #[(fitN (mulN x y)).v, .int .i64 (fitE (mulN x y))]) w)) := fun w => r_fits _ w (le_wide (mulN_le (right_le h12.1) (right_le h12.2)) (by omega)) (by omega)
    rw [hv]
    rw [h] at HC
    clear h12 h hk1 hk2 hK hv
    generalize fitN (mulN x y) = f at *
    generalize fitE (mulN x y) = q at *
    generalize mulN x y = v at *
    go_enter Tryz.func44, Tryz.ntmps44
    go_wp2_with fail
    refine (HC.out _ _ _ (two_new3 w _ _ _ x y _)).mono ?_
    rintro e w1 ⟨rfl, hb⟩
    have h1 : InAdd w x y w1 := by
      have h2 := ((HBX.out.al (.cells #[.int .i64 0, .int .i64 0, .int .i64 0, .int .i64 0, .int .i64 0] 23)).al _).call hb
      refine ⟨h2.1, h2.2.1, h2.2.2, ?_⟩
      have h := box_new ((w.alloc (.cells #[.int .i64 x.A, .int .i64 x.B, .int .i64 x.C, .int .i64 x.D, .int .i64 x.K] 23)).alloc (.cells #[.int .i64 y.A, .int .i64 y.B, .int .i64 y.C, .int .i64 y.D, .int .i64 y.K] 23)) 0 0 0 0 0 23
      simp only [World.size_alloc] at h
      exact (box_al h _).below hb (by simp <;> omega)
    clear hb HBX HC
    obtain ⟨c0, c1, c2, c3, c4⟩ := h1.2.1.cell
    obtain ⟨d0, d1, d2, d3, d4⟩ := h1.2.2.1.cell
    have hlt := h1.2.2.2.lt
    have HI := Lib.hid h1
    clear h1
    go_wp2_with fail
    refine (HX.out _).mono ?_
    rintro e w2 ⟨rfl, hb2⟩
    have HI2 := Lib.hid (HI.out.call hb2)
    clear c0 c1 c2 c3 c4 d0 d1 d2 d3 d4 hlt hb2 HI
    go_wp2_with fail
    refine (HY.out _).mono ?_
    rintro e w3 ⟨rfl, hb3⟩
    have h3 := HI2.out.call hb3
    clear hb3 HI2 HX HY
    obtain ⟨z0, z1, z2, z3, z4⟩ := h3.2.2.2.cell
    obtain ⟨g0, g1, g2, g3, g4⟩ := h3.2.2.2.free
    have hlt := h3.2.2.2.lt
    have hw2 := h3.1
    have hle3 : w.heap.size ≤ w.heap.size + 1 + 1 := by omega
    clear h3
    dsimp only at z0 z1 z2 z3 z4
    go_wp2_with fail
    exact bodyPost_ret (v := .tuple #[f.v, .int .i64 q]) (by simp [results, Tryz.results44, go_sem, z0, z1, z2, z3, z4]) rfl ⟨rfl, by first | exact hw2 | exact ((((hw2.setCell hle3 _).setCell hle3 _).setCell hle3 _).setCell hle3 _).setCell hle3 _⟩
  · have hv : mulV x y = .tuple #[nul.v, .int .i64 (chk2 x y)] := by unfold mulV jointN jointE; rw [if_neg h, if_neg h]
    have h2 : (chk2 x y != 0) = true := bne_iff_ne.2 h
    rw [hv]
    generalize chk2 x y = q at *
    clear h hv
    go_enter Tryz.func44, Tryz.ntmps44
    go_wp2_with fail
    refine (HC.out _ _ _ (two_new3 w _ _ _ x y _)).mono ?_
    rintro e w1 ⟨rfl, hb⟩
    have h1 : InAdd w x y w1 := by
      have h2 := ((HBX.out.al (.cells #[.int .i64 0, .int .i64 0, .int .i64 0, .int .i64 0, .int .i64 0] 23)).al _).call hb
      refine ⟨h2.1, h2.2.1, h2.2.2, ?_⟩
      have h := box_new ((w.alloc (.cells #[.int .i64 x.A, .int .i64 x.B, .int .i64 x.C, .int .i64 x.D, .int .i64 x.K] 23)).alloc (.cells #[.int .i64 y.A, .int .i64 y.B, .int .i64 y.C, .int .i64 y.D, .int .i64 y.K] 23)) 0 0 0 0 0 23
      simp only [World.size_alloc] at h
      exact (box_al h _).below hb (by simp <;> omega)
    clear hb HBX HC
    obtain ⟨z0, z1, z2, z3, z4⟩ := h1.2.2.2.cell
    obtain ⟨g0, g1, g2, g3, g4⟩ := h1.2.2.2.free
    have hlt := h1.2.2.2.lt
    have hw2 := h1.1
    have hle3 : w.heap.size ≤ w.heap.size + 1 + 1 := by omega
    clear h1
    dsimp only at z0 z1 z2 z3 z4
    go_wp2_with fail
    exact bodyPost_ret (v := .tuple #[nul.v, .int .i64 q]) (by simp [results, Tryz.results44, go_sem, z0, z1, z2, z3, z4]) rfl ⟨rfl, by first | exact hw2 | exact ((((hw2.setCell hle3 _).setCell hle3 _).setCell hle3 _).setCell hle3 _).setCell hle3 _⟩
end Go.Proofs.YtcdmcndjbajhlaaGreatDoor
