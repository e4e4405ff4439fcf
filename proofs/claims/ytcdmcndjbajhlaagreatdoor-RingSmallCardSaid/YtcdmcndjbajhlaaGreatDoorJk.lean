/- The reference's Less. -/
import Derived.Test.YtcdmcndjbajhlaaGreatDoorJt
import Derived.Test.YtcdmcndjbajhlaaGreatDoorMa
import Derived.Test.YtcdmcndjbajhlaaGreatDoorJb
import Derived.Test.YtcdmcndjbajhlaaGreatDoorJc
set_option linter.all false
set_option maxRecDepth 100000
namespace Go.Proofs.YtcdmcndjbajhlaaGreatDoor
open Go.RowKit

def realV (x : Nm) : Value := .tuple #[.bool (if x.chk = 0 then realN x else false), .int .i64 x.chk]
set_option maxHeartbeats 2000000 in
theorem r_Real (x : Nm) (w : World) : Calls Tryz.prog 54 #[x.v] w (Gives (realV x) w) := by
  have HC : Hid (∀ w, Calls Tryz.prog 41 #[x.v] w (Gives (.int .i64 x.chk) w)) := fun w => r_check _ _ _ _ _ w
  unfold realV
  by_cases h : x.chk = 0
  · have hk := chk_ok (A := x.A) (B := x.B) (C := x.C) (D := x.D) (K := x.K) h
    have hw : x.wide := right_wide h
    have HT : Hid (∀ w, Calls Tryz.prog 91 #[x.v] w (Gives (conjN x).v w)) := fun w => r_conjugate _ _ _ _ _ w hw
    have HF : Hid (∀ w, Calls Tryz.prog 83 #[x.v, (conjN x).v] w (Gives (.bool (realN x)) w)) := fun w => by
      rw [← real_least (x := x) (by omega)]
      exact r_equal x (conjN x) w hw (conjN_wide hw) (by omega) (by have e : (conjN x).K = x.K := rfl; omega)
    rw [if_pos h, h]
    rw [h] at HC
    generalize realN x = r at *
    generalize conjN x = y at *
    clear h hk hw
    obtain ⟨A, B, C, D, K⟩ := x
    go_enter Tryz.func54, Tryz.ntmps54
    go_wp2_with fail
    refine (HC.out _).mono ?_
    rintro e w1 ⟨rfl, hb⟩
    obtain ⟨hc, hf⟩ := bcell hb
    have hw1 : Below w.heap.size w w1 := below_via hb (by repeat (first | with_reducible exact Below.refl _ _ | with_reducible refine below_al ?_ _ | with_reducible refine below_dN ?_ _ | with_reducible refine Below.drew ?_ | (with_reducible refine Below.setCell ?_ (by simp <;> omega) _) | (with_reducible refine below_via (by assumption) ?_)))
    have hx1 : Hid (Box w1 w.heap.size 23 ⟨A, B, C, D, K⟩) := (box_new w _ _ _ _ _ _).below hb (by simp <;> omega)
    go_wp2_with fail
    refine region_fin (fun W => Below w.heap.size w W ∧ Box W w.heap.size 23 ⟨A, B, C, D, K⟩) 10 [Nm.v ⟨A, B, C, D, K⟩, Nm.v ⟨A, B, C, D, K⟩, y.v, .bool r] 2 (.bool r) (by kernel_rfl) (by kernel_rfl) (by kernel_rfl) (by kernel_rfl) ⟨below_dN hw1 1, hx1.out⟩ ?_ ?_
    · intro w' hC
      rename_i hK
      refine hK _ _ ?_
      refine wp_ret ?_
      exact bodyPost_ret (v := .tuple #[.bool r, .int .i64 0]) (by kernel_rfl) rfl ⟨rfl, hC.1⟩
    refine eachOp_cons (ok_load (by kernel_rfl) (by kernel_rfl) (fun _ hC => load_num (b := w.heap.size) (x := ⟨A, B, C, D, K⟩) rfl (by kernel_rfl) hC.2)) ?_
    refine eachOp_cons (ok_load (by kernel_rfl) (by kernel_rfl) (fun _ hC => load_num (b := w.heap.size) (x := ⟨A, B, C, D, K⟩) rfl (by kernel_rfl) hC.2)) ?_
    refine eachOp_cons (ok_call 91 #[Nm.v ⟨A, B, C, D, K⟩] (by kernel_rfl) (by kernel_rfl) (fun _ => by kernel_rfl) (fun w' hC => (HT.out w').mono fun _ _ h => ⟨h.1, below_via h.2 hC.1, hC.2.below h.2 hC.2.lt⟩)) ?_
    refine eachOp_cons (ok_call 83 #[Nm.v ⟨A, B, C, D, K⟩, y.v] (by kernel_rfl) (by kernel_rfl) (fun _ => by kernel_rfl) (fun w' hC => (HF.out w').mono fun _ _ h => ⟨h.1, below_via h.2 hC.1, hC.2.below h.2 hC.2.lt⟩)) ?_
    refine eachOp_cons (ok_val (by kernel_rfl) (by kernel_rfl) (fun _ => by kernel_rfl)) ?_
    refine eachOp_cons (ok_val (by kernel_rfl) (by kernel_rfl) (fun _ => by kernel_rfl)) ?_
    exact eachOp_nil
  · rw [if_neg h]
    have h2 : (x.chk != 0) = true := bne_iff_ne.2 h
    generalize x.chk = q at *
    obtain ⟨A, B, C, D, K⟩ := x
    go_enter Tryz.func54, Tryz.ntmps54
    go_wp2_with fail
    refine (HC.out _).mono ?_
    rintro e w1 ⟨rfl, hb⟩
    obtain ⟨hc, hf⟩ := bcell hb
    go_wp2_with fail
    go_ret2
    exact ⟨rfl, (by repeat (first | with_reducible exact Below.refl _ _ | with_reducible refine below_al ?_ _ | with_reducible refine below_dN ?_ _ | with_reducible refine Below.drew ?_ | (with_reducible refine Below.setCell ?_ (by simp <;> omega) _) | (with_reducible refine below_via (by assumption) ?_)))⟩
end Go.Proofs.YtcdmcndjbajhlaaGreatDoor
namespace Go.Proofs.YtcdmcndjbajhlaaGreatDoor
open Go.RowKit

/-- The three blocks of the reference's Add: both numbers and the result. -/
def InAdd (w : World) (x y : Nm) (W : World) : Prop := Below w.heap.size w W ∧ Box W w.heap.size 23 x ∧ Box W (w.heap.size + 1) 23 y ∧ Box W (w.heap.size + 1 + 1) 23 nul
theorem InAdd.call {w W W' : World} {x y : Nm} (h : InAdd w x y W) (hb : Below W.heap.size W W') : InAdd w x y W' :=
  ⟨below_via hb h.1, h.2.1.below hb h.2.1.lt, h.2.2.1.below hb h.2.2.1.lt, h.2.2.2.below hb h.2.2.2.lt⟩
def InAdd.cells {W : World} (b : Nat) (y : Nm) : World := ((((W.setCell ⟨b, 0, none⟩ (.int .i64 y.A)).setCell ⟨b, 1, none⟩ (.int .i64 y.B)).setCell ⟨b, 2, none⟩ (.int .i64 y.C)).setCell ⟨b, 3, none⟩ (.int .i64 y.D)).setCell ⟨b, 4, none⟩ (.int .i64 y.K)
theorem InAdd.first {w W : World} {x y : Nm} (h : InAdd w x y W) (r : Nm) : InAdd w r y (InAdd.cells (W := W) w.heap.size r) := by
  unfold InAdd.cells
  refine ⟨(((((h.1.setCell (Nat.le_refl _) _).setCell (Nat.le_refl _) _).setCell (Nat.le_refl _) _).setCell (Nat.le_refl _) _).setCell (Nat.le_refl _) _), box_cells h.2.1 r, ?_, ?_⟩
  · exact (((((h.2.2.1.other (by omega)).other (by omega)).other (by omega)).other (by omega)).other (by omega))
  · exact (((((h.2.2.2.other (by omega)).other (by omega)).other (by omega)).other (by omega)).other (by omega))
theorem InAdd.second {w W : World} {x y : Nm} (h : InAdd w x y W) (r : Nm) : InAdd w x r (InAdd.cells (W := W) (w.heap.size + 1) r) := by
  unfold InAdd.cells
  refine ⟨(((((h.1.setCell (Nat.le_succ _) _).setCell (Nat.le_succ _) _).setCell (Nat.le_succ _) _).setCell (Nat.le_succ _) _).setCell (Nat.le_succ _) _), ?_, box_cells h.2.2.1 r, ?_⟩
  · exact (((((h.2.1.other (by omega)).other (by omega)).other (by omega)).other (by omega)).other (by omega))
  · exact (((((h.2.2.2.other (by omega)).other (by omega)).other (by omega)).other (by omega)).other (by omega))
theorem InAdd.firstK {w W : World} {x y : Nm} (h : InAdd w x y W) (v : Int) : InAdd w ⟨x.A, x.B, x.C, x.D, v⟩ y (W.setCell ⟨w.heap.size, 4, none⟩ (.int .i64 v)) :=
  ⟨h.1.setCell (Nat.le_refl _) _, heap_set h.2.1, h.2.2.1.other (by omega), h.2.2.2.other (by omega)⟩
theorem InAdd.secondK {w W : World} {x y : Nm} (h : InAdd w x y W) (v : Int) : InAdd w x ⟨y.A, y.B, y.C, y.D, v⟩ (W.setCell ⟨w.heap.size + 1, 4, none⟩ (.int .i64 v)) :=
  ⟨h.1.setCell (Nat.le_succ _) _, h.2.1.other (by omega), heap_set h.2.2.1, h.2.2.2.other (by omega)⟩
theorem least_le {x : Nm} (h : x.le 1073741824) : x.least.le 1073741824 := by
  have h1 : x.inb 1073741824 = true := decide_eq_true (by unfold Nm.le at h; omega)
  have h2 := least_inb (by omega) h1
  simp only [Nm.inb, inb, decide_eq_true_eq] at h2
  unfold Nm.le; omega
theorem two_new3 (w : World) (a b c : Obj) (x y : Nm) (T : Nat) : Two ((((w.alloc a).alloc b).alloc c).alloc (.cells #[.int .i64 x.A, .int .i64 x.B, .int .i64 x.C, .int .i64 x.D, .int .i64 x.K, .int .i64 y.A, .int .i64 y.B, .int .i64 y.C, .int .i64 y.D, .int .i64 y.K] T)) (w.heap.size + 1 + 1 + 1) T x y := by
  have h := two_new2 (w.alloc a) b c x y T
  rw [World.size_alloc] at h
  exact h
def addV (x y : Nm) : Value := .tuple #[(jointN x y (addN x y)).v, .int .i64 (jointE x y (addN x y))]
set_option maxHeartbeats 4000000 in
theorem r_Add (x y : Nm) (w : World) : Calls Tryz.prog 42 #[x.v, y.v] w (Gives (addV x y) w) := by
  have hbx : InTwo w w.heap.size (w.heap.size + 1) x y ((w.alloc (.cells #[.int .i64 x.A, .int .i64 x.B, .int .i64 x.C, .int .i64 x.D, .int .i64 x.K] 23)).alloc (.cells #[.int .i64 y.A, .int .i64 y.B, .int .i64 y.C, .int .i64 y.D, .int .i64 y.K] 23)) := by
    refine ⟨(by repeat (first | with_reducible exact Below.refl _ _ | with_reducible refine below_al ?_ _ | with_reducible refine below_dN ?_ _ | with_reducible refine Below.drew ?_ | (with_reducible refine Below.setCell ?_ (by simp <;> omega) _) | (with_reducible refine below_via (by assumption) ?_))), box_al (box_new w _ _ _ _ _ _) _, ?_⟩
    have h := box_new (w.alloc (.cells #[.int .i64 x.A, .int .i64 x.B, .int .i64 x.C, .int .i64 x.D, .int .i64 x.K] 23)) y.A y.B y.C y.D y.K 23
    rw [World.size_alloc] at h
    exact h
  have HBX := Lib.hid hbx
  clear hbx
  have HC : Hid (∀ (b T : Nat) (w : World), Two w b T x y → Calls Tryz.prog 68 #[.slice (some ⟨b, 0, none⟩) 2 2] w (Gives (.int .i64 (chk2 x y)) w)) := fun b T w h => r_checks2 x y b T w h
  by_cases h : chk2 x y = 0
  · have hv : addV x y = .tuple #[(fitN (addN x y)).v, .int .i64 (fitE (addN x y))] := by unfold addV jointN jointE; rw [if_pos h, if_pos h]
    have h12 := chk2_ok h
    have hk1 := chk_ok (A := x.A) (B := x.B) (C := x.C) (D := x.D) (K := x.K) h12.1
    have hk2 := chk_ok (A := y.A) (B := y.B) (C := y.C) (D := y.D) (K := y.K) h12.2
    have HX : Hid (∀ w, Calls Tryz.prog 63 #[x.v] w (Gives x.least.v w)) := fun w => r_form x w (right_wide h12.1) (by omega)
    have HY : Hid (∀ w, Calls Tryz.prog 63 #[y.v] w (Gives y.least.v w)) := fun w => r_form y w (right_wide h12.2) (by omega)
    have hf := fit_addN (x := x) (y := y) (by omega) (by omega)
    rw [hv, ← hf.1, ← hf.2]
    rw [h] at HC
    have HP : Hid (x.le 1073741824 ∧ 0 ≤ x.K ∧ x.K ≤ 60 ∧ y.le 1073741824 ∧ 0 ≤ y.K ∧ y.K ≤ 60) := ⟨right_le h12.1, by omega, by omega, right_le h12.2, by omega, by omega⟩
    clear hv h12 hk1 hk2 hf h
    obtain ⟨r, hr⟩ : ∃ r, r = x.least := ⟨_, rfl⟩
    obtain ⟨s, hs⟩ : ∃ s, s = y.least := ⟨_, rfl⟩
    rw [← hr] at HX ⊢
    rw [← hs] at HY ⊢
    go_enter Tryz.func42, Tryz.ntmps42
    go_wp2_with fail
    refine (HC.out _ _ _ (two_new3 w _ _ _ x y _)).mono ?_
    rintro e w1 ⟨rfl, hb⟩
    have h1 : InAdd w x y w1 := by
      have h2 := ((HBX.out.al (.cells #[.int .i64 0, .int .i64 0, .int .i64 0, .int .i64 0, .int .i64 0] 23)).al _).call hb
      refine ⟨h2.1, h2.2.1, h2.2.2, ?_⟩
      have h := box_new ((w.alloc (.cells #[.int .i64 x.A, .int .i64 x.B, .int .i64 x.C, .int .i64 x.D, .int .i64 x.K] 23)).alloc (.cells #[.int .i64 y.A, .int .i64 y.B, .int .i64 y.C, .int .i64 y.D, .int .i64 y.K] 23)) 0 0 0 0 0 23
      simp only [World.size_alloc] at h
      exact (box_al h _).below hb (by simp <;> omega)
    clear hb HBX
    go_wp2_with fail
    refine region_stores (fun n W => InAdd w (match n with | 0 => x | _ => r) (match n with | 0 => y | 1 => y | _ => s) W) [4, 5] 15 [x.v, r.v, y.v, s.v, undef, undef, undef, undef, undef, undef, undef, undef, undef, undef, undef, undef, undef, undef, undef, undef, undef, undef, undef, undef, undef, undef, undef, undef, undef, undef, undef, undef, undef, undef, undef, undef, undef, undef, undef, undef, undef, undef, undef, undef, undef, undef, undef, undef, undef, undef, undef, undef] 15 x.v (by kernel_rfl) (by kernel_rfl) (by kernel_rfl) (outV_fin _ 4 (by kernel_rfl) (Nat.le_of_ble_eq_true (by kernel_rfl)) (Nat.le_of_ble_eq_true (by kernel_rfl)) (by kernel_rfl)) (by kernel_rfl) (h1.call (below_dN (Below.refl _ _) 1)) ?_ ?_
    rotate_left
    · clear h1
      refine eachOp_cons (okM_load (by kernel_rfl) (by kernel_rfl) (by kernel_rfl) rfl rfl (by kernel_rfl) (fun W hC => load_num (b := w.heap.size) (x := x) rfl (by kernel_rfl) hC.2.1)) ?_
      refine eachOp_cons (okM_call 63 #[x.v] (by kernel_rfl) (by kernel_rfl) (by kernel_rfl) (fun _ => by kernel_rfl) (fun n W hC => (HX.out W).mono fun _ _ h => ⟨h.1, hC.call h.2⟩)) ?_
      refine eachOp_cons (okM_read 1 (by kernel_rfl) (by kernel_rfl) (by kernel_rfl) rfl rfl (by kernel_rfl) (fun n W hn hC => load_num (b := w.heap.size + 1) (x := y) rfl (by kernel_rfl) (by match n, hn with | 0, _ => exact hC.2.2.1 | 1, _ => exact hC.2.2.1))) ?_
      refine eachOp_cons (okM_call 63 #[y.v] (by kernel_rfl) (by kernel_rfl) (by kernel_rfl) (fun _ => by kernel_rfl) (fun n W hC => (HY.out W).mono fun _ _ h => ⟨h.1, hC.call h.2⟩)) ?_
      refine eachOp_cons (okM_store 0 rfl (by kernel_rfl) (by kernel_rfl) rfl (fun W hC => ⟨_, store_num (b := w.heap.size) (y := r) rfl (by kernel_rfl) (by kernel_rfl) hC.2.1, hC.first r⟩)) ?_
      refine eachOp_cons (okM_store 1 rfl (by kernel_rfl) (by kernel_rfl) rfl (fun W hC => ⟨_, store_num (b := w.heap.size + 1) (y := s) rfl (by kernel_rfl) (by kernel_rfl) hC.2.2.1, hC.second s⟩)) ?_
      exact eachOp_nil
    intro W hW
    rename_i hK
    refine hK _ _ ?_
    replace hW : InAdd w r s W := hW
    simp only [finA, List.take_succ_cons, List.take_zero, List.cons_append, List.nil_append, List.set_cons_succ, List.set_cons_zero]
    clear hK HX HY HC h1
    have HR : Hid (r.le 1073741824 ∧ 0 ≤ r.K ∧ r.K ≤ 60 ∧ s.le 1073741824 ∧ 0 ≤ s.K ∧ s.K ≤ 60) := by
      obtain ⟨p1, p2, p3, p4, p5, p6⟩ := HP.out
      have q1 := least_K p2
      have q2 := least_K p5
      rw [← hr] at q1
      rw [← hs] at q2
      refine ⟨?_, q1.1, by omega, ?_, q2.1, by omega⟩
      · rw [hr]; exact least_le p1
      · rw [hs]; exact least_le p4
    clear HP hr hs
    have HW := Lib.hid hW
    clear hW
    go_wp2_with fail
    go_loopw [23] (fun _ wr => ∃ n : Nat, Hid (InAdd w (upN n r) s wr) ∧ Hid (r.K + n ≤ s.K ∨ n = 0)) (fun _ wr => s.K.toNat - kAt wr w.heap.size)
    case atStart => exact ⟨0, HW, .inr rfl⟩
    case round =>
      obtain ⟨n, HI, HN⟩ := hrel
      clear HW
      obtain ⟨z, hz⟩ : ∃ z, z = upN n r := ⟨_, rfl⟩
      have HZ := Lib.hid hz
      rw [← hz] at HI
      have hzK : z.K = r.K + n := by rw [hz, upN_K]
      have HZK := Lib.hid hzK
      clear hz hzK
      have HI2 := Lib.hid HI.out
      obtain ⟨a, b, c, d, k⟩ := z
      obtain ⟨c0, c1, c2, c3, c4⟩ := HI.out.2.1.cell
      obtain ⟨d0, d1, d2, d3, d4⟩ := HI.out.2.2.1.cell
      have hlt := HI.out.2.2.2.lt
      dsimp only at c0 c1 c2 c3 c4
      by_cases hk : k < s.K
      · have hle : Nm.le ⟨a, b, c, d, k⟩ 2305843009213693952 := by
          rw [HZ.out]
          have := HZK.out
          dsimp only at this
          exact le_mono (upN_le n (by have := HR.out; omega) HR.out.1) (by omega)
        have HT : Hid (∀ w, Calls Tryz.prog 85 #[nv a b c d k] w (Gives (timesK ⟨a, b, c, d, k⟩).v w)) := fun w => r_times a b c d k w hle
        have hup : Nm.up ⟨a, b, c, d, k⟩ = ⟨(timesK ⟨a, b, c, d, k⟩).A, (timesK ⟨a, b, c, d, k⟩).B, (timesK ⟨a, b, c, d, k⟩).C, (timesK ⟨a, b, c, d, k⟩).D, (timesK ⟨a, b, c, d, k⟩).K + 1⟩ := rfl
        have hhK : (timesK ⟨a, b, c, d, k⟩).K = k := rfl
        generalize timesK ⟨a, b, c, d, k⟩ = h at *
        have HUP := Lib.hid hup
        have HHK := Lib.hid hhK
        have hk2 : -1000 ≤ h.K := by have := HR.out; have := HZK.out; dsimp only at this; omega
        have hk3 : h.K ≤ 1000 := by have := HR.out; omega
        clear hup hhK hle
        go_wp2_with fail
        refine (HT.out _).mono ?_
        rintro e w2 ⟨rfl, hb2⟩
        have HI3 := Lib.hid (HI2.out.call hb2)
        clear c0 c1 c2 c3 c4 d0 d1 d2 d3 d4 hlt hb2
        obtain ⟨c0, c1, c2, c3, c4⟩ := HI3.out.2.1.cell
        obtain ⟨f0, f1, f2, f3, f4⟩ := HI3.out.2.1.free
        have hlt := HI3.out.2.2.2.lt
        dsimp only at c0 c1 c2 c3 c4
        go_wp2_with fail
        have hin := (HI3.out.first h).firstK (h.K + 1)
        unfold InAdd.cells at hin
        rw [← HUP.out, HZ.out, ← upN_one] at hin
        have hkm := kAt_box hin.2.1
        go_roundw
        case rel => exact ⟨n + 1, hin, .inl (by have := HZK.out; (try dsimp only at this); omega)⟩
        case measure =>
          rw [hkm, kAt_box HI2.out.2.1, upN_K]
          have := HZK.out
          have := HR.out
          dsimp only at *
          omega
      · have hM : k = max r.K s.K ∧ (⟨a, b, c, d, k⟩ : Nm) = liftN r (max r.K s.K) := by
          have e1 := HZK.out
          have e2 := HN.out
          have e3 := HZ.out
          dsimp only at e1
          have e4 : k = max r.K s.K := by omega
          refine ⟨e4, ?_⟩
          unfold liftN
          split
          · have : n = 0 := by omega
            subst this
            exact e3
          · rw [e3]
            congr 1
            omega
        have HM := Lib.hid hM
        have HV := Lib.hid (by rw [hM.2]; exact liftN_le (by have := HR.out; omega) HR.out.1 : Nm.le ⟨a, b, c, d, k⟩ 1152921504606846976)
        clear hM HZ HZK HN HI
        go_wp2_with fail
        have HI2 := Lib.hid HI2.out
        clear c0 c1 c2 c3 c4 d0 d1 d2 d3 d4 hlt
        go_loopw [34] (fun _ wr => ∃ m : Nat, Hid (InAdd w ⟨a, b, c, d, k⟩ (upN m s) wr) ∧ Hid (s.K + m ≤ k ∨ m = 0)) (fun _ wr => k.toNat - kAt wr (w.heap.size + 1))
        case atStart => exact ⟨0, HI2, .inr rfl⟩
        case round =>
          obtain ⟨m, HI, HN⟩ := hrel
          clear HI2
          obtain ⟨z, hz⟩ : ∃ z, z = upN m s := ⟨_, rfl⟩
          have HZ := Lib.hid hz
          rw [← hz] at HI
          have hzK : z.K = s.K + m := by rw [hz, upN_K]
          have HZK := Lib.hid hzK
          clear hz hzK
          have HI2 := Lib.hid HI.out
          obtain ⟨a', b', c', d', k'⟩ := z
          obtain ⟨c0, c1, c2, c3, c4⟩ := HI.out.2.1.cell
          obtain ⟨d0, d1, d2, d3, d4⟩ := HI.out.2.2.1.cell
          have hlt := HI.out.2.2.2.lt
          dsimp only at c0 c1 c2 c3 c4 d0 d1 d2 d3 d4
          by_cases hk' : k' < k
          · have hle : Nm.le ⟨a', b', c', d', k'⟩ 2305843009213693952 := by
              rw [HZ.out]
              have := HZK.out
              have := HM.out.1
              (try dsimp only at *)
              exact le_mono (upN_le m (by have := HR.out; omega) HR.out.2.2.2.1) (by omega)
            have HT : Hid (∀ w, Calls Tryz.prog 85 #[nv a' b' c' d' k'] w (Gives (timesK ⟨a', b', c', d', k'⟩).v w)) := fun w => r_times a' b' c' d' k' w hle
            have hup : Nm.up ⟨a', b', c', d', k'⟩ = ⟨(timesK ⟨a', b', c', d', k'⟩).A, (timesK ⟨a', b', c', d', k'⟩).B, (timesK ⟨a', b', c', d', k'⟩).C, (timesK ⟨a', b', c', d', k'⟩).D, (timesK ⟨a', b', c', d', k'⟩).K + 1⟩ := rfl
            have hhK : (timesK ⟨a', b', c', d', k'⟩).K = k' := rfl
            generalize timesK ⟨a', b', c', d', k'⟩ = h at *
            have HUP := Lib.hid hup
            have HHK := Lib.hid hhK
            have hk2 : -1000 ≤ h.K := by have := HR.out; have := HZK.out; (try dsimp only at this); omega
            have hk3 : h.K ≤ 1000 := by have := HR.out; have := HM.out.1; omega
            clear hup hhK hle
            go_wp2_with fail
            refine (HT.out _).mono ?_
            rintro e w2 ⟨rfl, hb2⟩
            have HI3 := Lib.hid (HI2.out.call hb2)
            clear c0 c1 c2 c3 c4 d0 d1 d2 d3 d4 hlt hb2
            obtain ⟨c0, c1, c2, c3, c4⟩ := HI3.out.2.2.1.cell
            obtain ⟨f0, f1, f2, f3, f4⟩ := HI3.out.2.2.1.free
            have hlt := HI3.out.2.2.2.lt
            have hlt1 := HI3.out.2.2.1.lt
            dsimp only at c0 c1 c2 c3 c4
            go_wp2_with fail
            have hin := (HI3.out.second h).secondK (h.K + 1)
            unfold InAdd.cells at hin
            rw [← HUP.out, HZ.out, ← upN_one] at hin
            have hkm := kAt_box hin.2.2.1
            go_roundw
            case rel => exact ⟨m + 1, hin, .inl (by have := HZK.out; (try dsimp only at this); omega)⟩
            case measure =>
              rw [hkm, kAt_box HI2.out.2.2.1, upN_K]
              have := HZK.out
              have := HR.out
              have := HM.out.1
              dsimp only at *
              omega
          · have hM2 : k' = k ∧ (⟨a', b', c', d', k'⟩ : Nm) = liftN s (max r.K s.K) := by
              have e1 := HZK.out
              have e2 := HN.out
              have e3 := HZ.out
              have e5 := HM.out.1
              dsimp only at e1
              have e4 : k' = k := by omega
              refine ⟨e4, ?_⟩
              unfold liftN
              split
              · have : m = 0 := by omega
                subst this
                exact e3
              · rw [e3]
                congr 1
                omega
            have hV2 : Nm.le ⟨a', b', c', d', k'⟩ 1152921504606846976 := by rw [hM2.2]; exact liftN_le (by have := HR.out; omega) HR.out.2.2.2.1
            have hsum : (⟨a + a', b + b', c + c', d + d', k⟩ : Nm) = addN r s := by
              rw [addN_plus, ← HM.out.2, ← hM2.2, ← HM.out.1]
              rfl
            have hwd : Nm.wide ⟨a + a', b + b', c + c', d + d', k⟩ := by
              have := HV.out
              unfold Nm.le at hV2 this
              unfold Nm.wide
              dsimp only at *
              omega
            have HFt : Hid (∀ w, Calls Tryz.prog 86 #[nv (a + a') (b + b') (c + c') (d + d') k] w (Gives (.tuple #[(fitN (addN r s)).v, .int .i64 (fitE (addN r s))]) w)) := fun w => by
              rw [← hsum]
              exact r_fits ⟨a + a', b + b', c + c', d + d', k⟩ w hwd (by have := HM.out.1; have := HR.out; dsimp only; omega)
            obtain ⟨⟨v1, v2⟩, ⟨v3, v4⟩, ⟨v5, v6⟩, ⟨v7, v8⟩⟩ := HV.out
            obtain ⟨⟨u1, u2⟩, ⟨u3, u4⟩, ⟨u5, u6⟩, ⟨u7, u8⟩⟩ := hV2
            dsimp only at v1 v2 v3 v4 v5 v6 v7 v8 u1 u2 u3 u4 u5 u6 u7 u8
            clear hsum hwd hM2 HZ HZK HN HI
            generalize fitN (addN r s) = f at *
            generalize fitE (addN r s) = q at *
            go_wp2_with fail
            refine (HFt.out _).mono ?_
            rintro e w2 ⟨rfl, hb2⟩
            have HI3 := Lib.hid (HI2.out.call hb2)
            clear c0 c1 c2 c3 c4 d0 d1 d2 d3 d4 hlt hb2
            obtain ⟨z0, z1, z2, z3, z4⟩ := HI3.out.2.2.2.cell
            obtain ⟨g0, g1, g2, g3, g4⟩ := HI3.out.2.2.2.free
            have hlt := HI3.out.2.2.2.lt
            have hw2 := HI3.out.1
            have hle3 : w.heap.size ≤ w.heap.size + 1 + 1 := by omega
            dsimp only at z0 z1 z2 z3 z4
            go_wp2_with fail
            exact bodyPost_ret (v := .tuple #[f.v, .int .i64 q]) (by simp [results, Tryz.results42, go_sem, z0, z1, z2, z3, z4]) rfl ⟨rfl, by first | exact hw2 | exact ((((hw2.setCell hle3 _).setCell hle3 _).setCell hle3 _).setCell hle3 _).setCell hle3 _⟩
  · have hv : addV x y = .tuple #[nul.v, .int .i64 (chk2 x y)] := by unfold addV jointN jointE; rw [if_neg h, if_neg h]
    have h2 : (chk2 x y != 0) = true := bne_iff_ne.2 h
    rw [hv]
    generalize chk2 x y = q at *
    clear h hv
    go_enter Tryz.func42, Tryz.ntmps42
    go_wp2_with fail
    refine (HC.out _ _ _ (two_new3 w _ _ _ x y _)).mono ?_
    rintro e w1 ⟨rfl, hb⟩
    have h1 : InAdd w x y w1 := by
      have h2 := ((HBX.out.al (.cells #[.int .i64 0, .int .i64 0, .int .i64 0, .int .i64 0, .int .i64 0] 23)).al _).call hb
      refine ⟨h2.1, h2.2.1, h2.2.2, ?_⟩
      have h := box_new ((w.alloc (.cells #[.int .i64 x.A, .int .i64 x.B, .int .i64 x.C, .int .i64 x.D, .int .i64 x.K] 23)).alloc (.cells #[.int .i64 y.A, .int .i64 y.B, .int .i64 y.C, .int .i64 y.D, .int .i64 y.K] 23)) 0 0 0 0 0 23
      simp only [World.size_alloc] at h
      exact (box_al h _).below hb (by simp <;> omega)
    clear hb HBX HC
    obtain ⟨z0, z1, z2, z3, z4⟩ := h1.2.2.2.cell
    obtain ⟨g0, g1, g2, g3, g4⟩ := h1.2.2.2.free
    have hlt := h1.2.2.2.lt
    have hw2 := h1.1
    have hle3 : w.heap.size ≤ w.heap.size + 1 + 1 := by omega
    clear h1
    dsimp only at z0 z1 z2 z3 z4
    go_wp2_with fail
    exact bodyPost_ret (v := .tuple #[nul.v, .int .i64 q]) (by simp [results, Tryz.results42, go_sem, z0, z1, z2, z3, z4]) rfl ⟨rfl, by first | exact hw2 | exact ((((hw2.setCell hle3 _).setCell hle3 _).setCell hle3 _).setCell hle3 _).setCell hle3 _⟩
end Go.Proofs.YtcdmcndjbajhlaaGreatDoor
namespace Go.Proofs.YtcdmcndjbajhlaaGreatDoor
open Go.RowKit

def subV (x y : Nm) : Value := .tuple #[(jointN x y (subN x y)).v, .int .i64 (jointE x y (subN x y))]
theorem negN_chk (x : Nm) : (negN x).chk = x.chk := by
  unfold Nm.chk chk negN inb
  dsimp only
  have e : (-1073741824 ≤ -x.A ∧ -x.A ≤ 1073741824 ∧ -1073741824 ≤ -x.B ∧ -x.B ≤ 1073741824 ∧ -1073741824 ≤ -x.C ∧ -x.C ≤ 1073741824 ∧ -1073741824 ≤ -x.D ∧ -x.D ≤ 1073741824) ↔ (-1073741824 ≤ x.A ∧ x.A ≤ 1073741824 ∧ -1073741824 ≤ x.B ∧ x.B ≤ 1073741824 ∧ -1073741824 ≤ x.C ∧ x.C ≤ 1073741824 ∧ -1073741824 ≤ x.D ∧ x.D ≤ 1073741824) := by omega
  rw [decide_eq_decide.2 e]
theorem subV_add {x y : Nm} : addV x (negN y) = subV x y := by
  unfold addV subV jointN jointE chk2 subN
  rw [negN_chk]
set_option maxHeartbeats 4000000 in
theorem r_Sub (x y : Nm) (w : World) : Calls Tryz.prog 43 #[x.v, y.v] w (Gives (subV x y) w) := by
  have hbx : InTwo w w.heap.size (w.heap.size + 1) x y ((w.alloc (.cells #[.int .i64 x.A, .int .i64 x.B, .int .i64 x.C, .int .i64 x.D, .int .i64 x.K] 23)).alloc (.cells #[.int .i64 y.A, .int .i64 y.B, .int .i64 y.C, .int .i64 y.D, .int .i64 y.K] 23)) := by
    refine ⟨(by repeat (first | with_reducible exact Below.refl _ _ | with_reducible refine below_al ?_ _ | with_reducible refine below_dN ?_ _ | with_reducible refine Below.drew ?_ | (with_reducible refine Below.setCell ?_ (by simp <;> omega) _) | (with_reducible refine below_via (by assumption) ?_))), box_al (box_new w _ _ _ _ _ _) _, ?_⟩
    have h := box_new (w.alloc (.cells #[.int .i64 x.A, .int .i64 x.B, .int .i64 x.C, .int .i64 x.D, .int .i64 x.K] 23)) y.A y.B y.C y.D y.K 23
    rw [World.size_alloc] at h
    exact h
  have HBX := Lib.hid hbx
  clear hbx
  have HC : Hid (∀ (b T : Nat) (w : World), Two w b T x y → Calls Tryz.prog 68 #[.slice (some ⟨b, 0, none⟩) 2 2] w (Gives (.int .i64 (chk2 x y)) w)) := fun b T w h => r_checks2 x y b T w h
  by_cases h : chk2 x y = 0
  · have h12 := chk2_ok h
    have HX : Hid (∀ w, Calls Tryz.prog 87 #[y.v] w (Gives (negN y).v w)) := fun w => r_negative y.A y.B y.C y.D y.K w (right_wide h12.2)
    have HY : Hid (∀ w, Calls Tryz.prog 42 #[x.v, (negN y).v] w (Gives (subV x y) w)) := fun w => by rw [← subV_add]; exact r_Add x (negN y) w
    rw [h] at HC
    clear h12 h
    unfold subV at *
    generalize jointN x y (subN x y) = f at *
    generalize jointE x y (subN x y) = q at *
    generalize negN y = v at *
    go_enter Tryz.func43, Tryz.ntmps43
    go_wp2_with fail
    refine (HC.out _ _ _ (two_new3 w _ _ _ x y _)).mono ?_
    rintro e w1 ⟨rfl, hb⟩
    have h1 : InAdd w x y w1 := by
      have h2 := ((HBX.out.al (.cells #[.int .i64 0, .int .i64 0, .int .i64 0, .int .i64 0, .int .i64 0] 23)).al _).call hb
      refine ⟨h2.1, h2.2.1, h2.2.2, ?_⟩
      have h := box_new ((w.alloc (.cells #[.int .i64 x.A, .int .i64 x.B, .int .i64 x.C, .int .i64 x.D, .int .i64 x.K] 23)).alloc (.cells #[.int .i64 y.A, .int .i64 y.B, .int .i64 y.C, .int .i64 y.D, .int .i64 y.K] 23)) 0 0 0 0 0 23
      simp only [World.size_alloc] at h
      exact (box_al h _).below hb (by simp <;> omega)
    clear hb HBX
    clear HC
    go_wp2_with fail
    have HI := Lib.hid h1
    clear h1
    refine region_stores (fun n W => Below w.heap.size w W ∧ Box W w.heap.size 23 x ∧ Box W (w.heap.size + 1) 23 y ∧ Box W (w.heap.size + 1 + 1) 23 (match n with | 0 => nul | _ => f)) [6] 15 [x.v, y.v, v.v, .tuple #[f.v, .int .i64 q], f.v, .int .i64 q] 5 (.int .i64 q) (by kernel_rfl) (by kernel_rfl) (by kernel_rfl) (by kernel_rfl) (by kernel_rfl) (HI.out.call (below_dN (Below.refl _ _) 1)) ?_ ?_
    rotate_left
    · refine eachOp_cons (okM_load (by kernel_rfl) (by kernel_rfl) (by kernel_rfl) rfl rfl (by kernel_rfl) (fun W hC => load_num (b := w.heap.size) (x := x) rfl (by kernel_rfl) hC.2.1)) ?_
      refine eachOp_cons (okM_load (by kernel_rfl) (by kernel_rfl) (by kernel_rfl) rfl rfl (by kernel_rfl) (fun W hC => load_num (b := w.heap.size + 1) (x := y) rfl (by kernel_rfl) hC.2.2.1)) ?_
      refine eachOp_cons (okM_call 87 #[y.v] (by kernel_rfl) (by kernel_rfl) (by kernel_rfl) (fun _ => by kernel_rfl) (fun n W hC => (HX.out W).mono fun _ _ h => ⟨h.1, below_via h.2 hC.1, hC.2.1.below h.2 hC.2.1.lt, hC.2.2.1.below h.2 hC.2.2.1.lt, hC.2.2.2.below h.2 hC.2.2.2.lt⟩)) ?_
      refine eachOp_cons (okM_call 42 #[x.v, v.v] (by kernel_rfl) (by kernel_rfl) (by kernel_rfl) (fun _ => by kernel_rfl) (fun n W hC => (HY.out W).mono fun _ _ h => ⟨h.1, below_via h.2 hC.1, hC.2.1.below h.2 hC.2.1.lt, hC.2.2.1.below h.2 hC.2.2.1.lt, hC.2.2.2.below h.2 hC.2.2.2.lt⟩)) ?_
      refine eachOp_cons (okM_val (by kernel_rfl) (by kernel_rfl) (by kernel_rfl) (fun _ => by kernel_rfl)) ?_
      refine eachOp_cons (okM_val (by kernel_rfl) (by kernel_rfl) (by kernel_rfl) (fun _ => by kernel_rfl)) ?_
      refine eachOp_cons (okM_store 0 rfl (by kernel_rfl) (by kernel_rfl) rfl (fun W hC => ⟨_, store_num (b := w.heap.size + 1 + 1) (y := f) rfl (by kernel_rfl) (by kernel_rfl) hC.2.2.2, (((((hC.1.setCell (Nat.le_add_right _ 2) _).setCell (Nat.le_add_right _ 2) _).setCell (Nat.le_add_right _ 2) _).setCell (Nat.le_add_right _ 2) _).setCell (Nat.le_add_right _ 2) _), (((((hC.2.1.other (by omega)).other (by omega)).other (by omega)).other (by omega)).other (by omega)), (((((hC.2.2.1.other (by omega)).other (by omega)).other (by omega)).other (by omega)).other (by omega)), box_cells hC.2.2.2 f⟩)) ?_
      refine eachOp_cons (okM_val (by kernel_rfl) (by kernel_rfl) (by kernel_rfl) (fun _ => by kernel_rfl)) ?_
      exact eachOp_nil
    intro W hW
    rename_i hK
    refine hK _ _ ?_
    obtain ⟨z0, z1, z2, z3, z4⟩ := hW.2.2.2.cell
    have hw2 := hW.1
    have hlt := hW.2.2.2.lt
    clear hW hK HX HY HI
    simp only [List.length_cons, List.length_nil, Nat.zero_add] at z0 z1 z2 z3 z4
    refine wp_ret ?_
    exact bodyPost_ret (v := .tuple #[f.v, .int .i64 q]) (by simp [results, Tryz.results43, go_sem, finA, z0, z1, z2, z3, z4]) rfl ⟨rfl, hw2⟩
  · have hv : subV x y = .tuple #[nul.v, .int .i64 (chk2 x y)] := by unfold subV jointN jointE; rw [if_neg h, if_neg h]
    have h2 : (chk2 x y != 0) = true := bne_iff_ne.2 h
    rw [hv]
    generalize chk2 x y = q at *
    clear h hv
    go_enter Tryz.func43, Tryz.ntmps43
    go_wp2_with fail
    refine (HC.out _ _ _ (two_new3 w _ _ _ x y _)).mono ?_
    rintro e w1 ⟨rfl, hb⟩
    have h1 : InAdd w x y w1 := by
      have h2 := ((HBX.out.al (.cells #[.int .i64 0, .int .i64 0, .int .i64 0, .int .i64 0, .int .i64 0] 23)).al _).call hb
      refine ⟨h2.1, h2.2.1, h2.2.2, ?_⟩
      have h := box_new ((w.alloc (.cells #[.int .i64 x.A, .int .i64 x.B, .int .i64 x.C, .int .i64 x.D, .int .i64 x.K] 23)).alloc (.cells #[.int .i64 y.A, .int .i64 y.B, .int .i64 y.C, .int .i64 y.D, .int .i64 y.K] 23)) 0 0 0 0 0 23
      simp only [World.size_alloc] at h
      exact (box_al h _).below hb (by simp <;> omega)
    clear hb HBX HC
    obtain ⟨z0, z1, z2, z3, z4⟩ := h1.2.2.2.cell
    obtain ⟨g0, g1, g2, g3, g4⟩ := h1.2.2.2.free
    have hlt := h1.2.2.2.lt
    have hw2 := h1.1
    have hle3 : w.heap.size ≤ w.heap.size + 1 + 1 := by omega
    clear h1
    dsimp only at z0 z1 z2 z3 z4
    go_wp2_with fail
    exact bodyPost_ret (v := .tuple #[nul.v, .int .i64 q]) (by simp [results, Tryz.results43, go_sem, z0, z1, z2, z3, z4]) rfl ⟨rfl, by first | exact hw2 | exact ((((hw2.setCell hle3 _).setCell hle3 _).setCell hle3 _).setCell hle3 _).setCell hle3 _⟩
end Go.Proofs.YtcdmcndjbajhlaaGreatDoor
namespace Go.Proofs.YtcdmcndjbajhlaaGreatDoor
open Go.RowKit

set_option maxHeartbeats 4000000 in
theorem r_Less_one (x y v u f : Nm) (q : Int) (by_ : Bool) (w : World)
    (HBX : Hid (InTwo w w.heap.size (w.heap.size + 1) x y ((w.alloc (.cells #[.int .i64 x.A, .int .i64 x.B, .int .i64 x.C, .int .i64 x.D, .int .i64 x.K] 23)).alloc (.cells #[.int .i64 y.A, .int .i64 y.B, .int .i64 y.C, .int .i64 y.D, .int .i64 y.K] 23))))
    (HC : Hid (∀ (b T : Nat) (w : World), Two w b T x y → Calls Tryz.prog 68 #[.slice (some ⟨b, 0, none⟩) 2 2] w (Gives (.int .i64 0) w)))
    (J1 : Hid (∀ w, Calls Tryz.prog 91 #[x.v] w (Gives v.v w)))
    (J2 : Hid (∀ w, Calls Tryz.prog 91 #[y.v] w (Gives u.v w)))
    (E1 : Hid (∀ w, Calls Tryz.prog 83 #[x.v, v.v] w (Gives (.bool false) w)))
    (E2 : Hid (∀ w, Calls Tryz.prog 83 #[y.v, u.v] w (Gives (.bool by_) w)))
    (HS : Hid (∀ w, Calls Tryz.prog 43 #[x.v, y.v] w (Gives (.tuple #[f.v, .int .i64 q]) w))) :
    Calls Tryz.prog 55 #[x.v, y.v] w (Gives (.tuple #[.bool false, .int .i64 7]) w) := by
  go_enter Tryz.func55, Tryz.ntmps55
  go_wp2_with fail
  refine (HC.out _ _ _ (two_new2 w _ _ x y _)).mono ?_
  rintro e w1 ⟨rfl, hb⟩
  have h1 := (HBX.out.al _).call hb
  clear hb HBX HC
  go_wp2_with fail
  have HI := Lib.hid h1
  clear h1
  refine region_fin (InTwo w w.heap.size (w.heap.size + 1) x y) 16 [x.v, x.v, v.v, .bool false, .bool true, .bool true, undef, undef, undef, undef, undef, .bool true, undef, undef, undef, undef, undef, undef, undef, undef, undef, undef, undef, undef, undef] 16 x.v (by kernel_rfl) (by kernel_rfl) (by kernel_rfl) (outV_fin _ 12 (by kernel_rfl) (Nat.le_of_ble_eq_true (by kernel_rfl)) (Nat.le_of_ble_eq_true (by kernel_rfl)) (by kernel_rfl)) (HI.out.call (below_dN (Below.refl _ _) 1)) ?_ ?_
  rotate_left
  · clear HI
    refine eachOp_cons (ok_load (by kernel_rfl) (by kernel_rfl) (fun _ hC => load_num (b := w.heap.size) (x := x) rfl (by kernel_rfl) hC.2.1)) ?_
    refine eachOp_cons (ok_load (by kernel_rfl) (by kernel_rfl) (fun _ hC => load_num (b := w.heap.size) (x := x) rfl (by kernel_rfl) hC.2.1)) ?_
    refine eachOp_cons (ok_call 91 #[x.v] (by kernel_rfl) (by kernel_rfl) (fun _ => by kernel_rfl) (fun W hC => (J1.out W).mono fun _ _ h => ⟨h.1, hC.call h.2⟩)) ?_
    refine eachOp_cons (ok_call 83 #[x.v, v.v] (by kernel_rfl) (by kernel_rfl) (fun _ => by kernel_rfl) (fun W hC => (E1.out W).mono fun _ _ h => ⟨h.1, hC.call h.2⟩)) ?_
    refine eachOp_cons (ok_val (by kernel_rfl) (by kernel_rfl) (fun _ => by kernel_rfl)) ?_
    refine eachOp_cons (ok_val (by kernel_rfl) (by kernel_rfl) (fun _ => by kernel_rfl)) ?_
    refine eachOp_cons (ok_skip (by kernel_rfl) (by kernel_rfl) (by kernel_rfl)) ?_
    refine eachOp_cons (ok_skip (by kernel_rfl) (by kernel_rfl) (by kernel_rfl)) ?_
    refine eachOp_cons (ok_skip (by kernel_rfl) (by kernel_rfl) (by kernel_rfl)) ?_
    refine eachOp_cons (ok_skip (by kernel_rfl) (by kernel_rfl) (by kernel_rfl)) ?_
    refine eachOp_cons (ok_skip (by kernel_rfl) (by kernel_rfl) (by kernel_rfl)) ?_
    refine eachOp_cons (ok_val (by kernel_rfl) (by kernel_rfl) (fun _ => by kernel_rfl)) ?_
    exact eachOp_nil
  intro W hW
  rename_i hK
  refine hK _ _ ?_
  have HI2 := Lib.hid hW
  have hw2 := hW.1
  clear hW HI
  simp only [finA, List.take_succ_cons, List.take_zero, List.cons_append, List.nil_append, List.set_cons_succ, List.set_cons_zero]
  go_wp2_with fail
  go_ret2
  exact ⟨rfl, hw2⟩
set_option maxHeartbeats 4000000 in
theorem r_Less_two (x y v u f : Nm) (q : Int) (by_ : Bool) (w : World)
    (HBX : Hid (InTwo w w.heap.size (w.heap.size + 1) x y ((w.alloc (.cells #[.int .i64 x.A, .int .i64 x.B, .int .i64 x.C, .int .i64 x.D, .int .i64 x.K] 23)).alloc (.cells #[.int .i64 y.A, .int .i64 y.B, .int .i64 y.C, .int .i64 y.D, .int .i64 y.K] 23))))
    (HC : Hid (∀ (b T : Nat) (w : World), Two w b T x y → Calls Tryz.prog 68 #[.slice (some ⟨b, 0, none⟩) 2 2] w (Gives (.int .i64 0) w)))
    (J1 : Hid (∀ w, Calls Tryz.prog 91 #[x.v] w (Gives v.v w)))
    (J2 : Hid (∀ w, Calls Tryz.prog 91 #[y.v] w (Gives u.v w)))
    (E1 : Hid (∀ w, Calls Tryz.prog 83 #[x.v, v.v] w (Gives (.bool true) w)))
    (E2 : Hid (∀ w, Calls Tryz.prog 83 #[y.v, u.v] w (Gives (.bool false) w)))
    (HS : Hid (∀ w, Calls Tryz.prog 43 #[x.v, y.v] w (Gives (.tuple #[f.v, .int .i64 q]) w))) :
    Calls Tryz.prog 55 #[x.v, y.v] w (Gives (.tuple #[.bool false, .int .i64 7]) w) := by
  go_enter Tryz.func55, Tryz.ntmps55
  go_wp2_with fail
  refine (HC.out _ _ _ (two_new2 w _ _ x y _)).mono ?_
  rintro e w1 ⟨rfl, hb⟩
  have h1 := (HBX.out.al _).call hb
  clear hb HBX HC
  go_wp2_with fail
  have HI := Lib.hid h1
  clear h1
  refine region_fin (InTwo w w.heap.size (w.heap.size + 1) x y) 16 [x.v, x.v, v.v, .bool true, .bool false, .bool false, y.v, y.v, u.v, .bool false, .bool true, .bool true, undef, undef, undef, undef, undef, undef, undef, undef, undef, undef, undef, undef, undef] 16 x.v (by kernel_rfl) (by kernel_rfl) (by kernel_rfl) (outV_fin _ 12 (by kernel_rfl) (Nat.le_of_ble_eq_true (by kernel_rfl)) (Nat.le_of_ble_eq_true (by kernel_rfl)) (by kernel_rfl)) (HI.out.call (below_dN (Below.refl _ _) 1)) ?_ ?_
  rotate_left
  · clear HI
    refine eachOp_cons (ok_load (by kernel_rfl) (by kernel_rfl) (fun _ hC => load_num (b := w.heap.size) (x := x) rfl (by kernel_rfl) hC.2.1)) ?_
    refine eachOp_cons (ok_load (by kernel_rfl) (by kernel_rfl) (fun _ hC => load_num (b := w.heap.size) (x := x) rfl (by kernel_rfl) hC.2.1)) ?_
    refine eachOp_cons (ok_call 91 #[x.v] (by kernel_rfl) (by kernel_rfl) (fun _ => by kernel_rfl) (fun W hC => (J1.out W).mono fun _ _ h => ⟨h.1, hC.call h.2⟩)) ?_
    refine eachOp_cons (ok_call 83 #[x.v, v.v] (by kernel_rfl) (by kernel_rfl) (fun _ => by kernel_rfl) (fun W hC => (E1.out W).mono fun _ _ h => ⟨h.1, hC.call h.2⟩)) ?_
    refine eachOp_cons (ok_val (by kernel_rfl) (by kernel_rfl) (fun _ => by kernel_rfl)) ?_
    refine eachOp_cons (ok_val (by kernel_rfl) (by kernel_rfl) (fun _ => by kernel_rfl)) ?_
    refine eachOp_cons (ok_load (by kernel_rfl) (by kernel_rfl) (fun _ hC => load_num (b := w.heap.size + 1) (x := y) rfl (by kernel_rfl) hC.2.2)) ?_
    refine eachOp_cons (ok_load (by kernel_rfl) (by kernel_rfl) (fun _ hC => load_num (b := w.heap.size + 1) (x := y) rfl (by kernel_rfl) hC.2.2)) ?_
    refine eachOp_cons (ok_call 91 #[y.v] (by kernel_rfl) (by kernel_rfl) (fun _ => by kernel_rfl) (fun W hC => (J2.out W).mono fun _ _ h => ⟨h.1, hC.call h.2⟩)) ?_
    refine eachOp_cons (ok_call 83 #[y.v, u.v] (by kernel_rfl) (by kernel_rfl) (fun _ => by kernel_rfl) (fun W hC => (E2.out W).mono fun _ _ h => ⟨h.1, hC.call h.2⟩)) ?_
    refine eachOp_cons (ok_val (by kernel_rfl) (by kernel_rfl) (fun _ => by kernel_rfl)) ?_
    refine eachOp_cons (ok_val (by kernel_rfl) (by kernel_rfl) (fun _ => by kernel_rfl)) ?_
    exact eachOp_nil
  intro W hW
  rename_i hK
  refine hK _ _ ?_
  have HI2 := Lib.hid hW
  have hw2 := hW.1
  clear hW HI
  simp only [finA, List.take_succ_cons, List.take_zero, List.cons_append, List.nil_append, List.set_cons_succ, List.set_cons_zero]
  go_wp2_with fail
  go_ret2
  exact ⟨rfl, hw2⟩
set_option maxHeartbeats 4000000 in
theorem r_Less_fits (x y v u f : Nm) (r : Bool) (w : World) (HN : Hid (∀ w, Calls Tryz.prog 97 #[f.v] w (Gives (.bool r) w)))
    (HBX : Hid (InTwo w w.heap.size (w.heap.size + 1) x y ((w.alloc (.cells #[.int .i64 x.A, .int .i64 x.B, .int .i64 x.C, .int .i64 x.D, .int .i64 x.K] 23)).alloc (.cells #[.int .i64 y.A, .int .i64 y.B, .int .i64 y.C, .int .i64 y.D, .int .i64 y.K] 23))))
    (HC : Hid (∀ (b T : Nat) (w : World), Two w b T x y → Calls Tryz.prog 68 #[.slice (some ⟨b, 0, none⟩) 2 2] w (Gives (.int .i64 0) w)))
    (J1 : Hid (∀ w, Calls Tryz.prog 91 #[x.v] w (Gives v.v w)))
    (J2 : Hid (∀ w, Calls Tryz.prog 91 #[y.v] w (Gives u.v w)))
    (E1 : Hid (∀ w, Calls Tryz.prog 83 #[x.v, v.v] w (Gives (.bool true) w)))
    (E2 : Hid (∀ w, Calls Tryz.prog 83 #[y.v, u.v] w (Gives (.bool true) w)))
    (HS : Hid (∀ w, Calls Tryz.prog 43 #[x.v, y.v] w (Gives (.tuple #[f.v, .int .i64 0]) w))) :
    Calls Tryz.prog 55 #[x.v, y.v] w (Gives (.tuple #[.bool r, .int .i64 0]) w) := by
  go_enter Tryz.func55, Tryz.ntmps55
  go_wp2_with fail
  refine (HC.out _ _ _ (two_new2 w _ _ x y _)).mono ?_
  rintro e w1 ⟨rfl, hb⟩
  have h1 := (HBX.out.al _).call hb
  clear hb HBX HC
  go_wp2_with fail
  have HI := Lib.hid h1
  clear h1
  refine region_fin (InTwo w w.heap.size (w.heap.size + 1) x y) 16 [x.v, x.v, v.v, .bool true, .bool false, .bool false, y.v, y.v, u.v, .bool true, .bool false, .bool false, undef, undef, undef, undef, undef, undef, undef, undef, undef, undef, undef, undef, undef] 16 x.v (by kernel_rfl) (by kernel_rfl) (by kernel_rfl) (outV_fin _ 12 (by kernel_rfl) (Nat.le_of_ble_eq_true (by kernel_rfl)) (Nat.le_of_ble_eq_true (by kernel_rfl)) (by kernel_rfl)) (HI.out.call (below_dN (Below.refl _ _) 1)) ?_ ?_
  rotate_left
  · clear HI
    refine eachOp_cons (ok_load (by kernel_rfl) (by kernel_rfl) (fun _ hC => load_num (b := w.heap.size) (x := x) rfl (by kernel_rfl) hC.2.1)) ?_
    refine eachOp_cons (ok_load (by kernel_rfl) (by kernel_rfl) (fun _ hC => load_num (b := w.heap.size) (x := x) rfl (by kernel_rfl) hC.2.1)) ?_
    refine eachOp_cons (ok_call 91 #[x.v] (by kernel_rfl) (by kernel_rfl) (fun _ => by kernel_rfl) (fun W hC => (J1.out W).mono fun _ _ h => ⟨h.1, hC.call h.2⟩)) ?_
    refine eachOp_cons (ok_call 83 #[x.v, v.v] (by kernel_rfl) (by kernel_rfl) (fun _ => by kernel_rfl) (fun W hC => (E1.out W).mono fun _ _ h => ⟨h.1, hC.call h.2⟩)) ?_
    refine eachOp_cons (ok_val (by kernel_rfl) (by kernel_rfl) (fun _ => by kernel_rfl)) ?_
    refine eachOp_cons (ok_val (by kernel_rfl) (by kernel_rfl) (fun _ => by kernel_rfl)) ?_
    refine eachOp_cons (ok_load (by kernel_rfl) (by kernel_rfl) (fun _ hC => load_num (b := w.heap.size + 1) (x := y) rfl (by kernel_rfl) hC.2.2)) ?_
    refine eachOp_cons (ok_load (by kernel_rfl) (by kernel_rfl) (fun _ hC => load_num (b := w.heap.size + 1) (x := y) rfl (by kernel_rfl) hC.2.2)) ?_
    refine eachOp_cons (ok_call 91 #[y.v] (by kernel_rfl) (by kernel_rfl) (fun _ => by kernel_rfl) (fun W hC => (J2.out W).mono fun _ _ h => ⟨h.1, hC.call h.2⟩)) ?_
    refine eachOp_cons (ok_call 83 #[y.v, u.v] (by kernel_rfl) (by kernel_rfl) (fun _ => by kernel_rfl) (fun W hC => (E2.out W).mono fun _ _ h => ⟨h.1, hC.call h.2⟩)) ?_
    refine eachOp_cons (ok_val (by kernel_rfl) (by kernel_rfl) (fun _ => by kernel_rfl)) ?_
    refine eachOp_cons (ok_val (by kernel_rfl) (by kernel_rfl) (fun _ => by kernel_rfl)) ?_
    exact eachOp_nil
  intro W hW
  rename_i hK
  refine hK _ _ ?_
  have HI2 := Lib.hid hW
  have hw2 := hW.1
  clear hW HI
  simp only [finA, List.take_succ_cons, List.take_zero, List.cons_append, List.nil_append, List.set_cons_succ, List.set_cons_zero]
  have hcells := HI2.out
  obtain ⟨c0, c1, c2, c3, c4⟩ := hcells.2.1.cell
  obtain ⟨d0, d1, d2, d3, d4⟩ := hcells.2.2.cell
  have hltx := hcells.2.1.lt
  have hlty := hcells.2.2.lt
  clear hcells
  go_wp2_with fail
  refine (HS.out _).mono ?_
  rintro e w2 ⟨rfl, hb2⟩
  have HI3 := Lib.hid (HI2.out.call hb2)
  clear c0 c1 c2 c3 c4 d0 d1 d2 d3 d4 hltx hlty
  have hw3 := HI3.out.1
  go_wp2_with fail
  refine (HN.out _).mono ?_
  rintro e w3 ⟨rfl, hb3⟩
  have hw4 := below_via hb3 (below_al hw3 _)
  go_wp2_with fail
  go_ret2
  exact ⟨rfl, hw4⟩
set_option maxHeartbeats 4000000 in
theorem r_Less_clash (x y v u f : Nm) (q : Int) (by_ : Bool) (w : World) (hq : (q == 0) = false)
    (HBX : Hid (InTwo w w.heap.size (w.heap.size + 1) x y ((w.alloc (.cells #[.int .i64 x.A, .int .i64 x.B, .int .i64 x.C, .int .i64 x.D, .int .i64 x.K] 23)).alloc (.cells #[.int .i64 y.A, .int .i64 y.B, .int .i64 y.C, .int .i64 y.D, .int .i64 y.K] 23))))
    (HC : Hid (∀ (b T : Nat) (w : World), Two w b T x y → Calls Tryz.prog 68 #[.slice (some ⟨b, 0, none⟩) 2 2] w (Gives (.int .i64 0) w)))
    (J1 : Hid (∀ w, Calls Tryz.prog 91 #[x.v] w (Gives v.v w)))
    (J2 : Hid (∀ w, Calls Tryz.prog 91 #[y.v] w (Gives u.v w)))
    (E1 : Hid (∀ w, Calls Tryz.prog 83 #[x.v, v.v] w (Gives (.bool true) w)))
    (E2 : Hid (∀ w, Calls Tryz.prog 83 #[y.v, u.v] w (Gives (.bool true) w)))
    (HS : Hid (∀ w, Calls Tryz.prog 43 #[x.v, y.v] w (Gives (.tuple #[f.v, .int .i64 q]) w))) :
    Calls Tryz.prog 55 #[x.v, y.v] w (Gives (.tuple #[.bool false, .int .i64 q]) w) := by
  go_enter Tryz.func55, Tryz.ntmps55
  go_wp2_with fail
  refine (HC.out _ _ _ (two_new2 w _ _ x y _)).mono ?_
  rintro e w1 ⟨rfl, hb⟩
  have h1 := (HBX.out.al _).call hb
  clear hb HBX HC
  go_wp2_with fail
  have HI := Lib.hid h1
  clear h1
  refine region_fin (InTwo w w.heap.size (w.heap.size + 1) x y) 16 [x.v, x.v, v.v, .bool true, .bool false, .bool false, y.v, y.v, u.v, .bool true, .bool false, .bool false, undef, undef, undef, undef, undef, undef, undef, undef, undef, undef, undef, undef, undef] 16 x.v (by kernel_rfl) (by kernel_rfl) (by kernel_rfl) (outV_fin _ 12 (by kernel_rfl) (Nat.le_of_ble_eq_true (by kernel_rfl)) (Nat.le_of_ble_eq_true (by kernel_rfl)) (by kernel_rfl)) (HI.out.call (below_dN (Below.refl _ _) 1)) ?_ ?_
  rotate_left
  · clear HI
    refine eachOp_cons (ok_load (by kernel_rfl) (by kernel_rfl) (fun _ hC => load_num (b := w.heap.size) (x := x) rfl (by kernel_rfl) hC.2.1)) ?_
    refine eachOp_cons (ok_load (by kernel_rfl) (by kernel_rfl) (fun _ hC => load_num (b := w.heap.size) (x := x) rfl (by kernel_rfl) hC.2.1)) ?_
    refine eachOp_cons (ok_call 91 #[x.v] (by kernel_rfl) (by kernel_rfl) (fun _ => by kernel_rfl) (fun W hC => (J1.out W).mono fun _ _ h => ⟨h.1, hC.call h.2⟩)) ?_
    refine eachOp_cons (ok_call 83 #[x.v, v.v] (by kernel_rfl) (by kernel_rfl) (fun _ => by kernel_rfl) (fun W hC => (E1.out W).mono fun _ _ h => ⟨h.1, hC.call h.2⟩)) ?_
    refine eachOp_cons (ok_val (by kernel_rfl) (by kernel_rfl) (fun _ => by kernel_rfl)) ?_
    refine eachOp_cons (ok_val (by kernel_rfl) (by kernel_rfl) (fun _ => by kernel_rfl)) ?_
    refine eachOp_cons (ok_load (by kernel_rfl) (by kernel_rfl) (fun _ hC => load_num (b := w.heap.size + 1) (x := y) rfl (by kernel_rfl) hC.2.2)) ?_
    refine eachOp_cons (ok_load (by kernel_rfl) (by kernel_rfl) (fun _ hC => load_num (b := w.heap.size + 1) (x := y) rfl (by kernel_rfl) hC.2.2)) ?_
    refine eachOp_cons (ok_call 91 #[y.v] (by kernel_rfl) (by kernel_rfl) (fun _ => by kernel_rfl) (fun W hC => (J2.out W).mono fun _ _ h => ⟨h.1, hC.call h.2⟩)) ?_
    refine eachOp_cons (ok_call 83 #[y.v, u.v] (by kernel_rfl) (by kernel_rfl) (fun _ => by kernel_rfl) (fun W hC => (E2.out W).mono fun _ _ h => ⟨h.1, hC.call h.2⟩)) ?_
    refine eachOp_cons (ok_val (by kernel_rfl) (by kernel_rfl) (fun _ => by kernel_rfl)) ?_
    refine eachOp_cons (ok_val (by kernel_rfl) (by kernel_rfl) (fun _ => by kernel_rfl)) ?_
    exact eachOp_nil
  intro W hW
  rename_i hK
  refine hK _ _ ?_
  have HI2 := Lib.hid hW
  have hw2 := hW.1
  clear hW HI
  simp only [finA, List.take_succ_cons, List.take_zero, List.cons_append, List.nil_append, List.set_cons_succ, List.set_cons_zero]
  have hcells := HI2.out
  obtain ⟨c0, c1, c2, c3, c4⟩ := hcells.2.1.cell
  obtain ⟨d0, d1, d2, d3, d4⟩ := hcells.2.2.cell
  have hltx := hcells.2.1.lt
  have hlty := hcells.2.2.lt
  clear hcells
  go_wp2_with fail
  refine (HS.out _).mono ?_
  rintro e w2 ⟨rfl, hb2⟩
  have HI3 := Lib.hid (HI2.out.call hb2)
  clear c0 c1 c2 c3 c4 d0 d1 d2 d3 d4 hltx hlty
  have hw3 := HI3.out.1
  go_wp2_with fail
  have hw4 := below_al hw3 (.cells #[.int .i64 f.A, .int .i64 f.B, .int .i64 f.C, .int .i64 f.D, .int .i64 f.K] 23)
  go_ret2
  exact ⟨rfl, hw4⟩

def lessV (x y : Nm) : Value := .tuple #[.bool (lessN x y), .int .i64 (lessE x y)]
set_option maxHeartbeats 4000000 in
theorem r_Less (x y : Nm) (w : World) : Calls Tryz.prog 55 #[x.v, y.v] w (Gives (lessV x y) w) := by
  have hbx : InTwo w w.heap.size (w.heap.size + 1) x y ((w.alloc (.cells #[.int .i64 x.A, .int .i64 x.B, .int .i64 x.C, .int .i64 x.D, .int .i64 x.K] 23)).alloc (.cells #[.int .i64 y.A, .int .i64 y.B, .int .i64 y.C, .int .i64 y.D, .int .i64 y.K] 23)) := by
    refine ⟨(by repeat (first | with_reducible exact Below.refl _ _ | with_reducible refine below_al ?_ _ | with_reducible refine below_dN ?_ _ | with_reducible refine Below.drew ?_ | (with_reducible refine Below.setCell ?_ (by simp <;> omega) _) | (with_reducible refine below_via (by assumption) ?_))), box_al (box_new w _ _ _ _ _ _) _, ?_⟩
    have h := box_new (w.alloc (.cells #[.int .i64 x.A, .int .i64 x.B, .int .i64 x.C, .int .i64 x.D, .int .i64 x.K] 23)) y.A y.B y.C y.D y.K 23
    rw [World.size_alloc] at h
    exact h
  have HBX := Lib.hid hbx
  clear hbx
  have HC : Hid (∀ (b T : Nat) (w : World), Two w b T x y → Calls Tryz.prog 68 #[.slice (some ⟨b, 0, none⟩) 2 2] w (Gives (.int .i64 (chk2 x y)) w)) := fun b T w h => r_checks2 x y b T w h
  unfold lessV lessN lessE
  by_cases h : chk2 x y = 0
  · have h12 := chk2_ok h
    have hk1 := chk_ok (A := x.A) (B := x.B) (C := x.C) (D := x.D) (K := x.K) h12.1
    have hk2 := chk_ok (A := y.A) (B := y.B) (C := y.C) (D := y.D) (K := y.K) h12.2
    have w1' : x.wide := right_wide h12.1
    have w2' : y.wide := right_wide h12.2
    have J1 : Hid (∀ w, Calls Tryz.prog 91 #[x.v] w (Gives (conjN x).v w)) := fun w => r_conjugate _ _ _ _ _ w w1'
    have J2 : Hid (∀ w, Calls Tryz.prog 91 #[y.v] w (Gives (conjN y).v w)) := fun w => r_conjugate _ _ _ _ _ w w2'
    have E1 : Hid (∀ w, Calls Tryz.prog 83 #[x.v, (conjN x).v] w (Gives (.bool (realN x)) w)) := fun w => by
      rw [← real_least (x := x) (by omega)]
      exact r_equal x (conjN x) w w1' (conjN_wide w1') (by omega) (by have e : (conjN x).K = x.K := rfl; omega)
    have E2 : Hid (∀ w, Calls Tryz.prog 83 #[y.v, (conjN y).v] w (Gives (.bool (realN y)) w)) := fun w => by
      rw [← real_least (x := y) (by omega)]
      exact r_equal y (conjN y) w w2' (conjN_wide w2') (by omega) (by have e : (conjN y).K = y.K := rfl; omega)
    have HS : Hid (∀ w, Calls Tryz.prog 43 #[x.v, y.v] w (Gives (subV x y) w)) := fun w => r_Sub x y w
    unfold subV at HS
    rw [h] at HC
    rw [if_pos h, if_pos h]
    by_cases r1 : realN x = true
    · rw [r1] at E1
      by_cases r2 : realN y = true
      · rw [r2] at E2
        have hr := And.intro r1 r2
        rw [if_pos hr, if_pos hr]
        by_cases hq : jointE x y (subN x y) = 0
        · have hi := joint_inb h hq
          simp only [Nm.inb, inb, decide_eq_true_eq] at hi
          rw [hq] at HS ⊢
          rw [if_pos rfl]
          exact r_Less_fits x y _ _ _ _ w (fun w => r_Negative _ _ _ _ _ w (by omega) (by omega)) HBX HC J1 J2 E1 E2 HS
        · rw [if_neg hq]
          exact r_Less_clash x y _ _ _ _ true w (beq_eq_false_iff_ne.2 hq) HBX HC J1 J2 E1 E2 HS
      · rw [Bool.not_eq_true] at r2
        rw [r2] at E2
        have hr : ¬ (realN x = true ∧ realN y = true) := fun h => by rw [r2] at h; exact absurd h.2 (by decide)
        rw [if_neg hr, if_neg hr]
        exact r_Less_two x y _ _ _ _ false w HBX HC J1 J2 E1 E2 HS
    · rw [Bool.not_eq_true] at r1
      rw [r1] at E1
      have hr : ¬ (realN x = true ∧ realN y = true) := fun h => by rw [r1] at h; exact absurd h.1 (by decide)
      rw [if_neg hr, if_neg hr]
      exact r_Less_one x y _ _ _ _ _ w HBX HC J1 J2 E1 E2 HS
  · have h2 : (chk2 x y != 0) = true := bne_iff_ne.2 h
    rw [if_neg h, if_neg h]
    generalize chk2 x y = q at *
    clear h
    go_enter Tryz.func55, Tryz.ntmps55
    go_wp2_with fail
    refine (HC.out _ _ _ (two_new2 w _ _ x y _)).mono ?_
    rintro e w1 ⟨rfl, hb⟩
    have h1 := (HBX.out.al _).call hb
    have hw1 := h1.1
    clear h1
    go_wp2_with fail
    go_ret2
    exact ⟨rfl, hw1⟩
end Go.Proofs.YtcdmcndjbajhlaaGreatDoor
