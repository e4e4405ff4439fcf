
/- The reference's Sub. -/
import Derived.Test.YtjalpolciofphaaDoorSd
set_option linter.all false
set_option maxRecDepth 100000
namespace Go.Proofs.YtjalpolciofphaaDoor
open Go.RowKit

def subV (x y : Nm) : Value := .tuple #[(jointN x y (subN x y)).v, .int .i64 (jointE x y (subN x y))]
theorem negN_chk (x : Nm) : (negN x).chk = x.chk := by
  unfold Nm.chk chk negN inb
  dsimp only
  have e : (-1073741824 ≤ -x.A ∧ -x.A ≤ 1073741824 ∧ -1073741824 ≤ -x.B ∧ -x.B ≤ 1073741824 ∧ -1073741824 ≤ -x.C ∧ -x.C ≤ 1073741824 ∧ -1073741824 ≤ -x.D ∧ -x.D ≤ 1073741824) ↔ (-1073741824 ≤ x.A ∧ x.A ≤ 1073741824 ∧ -1073741824 ≤ x.B ∧ x.B ≤ 1073741824 ∧ -1073741824 ≤ x.C ∧ x.C ≤ 1073741824 ∧ -1073741824 ≤ x.D ∧ x.D ≤ 1073741824) := by omega
  rw [decide_eq_decide.2 e]
theorem subV_add {x y : Nm} : addV x (negN y) = subV x y := by
  unfold addV subV jointN jointE chk2 subN
  rw [negN_chk]
set_option maxHeartbeats 4000000 in
theorem r_Sub (x y : Nm) (w : World) : Calls Tryd.prog 9 #[x.v, y.v] w (Gives (subV x y) w) := by
  have hbx : InTwo w w.heap.size (w.heap.size + 1) x y ((w.alloc (.cells #[.int .i64 x.A, .int .i64 x.B, .int .i64 x.C, .int .i64 x.D, .int .i64 x.K] 23)).alloc (.cells #[.int .i64 y.A, .int .i64 y.B, .int .i64 y.C, .int .i64 y.D, .int .i64 y.K] 23)) := by
    refine ⟨(by repeat (first | with_reducible exact Below.refl _ _ | with_reducible refine below_al ?_ _ | with_reducible refine below_dN ?_ _ | with_reducible refine Below.drew ?_ | (with_reducible refine Below.setCell ?_ (by simp <;> omega) _) | (with_reducible refine below_via (by assumption) ?_))), box_al (box_new w _ _ _ _ _ _) _, ?_⟩
    have h := box_new (w.alloc (.cells #[.int .i64 x.A, .int .i64 x.B, .int .i64 x.C, .int .i64 x.D, .int .i64 x.K] 23)) y.A y.B y.C y.D y.K 23
    rw [World.size_alloc] at h
    exact h
  have HBX := Lib.hid hbx
  clear hbx
  have HC : Hid (∀ (b T : Nat) (w : World), Two w b T x y → Calls Tryd.prog 35 #[.slice (some ⟨b, 0, none⟩) 2 2] w (Gives (.int .i64 (chk2 x y)) w)) := fun b T w h => r_checks2 x y b T w h
  by_cases h : chk2 x y = 0
  · have h12 := chk2_ok h
    have HX : Hid (∀ w, Calls Tryd.prog 39 #[y.v] w (Gives (negN y).v w)) := fun w => r_negative y.A y.B y.C y.D y.K w (right_wide h12.2)
    have HY : Hid (∀ w, Calls Tryd.prog 8 #[x.v, (negN y).v] w (Gives (subV x y) w)) := fun w => by rw [← subV_add]; exact r_Add x (negN y) w
    rw [h] at HC
    clear h12 h
    unfold subV at *
    generalize jointN x y (subN x y) = f at *
    generalize jointE x y (subN x y) = q at *
    generalize negN y = v at *
    go_enter Tryd.func9, Tryd.ntmps9
    go_wp2_with fail
    refine (HC.out _ _ _ (two_new3 w _ _ _ x y _)).mono ?_
    rintro e w1 ⟨rfl, hb⟩
    have h1 : InAdd w x y w1 := by
      have h2 := ((HBX.out.al (.cells #[.int .i64 0, .int .i64 0, .int .i64 0, .int .i64 0, .int .i64 0] 23)).al _).call hb
      refine ⟨h2.1, h2.2.1, h2.2.2, ?_⟩
      have h := box_new ((w.alloc (.cells #[.int .i64 x.A, .int .i64 x.B, .int .i64 x.C, .int .i64 x.D, .int .i64 x.K] 23)).alloc (.cells #[.int .i64 y.A, .int .i64 y.B, .int .i64 y.C, .int .i64 y.D, .int .i64 y.K] 23)) 0 0 0 0 0 23
      simp only [World.size_alloc] at h
      exact (box_al h _).below hb (by simp <;> omega)
    clear hb HBX
    clear HC
    go_wp2_with fail
    have HI := Lib.hid h1
    clear h1
    refine region_stores (fun n W => Below w.heap.size w W ∧ Box W w.heap.size 23 x ∧ Box W (w.heap.size + 1) 23 y ∧ Box W (w.heap.size + 1 + 1) 23 (match n with | 0 => nul | _ => f)) [6] 15 [x.v, y.v, v.v, .tuple #[f.v, .int .i64 q], f.v, .int .i64 q] 5 (.int .i64 q) (by kernel_rfl) (by kernel_rfl) (by kernel_rfl) (by kernel_rfl) (by kernel_rfl) (HI.out.call (below_dN (Below.refl _ _) 1)) ?_ ?_
    rotate_left
    · refine eachOp_cons (okM_load (by kernel_rfl) (by kernel_rfl) (by kernel_rfl) rfl rfl (by kernel_rfl) (fun W hC => load_num (b := w.heap.size) (x := x) rfl (by kernel_rfl) hC.2.1)) ?_
      refine eachOp_cons (okM_load (by kernel_rfl) (by kernel_rfl) (by kernel_rfl) rfl rfl (by kernel_rfl) (fun W hC => load_num (b := w.heap.size + 1) (x := y) rfl (by kernel_rfl) hC.2.2.1)) ?_
      refine eachOp_cons (okM_call 39 #[y.v] (by kernel_rfl) (by kernel_rfl) (by kernel_rfl) (fun _ => by kernel_rfl) (fun n W hC => (HX.out W).mono fun _ _ h => ⟨h.1, below_via h.2 hC.1, hC.2.1.below h.2 hC.2.1.lt, hC.2.2.1.below h.2 hC.2.2.1.lt, hC.2.2.2.below h.2 hC.2.2.2.lt⟩)) ?_
      refine eachOp_cons (okM_call 8 #[x.v, v.v] (by kernel_rfl) (by kernel_rfl) (by kernel_rfl) (fun _ => by kernel_rfl) (fun n W hC => (HY.out W).mono fun _ _ h => ⟨h.1, below_via h.2 hC.1, hC.2.1.below h.2 hC.2.1.lt, hC.2.2.1.below h.2 hC.2.2.1.lt, hC.2.2.2.below h.2 hC.2.2.2.lt⟩)) ?_
      refine eachOp_cons (okM_val (by kernel_rfl) (by kernel_rfl) (by kernel_rfl) (fun _ => by kernel_rfl)) ?_
      refine eachOp_cons (okM_val (by kernel_rfl) (by kernel_rfl) (by kernel_rfl) (fun _ => by kernel_rfl)) ?_
      refine eachOp_cons (okM_store 0 rfl (by kernel_rfl) (by kernel_rfl) rfl (fun W hC => ⟨_, store_num (b := w.heap.size + 1 + 1) (y := f) rfl (by kernel_rfl) (by kernel_rfl) hC.2.2.2, (((((hC.1.setCell (Nat.le_add_right _ 2) _).setCell (Nat.le_add_right _ 2) _).setCell (Nat.le_add_right _ 2) _).setCell (Nat.le_add_right _ 2) _).setCell (Nat.le_add_right _ 2) _), (((((hC.2.1.other (by omega)).other (by omega)).other (by omega)).other (by omega)).other (by omega)), (((((hC.2.2.1.other (by omega)).other (by omega)).other (by omega)).other (by omega)).other (by omega)), box_cells hC.2.2.2 f⟩)) ?_
      refine eachOp_cons (okM_val (by kernel_rfl) (by kernel_rfl) (by kernel_rfl) (fun _ => by kernel_rfl)) ?_
      exact eachOp_nil
    intro W hW
    rename_i hK
    refine hK _ _ ?_
    obtain ⟨z0, z1, z2, z3, z4⟩ := hW.2.2.2.cell
    have hw2 := hW.1
    have hlt := hW.2.2.2.lt
    clear hW hK HX HY HI
    simp only [List.length_cons, List.length_nil, Nat.zero_add] at z0 z1 z2 z3 z4
    refine wp_ret ?_
    exact bodyPost_ret (v := .tuple #[f.v, .int .i64 q]) (by simp [results, Tryd.results9, go_sem, finA, z0, z1, z2, z3, z4]) rfl ⟨rfl, hw2⟩
  · have hv : subV x y = .tuple #[nul.v, .int .i64 (chk2 x y)] := by unfold subV jointN jointE; rw [if_neg h, if_neg h]
    have h2 : (chk2 x y != 0) = true := bne_iff_ne.2 h
    rw [hv]
    generalize chk2 x y = q at *
    clear h hv
    go_enter Tryd.func9, Tryd.ntmps9
    go_wp2_with fail
    refine (HC.out _ _ _ (two_new3 w _ _ _ x y _)).mono ?_
    rintro e w1 ⟨rfl, hb⟩
    have h1 : InAdd w x y w1 := by
      have h2 := ((HBX.out.al (.cells #[.int .i64 0, .int .i64 0, .int .i64 0, .int .i64 0, .int .i64 0] 23)).al _).call hb
      refine ⟨h2.1, h2.2.1, h2.2.2, ?_⟩
      have h := box_new ((w.alloc (.cells #[.int .i64 x.A, .int .i64 x.B, .int .i64 x.C, .int .i64 x.D, .int .i64 x.K] 23)).alloc (.cells #[.int .i64 y.A, .int .i64 y.B, .int .i64 y.C, .int .i64 y.D, .int .i64 y.K] 23)) 0 0 0 0 0 23
      simp only [World.size_alloc] at h
      exact (box_al h _).below hb (by simp <;> omega)
    clear hb HBX HC
    obtain ⟨z0, z1, z2, z3, z4⟩ := h1.2.2.2.cell
    obtain ⟨g0, g1, g2, g3, g4⟩ := h1.2.2.2.free
    have hlt := h1.2.2.2.lt
    have hw2 := h1.1
    have hle3 : w.heap.size ≤ w.heap.size + 1 + 1 := by omega
    clear h1
    dsimp only at z0 z1 z2 z3 z4
    go_wp2_with fail
    exact bodyPost_ret (v := .tuple #[nul.v, .int .i64 q]) (by simp [results, Tryd.results9, go_sem, z0, z1, z2, z3, z4]) rfl ⟨rfl, by first | exact hw2 | exact ((((hw2.setCell hle3 _).setCell hle3 _).setCell hle3 _).setCell hle3 _).setCell hle3 _⟩
end Go.Proofs.YtjalpolciofphaaDoor
