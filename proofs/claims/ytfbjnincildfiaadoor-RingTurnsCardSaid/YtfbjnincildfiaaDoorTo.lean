/- The reference's Norm. -/
import Derived.Test.YtfbjnincildfiaaDoorTd
import Derived.Test.YtfbjnincildfiaaDoorSs
set_option linter.all false
set_option maxRecDepth 100000
namespace Go.Proofs.YtfbjnincildfiaaDoor
open Go.RowKit

/-- The argument in its block, the result's block beside it: r once it is stored. -/
def Made (w : World) (bx br : Nat) (x r : Nm) (b : Bool) (W : World) : Prop := Below w.heap.size w W ∧ Box W bx 23 x ∧ Box W br 23 (if b = true then r else nul)
theorem Made.call {w W W' : World} {bx br : Nat} {x r : Nm} {b : Bool} (h : Made w bx br x r b W) (hb : Below W.heap.size W W') : Made w bx br x r b W' :=
  ⟨below_via hb h.1, h.2.1.below hb h.2.1.lt, h.2.2.below hb h.2.2.lt⟩
theorem Made.store {w W : World} {bx br : Nat} {x r : Nm} (h : Made w bx br x r false W) (hne : bx ≠ br) (hw : w.heap.size ≤ br) :
    Made w bx br x r true (((((W.setCell ⟨br, 0, none⟩ (.int .i64 r.A)).setCell ⟨br, 1, none⟩ (.int .i64 r.B)).setCell ⟨br, 2, none⟩ (.int .i64 r.C)).setCell ⟨br, 3, none⟩ (.int .i64 r.D)).setCell ⟨br, 4, none⟩ (.int .i64 r.K)) :=
  ⟨((((h.1.setCell hw _).setCell hw _).setCell hw _).setCell hw _).setCell hw _, ((((h.2.1.other hne).other hne).other hne).other hne).other hne, by rw [if_pos rfl]; exact box_cells h.2.2 r⟩

/-- What the reference's Norm returns. -/
def normV (x : Nm) : Value := .tuple #[(if x.chk = 0 then fitN (normN x) else nul).v, .int .i64 (if x.chk = 0 then fitE (normN x) else x.chk)]
theorem conjN_le {x : Nm} {M : Int} (h : x.le M) : (conjN x).le M := by unfold Nm.le conjN at *; dsimp only at *; omega

set_option maxHeartbeats 2000000 in
theorem r_Norm (x : Nm) (w : World) : Calls Tryd.prog 17 #[x.v] w (Gives (normV x) w) := by
  have HC : Hid (∀ w, Calls Tryd.prog 12 #[x.v] w (Gives (.int .i64 x.chk) w)) := fun w => r_check _ _ _ _ _ w
  unfold normV
  by_cases h : x.chk = 0
  · have hk := chk_ok (A := x.A) (B := x.B) (C := x.C) (D := x.D) (K := x.K) h
    have hw : x.wide := right_wide h
    have hl : x.le 1073741824 := right_le h
    have hlc := conjN_le hl
    have HJ : Hid (∀ w, Calls Tryd.prog 45 #[x.v] w (Gives (conjN x).v w)) := fun w => r_conjugate _ _ _ _ _ w hw
    have HP : Hid (∀ w, Calls Tryd.prog 47 #[x.v, (conjN x).v] w (Gives (normN x).v w)) := fun w => r_product x (conjN x) _ _ w hl hlc (by omega) (by omega) (by have e : (conjN x).K = x.K := rfl; omega)
    have HF : Hid (∀ w, Calls Tryd.prog 46 #[(normN x).v] w (Gives (.tuple #[(fitN (normN x)).v, .int .i64 (fitE (normN x))]) w)) := fun w => r_fits _ w (le_wide (mulN_le hl hlc) (by omega)) (by have e : (normN x).K = x.K + x.K := rfl; omega)
    rw [if_pos h, if_pos h]
    rw [h] at HC
    generalize fitN (normN x) = r at *
    generalize fitE (normN x) = q at *
    generalize normN x = n at *
    generalize conjN x = j at *
    clear h hk hw hl hlc
    go_enter Tryd.func17, Tryd.ntmps17
    go_wp2_with fail
    refine (HC.out _).mono ?_
    rintro e w1 ⟨rfl, hb⟩
    have hM : Made w w.heap.size (w.heap.size + 1) x r false w1 := by
      refine ⟨below_via hb (by repeat (first | with_reducible exact Below.refl _ _ | with_reducible refine below_al ?_ _ | with_reducible refine below_dN ?_ _ | with_reducible refine Below.drew ?_ | (with_reducible refine Below.setCell ?_ (by simp <;> omega) _) | (with_reducible refine below_via (by assumption) ?_))), (box_al (box_new w _ _ _ _ _ _) _).below hb (by simp <;> omega), ?_⟩
      rw [if_neg (by simp)]
      have h := box_new (w.alloc (.cells #[.int .i64 x.A, .int .i64 x.B, .int .i64 x.C, .int .i64 x.D, .int .i64 x.K] 23)) 0 0 0 0 0 23
      rw [World.size_alloc] at h
      exact h.below hb (by simp <;> omega)
    have HM := Lib.hid hM
    clear hM hb
    go_wp2_with fail
    refine region_store (Made w w.heap.size (w.heap.size + 1) x r) 7 11 [x.v, x.v, j.v, n.v, .tuple #[r.v, .int .i64 q], r.v, .int .i64 q] 3 (.int .i64 q) (by kernel_rfl) (by kernel_rfl) (by kernel_rfl) (by kernel_rfl) (by kernel_rfl) (HM.out.call (below_dN (Below.refl _ _) 1)) ?_ ?_
    · intro w' hC
      rename_i hK
      refine hK _ _ ?_
      refine wp_ret ?_
      have hz := hC.2.2
      rw [if_pos rfl] at hz
      obtain ⟨z0, z1, z2, z3, z4⟩ := hz.cell
      exact bodyPost_ret (v := .tuple #[r.v, .int .i64 q]) (by simp [results, Tryd.results17, go_sem, finA, z0, z1, z2, z3, z4]) rfl ⟨rfl, hC.1⟩
    refine eachOp_cons (okS_load (by kernel_rfl) (by kernel_rfl) (by kernel_rfl) (fun _ _ hC => load_num (b := w.heap.size) (x := x) rfl (by kernel_rfl) hC.2.1)) ?_
    refine eachOp_cons (okS_load (by kernel_rfl) (by kernel_rfl) (by kernel_rfl) (fun _ _ hC => load_num (b := w.heap.size) (x := x) rfl (by kernel_rfl) hC.2.1)) ?_
    refine eachOp_cons (okS_call 45 #[x.v] (by kernel_rfl) (by kernel_rfl) (by kernel_rfl) (fun _ => by kernel_rfl) (fun _ w' hC => (HJ.out w').mono fun _ _ h => ⟨h.1, hC.call h.2⟩)) ?_
    refine eachOp_cons (okS_call 47 #[x.v, j.v] (by kernel_rfl) (by kernel_rfl) (by kernel_rfl) (fun _ => by kernel_rfl) (fun _ w' hC => (HP.out w').mono fun _ _ h => ⟨h.1, hC.call h.2⟩)) ?_
    refine eachOp_cons (okS_call 46 #[n.v] (by kernel_rfl) (by kernel_rfl) (by kernel_rfl) (fun _ => by kernel_rfl) (fun _ w' hC => (HF.out w').mono fun _ _ h => ⟨h.1, hC.call h.2⟩)) ?_
    refine eachOp_cons (okS_val (by kernel_rfl) (by kernel_rfl) (by kernel_rfl) (fun _ => by kernel_rfl)) ?_
    refine eachOp_cons (okS_val (by kernel_rfl) (by kernel_rfl) (by kernel_rfl) (fun _ => by kernel_rfl)) ?_
    refine eachOp_cons (okS_store (by kernel_rfl) (by kernel_rfl) (by kernel_rfl) rfl (fun W hC => ⟨_, store_num (b := w.heap.size + 1) (x := nul) (y := r) rfl (by kernel_rfl) (by kernel_rfl) (by have h := hC.2.2; rwa [if_neg (by simp)] at h), hC.store (by omega) (by omega)⟩)) ?_
    refine eachOp_cons (okS_val (by kernel_rfl) (by kernel_rfl) (by kernel_rfl) (fun _ => by kernel_rfl)) ?_
    exact eachOp_nil
  · rw [if_neg h, if_neg h]
    have h2 : (x.chk != 0) = true := bne_iff_ne.2 h
    generalize x.chk = q at *
    obtain ⟨A, B, C, D, K⟩ := x
    go_enter Tryd.func17, Tryd.ntmps17
    go_wp2_with fail
    refine (HC.out _).mono ?_
    rintro e w1 ⟨rfl, hb⟩
    obtain ⟨hc, hf⟩ := bcell hb
    go_wp2_with fail
    exact bodyPost_ret (v := .tuple #[nul.v, .int .i64 q]) (by simp [results, Tryd.results17, go_sem, hc]) rfl ⟨rfl, (by repeat (first | with_reducible exact Below.refl _ _ | with_reducible refine below_al ?_ _ | with_reducible refine below_dN ?_ _ | with_reducible refine Below.drew ?_ | (with_reducible refine Below.setCell ?_ (by simp <;> omega) _) | (with_reducible refine below_via (by assumption) ?_)))⟩
end Go.Proofs.YtfbjnincildfiaaDoor
