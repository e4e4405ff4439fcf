
/- The reference's Real. -/
import Derived.Test.YtjalpolciofphaaDoorSa
import Derived.Test.YtjalpolciofphaaDoorMa
import Derived.Test.YtjalpolciofphaaDoorRe
set_option linter.all false
set_option maxRecDepth 100000
namespace Go.Proofs.YtjalpolciofphaaDoor
open Go.RowKit

def realV (x : Nm) : Value := .tuple #[.bool (if x.chk = 0 then realN x else false), .int .i64 x.chk]
set_option maxHeartbeats 2000000 in
theorem r_Real (x : Nm) (w : World) : Calls Tryd.prog 25 #[x.v] w (Gives (realV x) w) := by
  have HC : Hid (∀ w, Calls Tryd.prog 49 #[x.v] w (Gives (.int .i64 x.chk) w)) := fun w => r_check _ _ _ _ _ w
  unfold realV
  by_cases h : x.chk = 0
  · have hk := chk_ok (A := x.A) (B := x.B) (C := x.C) (D := x.D) (K := x.K) h
    have hw : x.wide := right_wide h
    have HT : Hid (∀ w, Calls Tryd.prog 58 #[x.v] w (Gives (conjN x).v w)) := fun w => r_conjugate _ _ _ _ _ w hw
    have HF : Hid (∀ w, Calls Tryd.prog 66 #[x.v, (conjN x).v] w (Gives (.bool (realN x)) w)) := fun w => by
      rw [← real_least (x := x) (by omega)]
      exact r_equal x (conjN x) w hw (conjN_wide hw) (by omega) (by have e : (conjN x).K = x.K := rfl; omega)
    rw [if_pos h, h]
    rw [h] at HC
    generalize realN x = r at *
    generalize conjN x = y at *
    clear h hk hw
    obtain ⟨A, B, C, D, K⟩ := x
    go_enter Tryd.func25, Tryd.ntmps25
    go_wp2_with fail
    refine (HC.out _).mono ?_
    rintro e w1 ⟨rfl, hb⟩
    obtain ⟨hc, hf⟩ := bcell hb
    have hw1 : Below w.heap.size w w1 := below_via hb (by repeat (first | with_reducible exact Below.refl _ _ | with_reducible refine below_al ?_ _ | with_reducible refine below_dN ?_ _ | with_reducible refine Below.drew ?_ | (with_reducible refine Below.setCell ?_ (by simp <;> omega) _) | (with_reducible refine below_via (by assumption) ?_)))
    have hx1 : Hid (Box w1 w.heap.size 23 ⟨A, B, C, D, K⟩) := (box_new w _ _ _ _ _ _).below hb (by simp <;> omega)
    go_wp2_with fail
    refine region_fin (fun W => Below w.heap.size w W ∧ Box W w.heap.size 23 ⟨A, B, C, D, K⟩) 10 [Nm.v ⟨A, B, C, D, K⟩, Nm.v ⟨A, B, C, D, K⟩, y.v, .bool r] 2 (.bool r) (by kernel_rfl) (by kernel_rfl) (by kernel_rfl) (by kernel_rfl) ⟨below_dN hw1 1, hx1.out⟩ ?_ ?_
    · intro w' hC
      rename_i hK
      refine hK _ _ ?_
      refine wp_ret ?_
      exact bodyPost_ret (v := .tuple #[.bool r, .int .i64 0]) (by kernel_rfl) rfl ⟨rfl, hC.1⟩
    refine eachOp_cons (ok_load (by kernel_rfl) (by kernel_rfl) (fun _ hC => load_num (b := w.heap.size) (x := ⟨A, B, C, D, K⟩) rfl (by kernel_rfl) hC.2)) ?_
    refine eachOp_cons (ok_load (by kernel_rfl) (by kernel_rfl) (fun _ hC => load_num (b := w.heap.size) (x := ⟨A, B, C, D, K⟩) rfl (by kernel_rfl) hC.2)) ?_
    refine eachOp_cons (ok_call 58 #[Nm.v ⟨A, B, C, D, K⟩] (by kernel_rfl) (by kernel_rfl) (fun _ => by kernel_rfl) (fun w' hC => (HT.out w').mono fun _ _ h => ⟨h.1, below_via h.2 hC.1, hC.2.below h.2 hC.2.lt⟩)) ?_
    refine eachOp_cons (ok_call 66 #[Nm.v ⟨A, B, C, D, K⟩, y.v] (by kernel_rfl) (by kernel_rfl) (fun _ => by kernel_rfl) (fun w' hC => (HF.out w').mono fun _ _ h => ⟨h.1, below_via h.2 hC.1, hC.2.below h.2 hC.2.lt⟩)) ?_
    refine eachOp_cons (ok_val (by kernel_rfl) (by kernel_rfl) (fun _ => by kernel_rfl)) ?_
    refine eachOp_cons (ok_val (by kernel_rfl) (by kernel_rfl) (fun _ => by kernel_rfl)) ?_
    exact eachOp_nil
  · rw [if_neg h]
    have h2 : (x.chk != 0) = true := bne_iff_ne.2 h
    generalize x.chk = q at *
    obtain ⟨A, B, C, D, K⟩ := x
    go_enter Tryd.func25, Tryd.ntmps25
    go_wp2_with fail
    refine (HC.out _).mono ?_
    rintro e w1 ⟨rfl, hb⟩
    obtain ⟨hc, hf⟩ := bcell hb
    go_wp2_with fail
    go_ret2
    exact ⟨rfl, (by repeat (first | with_reducible exact Below.refl _ _ | with_reducible refine below_al ?_ _ | with_reducible refine below_dN ?_ _ | with_reducible refine Below.drew ?_ | (with_reducible refine Below.setCell ?_ (by simp <;> omega) _) | (with_reducible refine below_via (by assumption) ?_)))⟩
end Go.Proofs.YtjalpolciofphaaDoor
