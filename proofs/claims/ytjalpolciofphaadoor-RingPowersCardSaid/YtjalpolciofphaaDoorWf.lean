
/- Contracts of package ring: dotted, norm, real, below0; Least, Neg, Conj, Dot, Norm, Mul. -/
import Derived.Test.YtjalpolciofphaaDoorWe
import Derived.Deep.RegionWith
set_option linter.all false
set_option maxRecDepth 100000
namespace Go.Proofs.YtjalpolciofphaaDoor
open Go.RowKit
attribute [local go_sem] run_eql_arr4 run_field_num

set_option maxHeartbeats 4000000 in
theorem dotted_any (A B C D K : Int) (w : World) (hx : Nm.wide ⟨A, B, C, D, K⟩) (hK : 0 ≤ K) :
    Calls Tryd.prog 80 #[nv A B C D K] w (Gives (dotN ⟨A, B, C, D, K⟩).v w) := by
  have HW := Lib.hid hx
  obtain ⟨⟨hA1, hA2⟩, ⟨hB1, hB2⟩, ⟨hC1, hC2⟩, ⟨hD1, hD2⟩⟩ := hx
  dsimp only at *
  by_cases he : K % 2 = 0
  · have hd : dotN ⟨A, B, C, D, K⟩ = ⟨A, -B, C, -D, K⟩ := by unfold dotN; rw [if_pos he]
    rw [hd]
    have g : (K % 2 != 0) = false := by rw [he]; rfl
    clear hd he
    go_enter Tryd.func80, Tryd.ntmps80
    go_wp2
    exact bodyPost_ret (v := nv A (-B) C (-D) K) (by simp [results, Tryd.results80, go_sem]) rfl ⟨rfl, (by repeat (first | with_reducible exact Below.refl _ _ | with_reducible refine below_al ?_ _ | with_reducible refine below_dN ?_ _ | with_reducible refine Below.drew ?_ | (with_reducible refine Below.setCell ?_ (by simp <;> omega) _) | (with_reducible refine below_via (by assumption) ?_)))⟩
  · have hd : dotN ⟨A, B, C, D, K⟩ = ⟨-A, B, -C, D, K⟩ := by unfold dotN; rw [if_neg he]
    rw [hd]
    have g : (K % 2 != 0) = true := bne_iff_ne.2 he
    clear hd he
    go_enter Tryd.func80, Tryd.ntmps80
    go_wp2_with fail
    refine (negative_any _ _ _ _ _ _ ⟨hA1, hA2⟩ (by omega) ⟨hC1, hC2⟩ (by omega)).mono ?_
    simp only [Int.neg_neg]
    rintro e w1 ⟨rfl, hb⟩
    obtain ⟨hc, hf⟩ := bcell hb
    go_wp2
    exact bodyPost_ret (v := nv (-A) B (-C) D K) (by simp [results, Tryd.results80, go_sem, hc]) rfl ⟨rfl, (by repeat (first | with_reducible exact Below.refl _ _ | with_reducible refine below_al ?_ _ | with_reducible refine below_dN ?_ _ | with_reducible refine Below.drew ?_ | (with_reducible refine Below.setCell ?_ (by simp <;> omega) _) | (with_reducible refine below_via (by assumption) ?_)))⟩

set_option maxHeartbeats 4000000 in
theorem norm_any (A B C D K M : Int) (w : World) (hx : Nm.le ⟨A, B, C, D, K⟩ M) (hM : M * M ≤ 1152921504606846976) (hM2 : M ≤ 1152921504606846976) (hK : 0 ≤ K ∧ K ≤ 1000) :
    Calls Tryd.prog 81 #[nv A B C D K] w (Gives (normN ⟨A, B, C, D, K⟩).v w) := by
  have HX := Lib.hid hx
  have HM := Lib.hid hM
  have HK := Lib.hid hK
  have hy : Nm.le ⟨A, -D, -C, -B, K⟩ M := by unfold Nm.le at *; dsimp only at *; omega
  have HY := Lib.hid hy
  have hw := le_wide hx (by omega)
  have HW := Lib.hid hw
  clear hx hM hK hy hw
  have HT : Hid (∀ w, Calls Tryd.prog 44 #[nv A B C D K, nv A (-D) (-C) (-B) K] w (Gives (normN ⟨A, B, C, D, K⟩).v w)) := by
    intro w
    have hk := HK.out
    exact times_any A B C D K A (-D) (-C) (-B) K M M w HX.out HY.out HM.out (by omega) (by omega)
  generalize normN ⟨A, B, C, D, K⟩ = r at *
  go_enter Tryd.func81, Tryd.ntmps81
  have HJ : Hid (∀ w, Calls Tryd.prog 83 #[nv A B C D K] w (Gives (nv A (-D) (-C) (-B) K) w)) := fun w => conjugate_any _ _ _ _ _ _ HW.out.2.1 HW.out.2.2.1 HW.out.2.2.2
  go_wp2_with fail
  go_region_with (first | (go_at_call 83; refine (HJ.out _).mono ?_; rintro e w1 ⟨rfl, hb⟩; obtain ⟨hc, hf⟩ := bcell hb; have hz := hb.size; simp at hz; have hz0 : w.heap.size < w1.heap.size := (by omega); have hz1 : w.heap.size + 1 < w1.heap.size := (by omega)) | (go_at_call 44; refine (HT.out _).mono ?_; rintro e w2 ⟨rfl, hb2⟩; obtain ⟨hc2, hf2⟩ := bcell hb2))
  all_goals
    go_wp2
    exact bodyPost_ret (v := r.v) (by simp [results, Tryd.results81, go_sem, hc2, hc, hz0, hz1]) rfl ⟨rfl, (by repeat (first | with_reducible exact Below.refl _ _ | with_reducible refine below_al ?_ _ | with_reducible refine below_dN ?_ _ | with_reducible refine Below.drew ?_ | (with_reducible refine Below.setCell ?_ (by simp <;> omega) _) | (with_reducible refine below_via (by assumption) ?_)))⟩

set_option maxHeartbeats 4000000 in
theorem Least_any (A B C D K : Int) (w : World) :
    Calls Tryd.prog 45 #[nv A B C D K] w (Gives (.tuple #[(if chk A B C D K = 0 then Nm.least ⟨A, B, C, D, K⟩ else nul).v, .int .i64 (chk A B C D K)]) w) := by
  by_cases h : chk A B C D K = 0
  · rw [if_pos h, h]
    have hr := chk_ok h
    have HL : Hid (∀ w, Calls Tryd.prog 62 #[nv A B C D K] w (Gives (Nm.least ⟨A, B, C, D, K⟩).v w)) := fun w => least_any A B C D K w (by unfold Nm.wide; dsimp only; omega) (by omega)
    have HC := Lib.hid h
    clear h hr
    generalize Nm.least ⟨A, B, C, D, K⟩ = r at *
    go_enter Tryd.func45, Tryd.ntmps45
    go_wp2_with fail
    refine (check_any _ _ _ _ _ _).mono ?_
    rw [HC.out]
    rintro e w1 ⟨rfl, hb⟩
    obtain ⟨hc, hf⟩ := bcell hb
    have hz0 : w.heap.size < w1.heap.size := by have := hb.size; simp at this; omega
    have hz1 : w.heap.size + 1 < w1.heap.size := by have := hb.size; simp at this; omega
    go_wp2_with fail
    refine (HL.out _).mono ?_
    rintro e w2 ⟨rfl, hb2⟩
    obtain ⟨hc2, hf2⟩ := bcell hb2
    dsimp only [Nm.v, nv]
    go_wp2_with fail
    exact bodyPost_ret (v := .tuple #[r.v, .int .i64 0]) (by simp [results, Tryd.results45, go_sem, hc2, hc, hz0, hz1]) rfl ⟨rfl, (by repeat (first | with_reducible exact Below.refl _ _ | with_reducible refine below_al ?_ _ | with_reducible refine below_dN ?_ _ | with_reducible refine Below.drew ?_ | (with_reducible refine Below.setCell ?_ (by simp <;> omega) _) | (with_reducible refine below_via (by assumption) ?_)))⟩
  · rw [if_neg h]
    have hb0 : (chk A B C D K != 0) = true := bne_iff_ne.2 h
    clear h
    have HC : Hid (∀ w, Calls Tryd.prog 50 #[nv A B C D K] w (Gives (.int .i64 (chk A B C D K)) w)) := fun w => check_any A B C D K w
    generalize chk A B C D K = q at *
    go_enter Tryd.func45, Tryd.ntmps45
    go_wp2_with fail
    refine (HC.out _).mono ?_
    rintro e w1 ⟨rfl, hb⟩
    obtain ⟨hc, hf⟩ := bcell hb
    go_wp2_with fail
    exact bodyPost_ret (v := .tuple #[nul.v, .int .i64 q]) (by simp [results, Tryd.results45, go_sem, hc]) rfl ⟨rfl, (by repeat (first | with_reducible exact Below.refl _ _ | with_reducible refine below_al ?_ _ | with_reducible refine below_dN ?_ _ | with_reducible refine Below.drew ?_ | (with_reducible refine Below.setCell ?_ (by simp <;> omega) _) | (with_reducible refine below_via (by assumption) ?_)))⟩
end Go.Proofs.YtjalpolciofphaaDoor
