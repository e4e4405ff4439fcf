
/- Contracts of package ring: least form. -/
import Derived.Test.YtjalpolciofphaaDoorWb
set_option linter.all false
set_option maxRecDepth 100000
namespace Go.Proofs.YtjalpolciofphaaDoor
open Go.RowKit

theorem box_new (w : World) (A B C D K : Int) (T : Nat) : Box (w.alloc (.cells #[.int .i64 A, .int .i64 B, .int .i64 C, .int .i64 D, .int .i64 K] T)) w.heap.size T ⟨A, B, C, D, K⟩ := heap_alloc_new _ _
theorem box_al {w : World} {b T : Nat} {x : Nm} (h : Box w b T x) (o : Obj) : Box (w.alloc o) b T x := by
  unfold Box; rw [Below.heap_alloc _ _ _ h.lt]; exact h

attribute [local go_sem] run_eql_arr4
theorem coef_eql (A B C D : Int) : eq4 A B C D 0 0 0 0 = decide (A = 0 ∧ B = 0 ∧ C = 0 ∧ D = 0) := rfl

set_option maxHeartbeats 4000000 in
theorem least_none (A B C D K : Int) (w : World) (hz : Nm.zero ⟨A, B, C, D, K⟩ = true) :
    Calls Tryd.prog 62 #[nv A B C D K] w (Gives nul.v w) := by
  have hz4 : eq4 A B C D 0 0 0 0 = true := hz
  clear hz
  go_enter Tryd.func62, Tryd.ntmps62
  go_wp2_with (go_at_call 70; refine (coefs_any _ _ _ _ _ _).mono ?_; rintro e w1 ⟨rfl, hb⟩; obtain ⟨hc, hf⟩ := bcell hb)
  exact bodyPost_ret (v := nul.v) (by simp [results, Tryd.results62, go_sem, hc]) rfl ⟨rfl, (by repeat (first | with_reducible exact Below.refl _ _ | with_reducible refine below_al ?_ _ | with_reducible refine below_dN ?_ _ | with_reducible refine Below.drew ?_ | (with_reducible refine Below.setCell ?_ (by simp <;> omega) _) | (with_reducible refine below_via (by assumption) ?_)))⟩

set_option maxHeartbeats 4000000 in
theorem least_some (A B C D K : Int) (w : World) (hx : Nm.wide ⟨A, B, C, D, K⟩) (hK : 0 ≤ K ∧ K ≤ 1000) (hz : Nm.zero ⟨A, B, C, D, K⟩ = false) :
    Calls Tryd.prog 62 #[nv A B C D K] w (Gives (form K.toNat ⟨A, B, C, D, K⟩).v w) := by
  have hz4 : eq4 A B C D 0 0 0 0 = false := hz
  clear hz
  obtain ⟨hK1, hK2⟩ := hK
  go_enter Tryd.func62, Tryd.ntmps62
  go_wp2_with (go_at_call 70; refine (coefs_any _ _ _ _ _ _).mono ?_; rintro e w1 ⟨rfl, hb⟩; obtain ⟨hc, hf⟩ := bcell hb)
  have bN : Box w1 w.heap.size 51 ⟨A, B, C, D, K⟩ := (box_al (box_new _ _ _ _ _ _ _) _).below hb (by simp; omega)
  have bR : Box w1 (w.heap.size + 1) 51 nul := by
    have h0 := box_new (w.alloc (.cells #[.int .i64 A, .int .i64 B, .int .i64 C, .int .i64 D, .int .i64 K] 51)) 0 0 0 0 0 51
    simp only [World.size_alloc] at h0
    exact h0.below hb (by simp)
  have hw1 : Below w.heap.size w w1 := (by repeat (first | with_reducible exact Below.refl _ _ | with_reducible refine below_al ?_ _ | with_reducible refine below_dN ?_ _ | with_reducible refine Below.drew ?_ | (with_reducible refine Below.setCell ?_ (by simp <;> omega) _) | (with_reducible refine below_via (by assumption) ?_)))
  clear hb hc hf
  go_loopw [13] (fun i wr => ∃ (k : Nat) (y : Nm), k ≤ K.toNat ∧ i = .int .i64 k ∧ y.wide ∧ y.K = K - k ∧ form (K.toNat - k) y = form K.toNat ⟨A, B, C, D, K⟩ ∧ Box wr w.heap.size 51 y ∧ Box wr (w.heap.size + 1) 51 nul ∧ Below w.heap.size w wr) (fun i _ => K.toNat - (intOf i).toNat)
  case atStart => exact ⟨0, ⟨A, B, C, D, K⟩, Nat.zero_le _, rfl, hx, by simp, rfl, bN, bR, hw1⟩
  case round =>
    clear bN bR hw1
    obtain ⟨k, y, hk, rfl, hy, hyK, hform, bN, bR, hwr⟩ := hrel
    have HF := Lib.hid hform
    have HYK := Lib.hid hyK
    have hyK1 : y.K ≤ K - k := by omega
    have hyK2 : K - k ≤ y.K := by omega
    clear hform hyK
    obtain ⟨c0, c1, c2, c3, c4⟩ := bN.cell
    obtain ⟨r0, r1, r2, r3, r4⟩ := bR.cell
    obtain ⟨q0, q1, q2, q3, q4⟩ := bR.free
    by_cases hlt : (k : Int) < K
    · have hk2 : K.toNat - k = (K.toNat - (k + 1)) + 1 := by omega
      cases he : y.even
      · have HR : Hid (form K.toNat ⟨A, B, C, D, K⟩ = y) := by rw [← HF.out, hk2, form, if_neg (by rw [he]; exact Bool.false_ne_true)]; exact (rfl : y = y)
        have HE := Lib.hid he
        clear he hk2
        go_wp2_with (go_at_call 82; refine (halve_no y _ 51 _ hy (by omega) bN HE.out).mono ?_; rintro e w2 ⟨rfl, ho, hb2⟩; obtain ⟨c0, c1, c2, c3, c4⟩ := hb2.cell; have bR2 := bR.only ho (by omega); obtain ⟨r0, r1, r2, r3, r4⟩ := bR2.cell; obtain ⟨q0, q1, q2, q3, q4⟩ := bR2.free; have h02 := ho.below (B := w.heap.size) (Nat.le_refl _))
        rw [HR.out]
        exact bodyPost_ret (v := y.v) (by simp [results, Tryd.results62, go_sem, r0, r1, r2, r3, r4]) rfl ⟨rfl, (Below.trans (Below.trans hwr h02) (by repeat (first | with_reducible exact Below.refl _ _ | with_reducible refine Below.alloc ?_ (by have := h02.size; have := hwr.size; simp <;> omega) _ | with_reducible refine below_dN ?_ _ | with_reducible refine Below.drew ?_ | (with_reducible refine Below.setCell ?_ (by simp <;> omega) _))))⟩
      · have hh : y.half.wide := Nm.wide_half hy he
        have HR : Hid (form (K.toNat - (k + 1)) y.half = form K.toNat ⟨A, B, C, D, K⟩) := by rw [← HF.out, hk2, form, if_pos he]; exact (rfl : form _ _ = form _ _)
        have HE := Lib.hid he
        clear he hk2
        go_wp2_with (go_at_call 82; refine (halve_yes y _ 51 _ hy (by omega) bN HE.out).mono ?_; rintro e w2 ⟨rfl, ho, hb2⟩)
        go_roundw
        case rel => exact ⟨k + 1, y.half, by omega, by go_num, hh, by have := HYK.out; simp only [Nm.half]; omega, HR.out, hb2, bR.only ho (by omega), hwr.trans (ho.below (Nat.le_refl _))⟩
        case measure => simp [intOf]; omega
    · have HR : Hid (form K.toNat ⟨A, B, C, D, K⟩ = y) := by
        have h1 := HF.out
        have h2 : K.toNat - k = 0 := by omega
        rw [h2] at h1
        exact h1.symm
      go_wp2
      rw [HR.out]
      exact bodyPost_ret (v := y.v) (by simp [results, Tryd.results62, go_sem, r0, r1, r2, r3, r4]) rfl ⟨rfl, (Below.trans hwr (by repeat (first | with_reducible exact Below.refl _ _ | with_reducible refine Below.alloc ?_ (by have := h02.size; have := hwr.size; simp <;> omega) _ | with_reducible refine below_dN ?_ _ | with_reducible refine Below.drew ?_ | (with_reducible refine Below.setCell ?_ (by simp <;> omega) _))))⟩

theorem least_any (A B C D K : Int) (w : World) (hx : Nm.wide ⟨A, B, C, D, K⟩) (hK : 0 ≤ K ∧ K ≤ 1000) :
    Calls Tryd.prog 62 #[nv A B C D K] w (Gives (Nm.least ⟨A, B, C, D, K⟩).v w) := by
  cases hz : Nm.zero ⟨A, B, C, D, K⟩
  · have : Nm.least ⟨A, B, C, D, K⟩ = form K.toNat ⟨A, B, C, D, K⟩ := by unfold Nm.least; rw [hz]; rfl
    rw [this]; exact least_some A B C D K w hx hK hz
  · have : Nm.least ⟨A, B, C, D, K⟩ = nul := by unfold Nm.least; rw [hz]; rfl
    rw [this]; exact least_none A B C D K w hz
end Go.Proofs.YtjalpolciofphaaDoor
