
/- The reference's Neg, Conj, Dot, product, fits. -/
import Derived.Test.YtohadcaapmnlaaaDoorJb
import Derived.Test.YtohadcaapmnlaaaDoorPh
set_option linter.all false
set_option maxRecDepth 100000
namespace Go.Proofs.YtohadcaapmnlaaaDoor
open Go.RowKit

set_option maxHeartbeats 1000000 in
theorem r_conjugate (A B C D K : Int) (w : World) (hx : Nm.wide ⟨A, B, C, D, K⟩) : Calls Tryd.prog 40 #[nv A B C D K] w (Gives (nv A (-D) (-C) (-B) K) w) := by
  obtain ⟨⟨hA1, hA2⟩, ⟨hB1, hB2⟩, ⟨hC1, hC2⟩, ⟨hD1, hD2⟩⟩ := hx
  dsimp only at *
  go_enter Tryd.func40, Tryd.ntmps40
  go_wp2
  exact bodyPost_ret (v := nv A (-D) (-C) (-B) K) (by simp [results, Tryd.results40, go_sem]) rfl ⟨rfl, (by repeat (first | with_reducible exact Below.refl _ _ | with_reducible refine below_al ?_ _ | with_reducible refine below_dN ?_ _ | with_reducible refine Below.drew ?_ | (with_reducible refine Below.setCell ?_ (by simp <;> omega) _) | (with_reducible refine below_via (by assumption) ?_)))⟩
set_option maxHeartbeats 4000000 in
theorem r_product_raw (A B C D K a b c d k : Int) (w : World) :
    Calls Tryd.prog 39 #[nv A B C D K, nv a b c d k] w (Gives (nv (wrap64 (A * a - B * d - C * c - D * b)) (wrap64 (A * b + B * a - C * d - D * c)) (wrap64 (A * c + B * b + C * a - D * d)) (wrap64 (A * d + B * c + C * b + D * a)) (wrap64 (K + k))) w) := by
  have h : Calls Tryd.prog 39 #[nv A B C D K, nv a b c d k] w (Gives (nv (wrap64 (wrap64 (wrap64 (wrap64 (A * a) - wrap64 (B * d)) - wrap64 (C * c)) - wrap64 (D * b))) (wrap64 (wrap64 (wrap64 (wrap64 (A * b) + wrap64 (B * a)) - wrap64 (C * d)) - wrap64 (D * c))) (wrap64 (wrap64 (wrap64 (wrap64 (A * c) + wrap64 (B * b)) + wrap64 (C * a)) - wrap64 (D * d))) (wrap64 (wrap64 (wrap64 (wrap64 (A * d) + wrap64 (B * c)) + wrap64 (C * b)) + wrap64 (D * a))) (wrap64 (K + k))) w) := by
   go_enter Tryd.func39, Tryd.ntmps39
   go_wp2
   generalize wrap64 (wrap64 (wrap64 (wrap64 (A * a) - wrap64 (B * d)) - wrap64 (C * c)) - wrap64 (D * b)) = r0
   generalize wrap64 (wrap64 (wrap64 (wrap64 (A * b) + wrap64 (B * a)) - wrap64 (C * d)) - wrap64 (D * c)) = r1
   generalize wrap64 (wrap64 (wrap64 (wrap64 (A * c) + wrap64 (B * b)) + wrap64 (C * a)) - wrap64 (D * d)) = r2
   generalize wrap64 (wrap64 (wrap64 (wrap64 (A * d) + wrap64 (B * c)) + wrap64 (C * b)) + wrap64 (D * a)) = r3
   generalize wrap64 (K + k) = r4
   exact bodyPost_ret (v := nv r0 r1 r2 r3 r4) (by simp [results, Tryd.results39, go_sem]) rfl ⟨rfl, (by repeat (first | with_reducible exact Below.refl _ _ | with_reducible refine below_al ?_ _ | with_reducible refine below_dN ?_ _ | with_reducible refine Below.drew ?_ | (with_reducible refine Below.setCell ?_ (by simp <;> omega) _) | (with_reducible refine below_via (by assumption) ?_)))⟩
  simp only [wr_sub, wr_add] at h
  exact h
theorem r_product (x y : Nm) (M N : Int) (w : World) (hx : x.le M) (hy : y.le N) (hMN : M * N ≤ 1152921504606846976) (hK : -1000000 ≤ x.K ∧ x.K ≤ 1000000) (hk : -1000000 ≤ y.K ∧ y.K ≤ 1000000) :
    Calls Tryd.prog 39 #[x.v, y.v] w (Gives (mulN x y).v w) := by
  have h := r_product_raw x.A x.B x.C x.D x.K y.A y.B y.C y.D y.K w
  have hm := mulN_le hx hy
  unfold Nm.le mulN at hm
  dsimp only at hm
  rw [wr_in (by omega), wr_in (by omega), wr_in (by omega), wr_in (by omega), wr_in (n := x.K + y.K) (by omega)] at h
  exact h

theorem negN_wide {x : Nm} (h : x.wide) : (negN x).wide := by unfold Nm.wide negN at *; dsimp only at *; omega
theorem conjN_wide {x : Nm} (h : x.wide) : (conjN x).wide := by unfold Nm.wide conjN at *; dsimp only at *; omega
/-- What the reference's Neg, Conj and Dot return. -/
def turnV (x y : Nm) : Value := .tuple #[(if x.chk = 0 then y.least else nul).v, .int .i64 x.chk]

end Go.Proofs.YtohadcaapmnlaaaDoor
