
/- Sum of package ring, for all numbers (a seat with RingAdds in it). -/
import Derived.Test.YtohadcaapmnlaaaDoorAd
set_option linter.all false
set_option maxRecDepth 100000
namespace Go.Proofs.YtohadcaapmnlaaaDoor
open Go.RowKit

set_option maxHeartbeats 1000000 in
theorem Add_any (A B C D K a b c d k : Int) (w : World) :
    Calls Tryd.prog 16 #[nv A B C D K, nv a b c d k] w (Gives (.tuple #[(jointN ⟨A, B, C, D, K⟩ ⟨a, b, c, d, k⟩ (addN ⟨A, B, C, D, K⟩ ⟨a, b, c, d, k⟩)).v, .int .i64 (jointE ⟨A, B, C, D, K⟩ ⟨a, b, c, d, k⟩ (addN ⟨A, B, C, D, K⟩ ⟨a, b, c, d, k⟩))]) w) := by
  have HA : Hid (∀ w, Calls Tryd.prog 53 #[.agg #[.func (.func 52) #[] #[]], nv A B C D K, nv a b c d k] w (Gives (.tuple #[(jointN ⟨A, B, C, D, K⟩ ⟨a, b, c, d, k⟩ (addN ⟨A, B, C, D, K⟩ ⟨a, b, c, d, k⟩)).v, .int .i64 (jointE ⟨A, B, C, D, K⟩ ⟨a, b, c, d, k⟩ (addN ⟨A, B, C, D, K⟩ ⟨a, b, c, d, k⟩))]) w)) := by
    intro w
    refine joint_any A B C D K a b c d k _ ent_plus _ w fun h => ?_
    obtain ⟨h1, h2⟩ := chk2_ok h
    have k1 := chk_ok h1
    have k2 := chk_ok h2
    dsimp only at k1 k2
    obtain ⟨l1, l2, _⟩ := lifts_two h
    refine ⟨fun w => plus_any A B C D K a b c d k w (right_le h1) (right_le h2) (by omega) (by omega) l1 l2, ?_, ?_⟩
    · exact le_wide (addN_le (right_le h1) (right_le h2) (by dsimp only; omega) (by dsimp only; omega)) (by omega)
    · rw [addN_K]; dsimp only; omega
  generalize jointN ⟨A, B, C, D, K⟩ ⟨a, b, c, d, k⟩ (addN ⟨A, B, C, D, K⟩ ⟨a, b, c, d, k⟩) = r at *
  generalize jointE ⟨A, B, C, D, K⟩ ⟨a, b, c, d, k⟩ (addN ⟨A, B, C, D, K⟩ ⟨a, b, c, d, k⟩) = q at *
  go_enter Tryd.func16, Tryd.ntmps16
  go_wp2_with fail
  refine (HA.out _).mono ?_
  rintro e w1 ⟨rfl, hb⟩
  obtain ⟨hc, hf⟩ := bcell hb
  go_wp2_with fail
  exact bodyPost_ret (v := .tuple #[r.v, .int .i64 q]) (by simp [results, Tryd.results16, go_sem, hc]) rfl ⟨rfl, (by repeat (first | with_reducible exact Below.refl _ _ | with_reducible refine below_al ?_ _ | with_reducible refine below_dN ?_ _ | with_reducible refine Below.drew ?_ | (with_reducible refine Below.setCell ?_ (by simp <;> omega) _) | (with_reducible refine below_via (by assumption) ?_)))⟩

end Go.Proofs.YtohadcaapmnlaaaDoor
