
/- The reference: times r, the sign of a real number, realness. -/
import Derived.Test.YtohadcaapmnlaaaDoorAd
import Derived.Test.YtohadcaapmnlaaaDoorTn
set_option linter.all false
set_option maxRecDepth 100000
namespace Go.Proofs.YtohadcaapmnlaaaDoor
open Go.RowKit

/-- Times r, with the same K. -/
def timesK (x : Nm) : Nm := ⟨x.B - x.D, x.A + x.C, x.B + x.D, x.C - x.A, x.K⟩
set_option maxHeartbeats 1000000 in
theorem r_times (A B C D K : Int) (w : World) (hx : Nm.le ⟨A, B, C, D, K⟩ 2305843009213693952) : Calls Tryd.prog 42 #[nv A B C D K] w (Gives (timesK ⟨A, B, C, D, K⟩).v w) := by
  obtain ⟨⟨hA1, hA2⟩, ⟨hB1, hB2⟩, ⟨hC1, hC2⟩, ⟨hD1, hD2⟩⟩ := hx
  dsimp only at *
  go_enter Tryd.func42, Tryd.ntmps42
  go_wp2
  exact bodyPost_ret (v := (timesK ⟨A, B, C, D, K⟩).v) (by simp [results, Tryd.results42, go_sem, timesK]) rfl ⟨rfl, (by repeat (first | with_reducible exact Below.refl _ _ | with_reducible refine below_al ?_ _ | with_reducible refine below_dN ?_ _ | with_reducible refine Below.drew ?_ | (with_reducible refine Below.setCell ?_ (by simp <;> omega) _) | (with_reducible refine below_via (by assumption) ?_)))⟩

end Go.Proofs.YtohadcaapmnlaaaDoor
