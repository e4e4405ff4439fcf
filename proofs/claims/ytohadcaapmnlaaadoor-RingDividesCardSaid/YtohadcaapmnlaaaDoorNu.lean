
/- The law's own maker of numbers. -/
import Derived.Test.YtohadcaapmnlaaaDoorPr
set_option linter.all false
set_option maxRecDepth 100000
namespace Go.Proofs.YtohadcaapmnlaaaDoor
open Go.RowKit
theorem num_any (A B C D K : Int) (w : World) : Calls Tryd.prog 27 #[.int .i64 A, .int .i64 B, .int .i64 C, .int .i64 D, .int .i64 K] w (Gives (nv A B C D K) w) := by
  go_enter Tryd.func27, Tryd.ntmps27
  go_wp2
  exact bodyPost_ret (v := nv A B C D K) (by simp [results, Tryd.results27, go_sem]) rfl ⟨rfl, (by repeat (first | with_reducible exact Below.refl _ _ | with_reducible refine below_al ?_ _ | with_reducible refine below_dN ?_ _ | with_reducible refine Below.drew ?_ | (with_reducible refine Below.setCell ?_ (by simp <;> omega) _) | (with_reducible refine below_via (by assumption) ?_)))⟩
end Go.Proofs.YtohadcaapmnlaaaDoor
