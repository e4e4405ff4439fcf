
/- The reference's Divide, for all numbers; the law RingDivides. -/
import Derived.Test.YtohadcaapmnlaaaDoorRx
import Derived.Test.YtohadcaapmnlaaaDoorRy
import Derived.Test.YtohadcaapmnlaaaDoorRz
import Derived.Test.YtohadcaapmnlaaaDoorRu
import Derived.Test.YtohadcaapmnlaaaDoorRv
import Derived.Test.YtohadcaapmnlaaaDoorDl
set_option linter.all false
set_option maxRecDepth 100000
namespace Go.Proofs.YtohadcaapmnlaaaDoor
open Go.RowKit

theorem r_Divide_main (x y : Nm) (w : World) (h : chk2 x y = 0) (hq : x.least.inb 4096 = true ∧ y.least.inb 4096 = true ∧ y.least.zero = false) : Calls Tryd.prog 11 #[x.v, y.v] w (Gives (.tuple #[(divN x.least y.least).v, .int .i64 (divE x.least y.least)]) w) := by
  by_cases hg : goes x.least y.least
  · by_cases hz : (quoN x.least y.least).zero = true
    · exact r_Divide_zero x y w h hq ⟨hg, hz⟩
    · have hz := Bool.eq_false_iff.2 hz
      by_cases hk : (quoN x.least y.least).K < 0
      · exact r_Divide_low x y w h hq ⟨hg, hz, hk⟩
      · exact r_Divide_high x y w h hq ⟨hg, hz, by omega⟩
  · exact r_Divide_no x y w h hq hg
theorem r_Divide (x y : Nm) (w : World) : Calls Tryd.prog 11 #[x.v, y.v] w (Gives (.tuple #[(DivN x y).v, .int .i64 (DivE x y)]) w) := by
  unfold DivN DivE
  by_cases h : chk2 x y = 0
  · rw [if_pos h, if_pos h]
    by_cases hq : x.least.inb 4096 = true ∧ y.least.inb 4096 = true ∧ y.least.zero = false
    · exact r_Divide_main x y w h hq
    · exact r_Divide_early x y w h hq
  · rw [if_neg h, if_neg h]
    exact r_Divide_bad x y w h
theorem RingDivides_any (x y : Nm) (w : World) (hv : Vars w) : Calls Tryd.prog 3 #[x.v, y.v] w (Gives (.bool true) w) :=
  RingDivides_of x y w hv (fun w => r_Divide x y w)
end Go.Proofs.YtohadcaapmnlaaaDoor
