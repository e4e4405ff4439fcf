
/- The reference's Same. -/
import Derived.Test.YtjalpolciofphaaDoorRs
import Derived.Test.YtjalpolciofphaaDoorPq
set_option linter.all false
set_option maxRecDepth 100000
namespace Go.Proofs.YtjalpolciofphaaDoor
open Go.RowKit

theorem same_eq5 (r s : Nm) : sameN r s = eq5 r s := by
  unfold sameN eq5 eq4
  rw [Bool.eq_iff_iff]
  simp
  constructor
  · rintro ⟨h1, h2, h3, h4, h5⟩; exact ⟨h2, h3, h4, h5, h1⟩
  · rintro ⟨h2, h3, h4, h5, h1⟩; exact ⟨h1, h2, h3, h4, h5⟩
def sameV (x y : Nm) : Value := .tuple #[.bool (if chk2 x y = 0 then eq5 x.least y.least else false), .int .i64 (chk2 x y)]

theorem two_new2 (w : World) (a b : Obj) (x y : Nm) (T : Nat) : Two (((w.alloc a).alloc b).alloc (.cells #[.int .i64 x.A, .int .i64 x.B, .int .i64 x.C, .int .i64 x.D, .int .i64 x.K, .int .i64 y.A, .int .i64 y.B, .int .i64 y.C, .int .i64 y.D, .int .i64 y.K] T)) (w.heap.size + 1 + 1) T x y := by
  have h := heap_alloc_new ((w.alloc a).alloc b) (.cells #[.int .i64 x.A, .int .i64 x.B, .int .i64 x.C, .int .i64 x.D, .int .i64 x.K, .int .i64 y.A, .int .i64 y.B, .int .i64 y.C, .int .i64 y.D, .int .i64 y.K] T)
  simp only [World.size_alloc] at h
  exact h
theorem InTwo.al {w W : World} {bx by_ : Nat} {x y : Nm} (h : InTwo w bx by_ x y W) (o : Obj) : InTwo w bx by_ x y (W.alloc o) := ⟨below_al h.1 _, box_al h.2.1 _, box_al h.2.2 _⟩

end Go.Proofs.YtjalpolciofphaaDoor
