
/- The law RingLeast, for all numbers. -/
import Derived.Test.YtohadcaapmnlaaaDoorJb
import Derived.Test.YtohadcaapmnlaaaDoorAw
set_option linter.all false
set_option maxRecDepth 100000
namespace Go.Proofs.YtohadcaapmnlaaaDoor
open Go.RowKit Go.Shelf

/-- Two integers are compared. -/
theorem eql_int {o : Oper} {a : Act} {s t : Operand} {p q : Int} {b : Bool} {T : TypeId} {W : World} (ho : o.op = .binOp .eql T s t T) (hT : Tryd.prog.underlying T = some (.int .i64)) (hs : a.eval s = .int .i64 p) (ht : a.eval t = .int .i64 q) (hb : (p == q) = b) :
    (execOp a.eval o).run Tryd.prog W = .ok (.value (.bool b)) W := by
  obtain ⟨dst, op, ty, pos, af, gd⟩ := o
  dsimp only at ho
  subst ho
  subst hb
  generalize a.eval = e at *
  simp [go_sem, hs, ht, hT]
/-- Two Bools are compared. -/
theorem eql_bool {o : Oper} {a : Act} {s t : Operand} {p q b : Bool} {T : TypeId} {W : World} (ho : o.op = .binOp .eql T s t T) (hT : Tryd.prog.underlying T = some .bool) (hs : a.eval s = .bool p) (ht : a.eval t = .bool q) (hb : (p == q) = b) :
    (execOp a.eval o).run Tryd.prog W = .ok (.value (.bool b)) W := by
  obtain ⟨dst, op, ty, pos, af, gd⟩ := o
  dsimp only at ho
  subst ho
  subst hb
  generalize a.eval = e at *
  simp [go_sem, hs, ht, hT]
theorem Got.two (w : World) (x y : Nm) : Got w [(w.heap.size + 1, y), (w.heap.size, x)] ((w.alloc (.cells #[.int .i64 x.A, .int .i64 x.B, .int .i64 x.C, .int .i64 x.D, .int .i64 x.K] 23)).alloc (.cells #[.int .i64 y.A, .int .i64 y.B, .int .i64 y.C, .int .i64 y.D, .int .i64 y.K] 23)) := by
  have h := ((Got.none w).box x).box y
  rw [World.size_alloc] at h
  exact h
/-- What the library's and the program's variables hold, in the worlds behind w. -/
def Vars (w : World) : Prop := NamesAre w ∧ CutVar w ∧ Lib.TabIs Tryd.prog w "internal/strconv.uint64pow10" .u64 Lib.pow10Tab
theorem awake_below {w w' : World} (h : Vars w) (hb : Below w.heap.size w w') : Calls Tryd.prog 13 #[] w' (Gives (.bool true) w') :=
  awake_any w' (h.1.below hb) (h.2.1.below hb) (Lib.tabBelow_of_tabIs h.2.2 w' hb)

end Go.Proofs.YtohadcaapmnlaaaDoor
