
/- A region that draws its order, walked once in the order of the text, within a class of worlds. -/
import Derived.Test.YtpbcomdlboiddaaDoorZm
set_option linter.all false
set_option maxRecDepth 100000
namespace Go.Proofs.YtpbcomdlboiddaaDoor
open Go.RowKit
section
variable {P : Program} {ops : Array Oper} {C : World → Prop} {Q : Act → Prop} {a : Act} {o : Oper} {rest : List Oper}
/-- An operation that yields a value in whatever world. -/
theorem q_val (v : Value) (hw : Region.wanted o (yielded ops a.tmps) = true) (h : ∀ w, (execOp a.eval o).run P w = .ok (.value v) w) (hk : wpQuiet P ops C Q rest (a.put o.dst v)) : wpQuiet P ops C Q (o :: rest) a :=
  wpQuiet_step fun K hK => by
    rw [if_pos hw]
    exact ⟨v, fun w _ => by unfold Oper.quietAt; rw [h w]; exact ⟨rfl, rfl⟩, hK _ hk⟩
/-- One that yields it in each world of the class. -/
theorem q_load (v : Value) (hw : Region.wanted o (yielded ops a.tmps) = true) (h : ∀ w, C w → (execOp a.eval o).run P w = .ok (.value v) w) (hk : wpQuiet P ops C Q rest (a.put o.dst v)) : wpQuiet P ops C Q (o :: rest) a :=
  wpQuiet_step fun K hK => by
    rw [if_pos hw]
    exact ⟨v, fun w hC => by unfold Oper.quietAt; rw [h w hC]; exact ⟨rfl, rfl⟩, hK _ hk⟩
/-- A call that returns it, and leaves a world of the class. -/
theorem q_call (v : Value) (f : FuncId) (args : Array Value) (hw : Region.wanted o (yielded ops a.tmps) = true) (h : ∀ w, (execOp a.eval o).run P w = .ok (.enter f args) w) (hc : ∀ w, C w → Calls P f args w fun e w' => e = .returned v ∧ C w')
    (hk : wpQuiet P ops C Q rest (a.put o.dst v)) : wpQuiet P ops C Q (o :: rest) a :=
  wpQuiet_step fun K hK => by
    rw [if_pos hw]
    exact ⟨v, fun w hC => by unfold Oper.quietAt; rw [h w]; exact ⟨rfl, hc w hC⟩, hK _ hk⟩
/-- One that is passed over. -/
theorem q_skip (hw : Region.wanted o (yielded ops a.tmps) = false) (hk : wpQuiet P ops C Q rest (a.put o.dst undef)) : wpQuiet P ops C Q (o :: rest) a :=
  wpQuiet_step fun K hK => by
    rw [if_neg (by rw [hw]; simp)]
    exact hK _ hk
theorem q_region {id : Nat} {Q : Exit → Act → World → Prop} {w : World} {l : List Oper} (C : World → Prop) (hm : P.follows .mixedOrders = true) (hB : Region.lexB .any l.toArray = true) (hC : C { w with drawn := w.drawn + 1 })
    (h : wpQuiet P l.toArray C (fun a' => ∀ w', C w' → Q .normal a' w') l a) : (Code.region id l.toArray true).wp P Q a w :=
  wp_region_quiet hm hB hC (by simpa using h)
end
def eq5 (x y : Nm) : Bool := decide (x.A = y.A ∧ x.B = y.B ∧ x.C = y.C ∧ x.D = y.D ∧ x.K = y.K)
theorem eq5_iff (x y : Nm) : eq5 x y = true ↔ x = y := by
  unfold eq5
  rw [decide_eq_true_eq]
  constructor
  · intro h; exact Nm.ext5 h.1 h.2.1 h.2.2.1 h.2.2.2.1 h.2.2.2.2
  · intro h; subst h; exact ⟨rfl, rfl, rfl, rfl, rfl⟩
end Go.Proofs.YtpbcomdlboiddaaDoor
