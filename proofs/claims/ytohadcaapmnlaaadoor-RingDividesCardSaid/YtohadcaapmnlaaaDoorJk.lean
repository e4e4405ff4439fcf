/- The reference's Less. -/
import Derived.Test.YtohadcaapmnlaaaDoorSa
import Derived.Test.YtohadcaapmnlaaaDoorMa
import Derived.Test.YtohadcaapmnlaaaDoorJb
import Derived.Test.YtohadcaapmnlaaaDoorJc
set_option linter.all false
set_option maxRecDepth 100000
namespace Go.Proofs.YtohadcaapmnlaaaDoor
open Go.RowKit

def realV (x : Nm) : Value := .tuple #[.bool (if x.chk = 0 then realN x else false), .int .i64 x.chk]
end Go.Proofs.YtohadcaapmnlaaaDoor
namespace Go.Proofs.YtohadcaapmnlaaaDoor
open Go.RowKit

/-- The three blocks of the reference's Add: both numbers and the result. -/
def InAdd (w : World) (x y : Nm) (W : World) : Prop := Below w.heap.size w W ∧ Box W w.heap.size 23 x ∧ Box W (w.heap.size + 1) 23 y ∧ Box W (w.heap.size + 1 + 1) 23 nul
theorem InAdd.call {w W W' : World} {x y : Nm} (h : InAdd w x y W) (hb : Below W.heap.size W W') : InAdd w x y W' :=
  ⟨below_via hb h.1, h.2.1.below hb h.2.1.lt, h.2.2.1.below hb h.2.2.1.lt, h.2.2.2.below hb h.2.2.2.lt⟩
def InAdd.cells {W : World} (b : Nat) (y : Nm) : World := ((((W.setCell ⟨b, 0, none⟩ (.int .i64 y.A)).setCell ⟨b, 1, none⟩ (.int .i64 y.B)).setCell ⟨b, 2, none⟩ (.int .i64 y.C)).setCell ⟨b, 3, none⟩ (.int .i64 y.D)).setCell ⟨b, 4, none⟩ (.int .i64 y.K)
theorem InAdd.first {w W : World} {x y : Nm} (h : InAdd w x y W) (r : Nm) : InAdd w r y (InAdd.cells (W := W) w.heap.size r) := by
  unfold InAdd.cells
  refine ⟨(((((h.1.setCell (Nat.le_refl _) _).setCell (Nat.le_refl _) _).setCell (Nat.le_refl _) _).setCell (Nat.le_refl _) _).setCell (Nat.le_refl _) _), box_cells h.2.1 r, ?_, ?_⟩
  · exact (((((h.2.2.1.other (by omega)).other (by omega)).other (by omega)).other (by omega)).other (by omega))
  · exact (((((h.2.2.2.other (by omega)).other (by omega)).other (by omega)).other (by omega)).other (by omega))
theorem InAdd.second {w W : World} {x y : Nm} (h : InAdd w x y W) (r : Nm) : InAdd w x r (InAdd.cells (W := W) (w.heap.size + 1) r) := by
  unfold InAdd.cells
  refine ⟨(((((h.1.setCell (Nat.le_succ _) _).setCell (Nat.le_succ _) _).setCell (Nat.le_succ _) _).setCell (Nat.le_succ _) _).setCell (Nat.le_succ _) _), ?_, box_cells h.2.2.1 r, ?_⟩
  · exact (((((h.2.1.other (by omega)).other (by omega)).other (by omega)).other (by omega)).other (by omega))
  · exact (((((h.2.2.2.other (by omega)).other (by omega)).other (by omega)).other (by omega)).other (by omega))
theorem InAdd.firstK {w W : World} {x y : Nm} (h : InAdd w x y W) (v : Int) : InAdd w ⟨x.A, x.B, x.C, x.D, v⟩ y (W.setCell ⟨w.heap.size, 4, none⟩ (.int .i64 v)) :=
  ⟨h.1.setCell (Nat.le_refl _) _, heap_set h.2.1, h.2.2.1.other (by omega), h.2.2.2.other (by omega)⟩
theorem InAdd.secondK {w W : World} {x y : Nm} (h : InAdd w x y W) (v : Int) : InAdd w x ⟨y.A, y.B, y.C, y.D, v⟩ (W.setCell ⟨w.heap.size + 1, 4, none⟩ (.int .i64 v)) :=
  ⟨h.1.setCell (Nat.le_succ _) _, h.2.1.other (by omega), heap_set h.2.2.1, h.2.2.2.other (by omega)⟩
theorem least_le {x : Nm} (h : x.le 1073741824) : x.least.le 1073741824 := by
  have h1 : x.inb 1073741824 = true := decide_eq_true (by unfold Nm.le at h; omega)
  have h2 := least_inb (by omega) h1
  simp only [Nm.inb, inb, decide_eq_true_eq] at h2
  unfold Nm.le; omega
theorem two_new3 (w : World) (a b c : Obj) (x y : Nm) (T : Nat) : Two ((((w.alloc a).alloc b).alloc c).alloc (.cells #[.int .i64 x.A, .int .i64 x.B, .int .i64 x.C, .int .i64 x.D, .int .i64 x.K, .int .i64 y.A, .int .i64 y.B, .int .i64 y.C, .int .i64 y.D, .int .i64 y.K] T)) (w.heap.size + 1 + 1 + 1) T x y := by
  have h := two_new2 (w.alloc a) b c x y T
  rw [World.size_alloc] at h
  exact h
def addV (x y : Nm) : Value := .tuple #[(jointN x y (addN x y)).v, .int .i64 (jointE x y (addN x y))]
end Go.Proofs.YtohadcaapmnlaaaDoor
namespace Go.Proofs.YtohadcaapmnlaaaDoor
open Go.RowKit

def subV (x y : Nm) : Value := .tuple #[(jointN x y (subN x y)).v, .int .i64 (jointE x y (subN x y))]
theorem negN_chk (x : Nm) : (negN x).chk = x.chk := by
  unfold Nm.chk chk negN inb
  dsimp only
  have e : (-1073741824 ≤ -x.A ∧ -x.A ≤ 1073741824 ∧ -1073741824 ≤ -x.B ∧ -x.B ≤ 1073741824 ∧ -1073741824 ≤ -x.C ∧ -x.C ≤ 1073741824 ∧ -1073741824 ≤ -x.D ∧ -x.D ≤ 1073741824) ↔ (-1073741824 ≤ x.A ∧ x.A ≤ 1073741824 ∧ -1073741824 ≤ x.B ∧ x.B ≤ 1073741824 ∧ -1073741824 ≤ x.C ∧ x.C ≤ 1073741824 ∧ -1073741824 ≤ x.D ∧ x.D ≤ 1073741824) := by omega
  rw [decide_eq_decide.2 e]
theorem subV_add {x y : Nm} : addV x (negN y) = subV x y := by
  unfold addV subV jointN jointE chk2 subN
  rw [negN_chk]
end Go.Proofs.YtohadcaapmnlaaaDoor
namespace Go.Proofs.YtohadcaapmnlaaaDoor
open Go.RowKit

def lessV (x y : Nm) : Value := .tuple #[.bool (lessN x y), .int .i64 (lessE x y)]
end Go.Proofs.YtohadcaapmnlaaaDoor
