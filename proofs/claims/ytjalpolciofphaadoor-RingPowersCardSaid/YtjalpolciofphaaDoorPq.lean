
/- Two least forms in one statement, whatever the order; ring.Same. -/
import Derived.Test.YtjalpolciofphaaDoorWg
import Derived.Deep.RegionWith
import Derived.Deep.DeepCutAuto
import Derived.Deep.RegionHeld3
set_option linter.all false
set_option maxRecDepth 100000
namespace Go.Proofs.YtjalpolciofphaaDoor
open Go.RowKit
attribute [local go_sem] run_eql_arr4 run_field_num

/-- p and q point to two numbers, in memory that is new since w1. -/
def PQ (r s : Nm) (w1 : World) (p q : Value) (wx : World) : Prop :=
  ∃ bp bq, p = .pointer (some ⟨bp, 0, none⟩) ∧ q = .pointer (some ⟨bq, 0, none⟩) ∧ (wx.cell? ⟨bp, 0, none⟩ = some (.int .i64 r.A) ∧ wx.cell? ⟨bp, 1, none⟩ = some (.int .i64 r.B) ∧ wx.cell? ⟨bp, 2, none⟩ = some (.int .i64 r.C) ∧ wx.cell? ⟨bp, 3, none⟩ = some (.int .i64 r.D) ∧ wx.cell? ⟨bp, 4, none⟩ = some (.int .i64 r.K)) ∧
    (wx.cell? ⟨bq, 0, none⟩ = some (.int .i64 s.A) ∧ wx.cell? ⟨bq, 1, none⟩ = some (.int .i64 s.B) ∧ wx.cell? ⟨bq, 2, none⟩ = some (.int .i64 s.C) ∧ wx.cell? ⟨bq, 3, none⟩ = some (.int .i64 s.D) ∧ wx.cell? ⟨bq, 4, none⟩ = some (.int .i64 s.K)) ∧ bp < wx.heap.size ∧ bq < wx.heap.size ∧ Below w1.heap.size w1 wx
theorem below_undrew {W w2 : World} (h : Below W.drew.heap.size W.drew w2) : Below W.heap.size W w2 := ⟨h.os, h.tape, h.output, h.size, h.block⟩

def sameN (r s : Nm) : Bool := (r.K == s.K) && eq4 r.A r.B r.C r.D s.A s.B s.C s.D

theorem chk2_ok {x y : Nm} (h : chk2 x y = 0) : x.chk = 0 ∧ y.chk = 0 := by
  unfold chk2 at h
  split at h
  · exact ⟨by assumption, h⟩
  · contradiction
theorem right_least {A B C D K : Int} (h : chk A B C D K = 0) : Hid (∀ w, Calls Tryd.prog 62 #[nv A B C D K] w (Gives (Nm.least ⟨A, B, C, D, K⟩).v w)) := by
  have := chk_ok h
  exact fun w => least_any A B C D K w (right_wide h) (by omega)
theorem checked_zero {A B C D K a b c d k : Int} (h : chk2 ⟨A, B, C, D, K⟩ ⟨a, b, c, d, k⟩ = 0) : Hid (∀ w, Calls Tryd.prog 61 #[nv A B C D K, nv a b c d k] w (Gives (.int .i64 0) w)) := by
  intro w
  have h1 := checked_any A B C D K a b c d k w
  have h2 : (if chk A B C D K = 0 then chk a b c d k else chk A B C D K) = 0 := h
  rw [h2] at h1
  exact h1
end Go.Proofs.YtjalpolciofphaaDoor
