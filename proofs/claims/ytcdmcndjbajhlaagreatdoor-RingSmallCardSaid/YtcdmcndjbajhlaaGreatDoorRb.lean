
/- The reference's Divide: the variable z, what the main way comes to. -/
import Derived.Test.YtcdmcndjbajhlaaGreatDoorRw
import Derived.Test.YtcdmcndjbajhlaaGreatDoorKd
set_option linter.all false
set_option maxRecDepth 100000
namespace Go.Proofs.YtcdmcndjbajhlaaGreatDoor
open Go.RowKit

/-- A number was put into a new variable, that may be written. -/
def PW (r : Nm) (V : World) (p : Value) (wx : World) : Prop := ∃ bp, p = .pointer (some ⟨bp, 0, none⟩) ∧ (wx.cell? ⟨bp, 0, none⟩ = some (.int .i64 r.A) ∧ wx.cell? ⟨bp, 1, none⟩ = some (.int .i64 r.B) ∧ wx.cell? ⟨bp, 2, none⟩ = some (.int .i64 r.C) ∧ wx.cell? ⟨bp, 3, none⟩ = some (.int .i64 r.D) ∧ wx.cell? ⟨bp, 4, none⟩ = some (.int .i64 r.K)) ∧
  (wx.frozen? ⟨bp, 0, none⟩ = false ∧ wx.frozen? ⟨bp, 1, none⟩ = false ∧ wx.frozen? ⟨bp, 2, none⟩ = false ∧ wx.frozen? ⟨bp, 3, none⟩ = false ∧ wx.frozen? ⟨bp, 4, none⟩ = false) ∧ bp < wx.heap.size ∧ V.heap.size ≤ bp ∧ Below V.heap.size V wx
/-- The result is not yet written; z lies in block pz and may be written. -/
structure Zat (w : World) (pz : Nat) (z : Nm) (W : World) : Prop where
  bel : Below w.heap.size w W
  res : Box W (w.heap.size + 1 + 1) 23 nul
  cb : CB W pz z
  free : W.frozen? ⟨pz, 0, none⟩ = false ∧ W.frozen? ⟨pz, 1, none⟩ = false ∧ W.frozen? ⟨pz, 2, none⟩ = false ∧ W.frozen? ⟨pz, 3, none⟩ = false ∧ W.frozen? ⟨pz, 4, none⟩ = false
  ne : w.heap.size + 1 + 1 < pz
theorem Zat.call {w W W' : World} {pz : Nat} {z : Nm} (h : Zat w pz z W) (hb : Below W.heap.size W W') : Zat w pz z W' := by
  have hf := (bcell hb).2
  refine ⟨below_via hb h.bel, h.res.below hb h.res.lt, h.cb.below hb, ?_, h.ne⟩
  rw [hf _ _ h.cb.lt, hf _ _ h.cb.lt, hf _ _ h.cb.lt, hf _ _ h.cb.lt, hf _ _ h.cb.lt]
  exact h.free
theorem CB.set5 {W : World} {k : Nat} {x : Nm} (h : CB W k x) (z : Nm) : CB (((((W.setCell ⟨k, 0, none⟩ (.int .i64 z.A)).setCell ⟨k, 1, none⟩ (.int .i64 z.B)).setCell ⟨k, 2, none⟩ (.int .i64 z.C)).setCell ⟨k, 3, none⟩ (.int .i64 z.D)).setCell ⟨k, 4, none⟩ (.int .i64 z.K)) k z := by
  obtain ⟨⟨h0, h1, h2, h3, h4⟩, hl⟩ := h
  have n : ∀ {i j : Nat}, i ≠ j → (⟨k, i, none⟩ : Addr) ≠ ⟨k, j, none⟩ := fun hij e => hij (by cases e; rfl)
  refine ⟨⟨?_, ?_, ?_, ?_, ?_⟩, by simpa [World.setCell] using hl⟩
  · rw [World.cell?_setCell_other _ _ _ _ (n (by decide)), World.cell?_setCell_other _ _ _ _ (n (by decide)), World.cell?_setCell_other _ _ _ _ (n (by decide)), World.cell?_setCell_other _ _ _ _ (n (by decide))]
    exact World.cell?_setCell_same _ _ _ h0
  · rw [World.cell?_setCell_other _ _ _ _ (n (by decide)), World.cell?_setCell_other _ _ _ _ (n (by decide)), World.cell?_setCell_other _ _ _ _ (n (by decide))]
    exact World.cell?_setCell_same _ _ _ (by rw [World.cell?_setCell_other _ _ _ _ (n (by decide))]; exact h1)
  · rw [World.cell?_setCell_other _ _ _ _ (n (by decide)), World.cell?_setCell_other _ _ _ _ (n (by decide))]
    exact World.cell?_setCell_same _ _ _ (by rw [World.cell?_setCell_other _ _ _ _ (n (by decide)), World.cell?_setCell_other _ _ _ _ (n (by decide))]; exact h2)
  · rw [World.cell?_setCell_other _ _ _ _ (n (by decide))]
    exact World.cell?_setCell_same _ _ _ (by rw [World.cell?_setCell_other _ _ _ _ (n (by decide)), World.cell?_setCell_other _ _ _ _ (n (by decide)), World.cell?_setCell_other _ _ _ _ (n (by decide))]; exact h3)
  · exact World.cell?_setCell_same _ _ _ (by rw [World.cell?_setCell_other _ _ _ _ (n (by decide)), World.cell?_setCell_other _ _ _ _ (n (by decide)), World.cell?_setCell_other _ _ _ _ (n (by decide)), World.cell?_setCell_other _ _ _ _ (n (by decide))]; exact h4)
theorem CB.setK {W : World} {k : Nat} {x : Nm} (h : CB W k x) (v : Int) : CB (W.setCell ⟨k, 4, none⟩ (.int .i64 v)) k ⟨x.A, x.B, x.C, x.D, v⟩ := by
  obtain ⟨⟨h0, h1, h2, h3, h4⟩, hl⟩ := h
  have n : ∀ {i j : Nat}, i ≠ j → (⟨k, i, none⟩ : Addr) ≠ ⟨k, j, none⟩ := fun hij e => hij (by cases e; rfl)
  refine ⟨⟨?_, ?_, ?_, ?_, World.cell?_setCell_same _ _ _ h4⟩, by simpa [World.setCell] using hl⟩ <;> rw [World.cell?_setCell_other _ _ _ _ (n (by decide))] <;> assumption
theorem Zat.put {w W : World} {pz : Nat} {z : Nm} (h : Zat w pz z W) (y : Nm) : Zat w pz y (((((W.setCell ⟨pz, 0, none⟩ (.int .i64 y.A)).setCell ⟨pz, 1, none⟩ (.int .i64 y.B)).setCell ⟨pz, 2, none⟩ (.int .i64 y.C)).setCell ⟨pz, 3, none⟩ (.int .i64 y.D)).setCell ⟨pz, 4, none⟩ (.int .i64 y.K)) := by
  have hn := h.ne
  have hne : w.heap.size + 1 + 1 ≠ pz := by omega
  have hle : w.heap.size ≤ pz := by omega
  refine ⟨((((h.bel.setCell hle _).setCell hle _).setCell hle _).setCell hle _).setCell hle _, ((((h.res.other hne).other hne).other hne).other hne).other hne, h.cb.set5 y, ?_, h.ne⟩
  simpa using h.free
theorem Zat.setK {w W : World} {pz : Nat} {z : Nm} (h : Zat w pz z W) (v : Int) : Zat w pz ⟨z.A, z.B, z.C, z.D, v⟩ (W.setCell ⟨pz, 4, none⟩ (.int .i64 v)) := by
  have hn := h.ne
  have hne : w.heap.size + 1 + 1 ≠ pz := by omega
  have hle : w.heap.size ≤ pz := by omega
  exact ⟨h.bel.setCell hle _, h.res.other hne, h.cb.setK v, by simpa using h.free, h.ne⟩
theorem Zat.drew {w W : World} {pz : Nat} {z : Nm} (h : Zat w pz z W) : Zat w pz z W.drew := h.call (Below.drew (Below.refl _ _))
/-- What the main way comes to. -/
theorem div_no {r s : Nm} (hq : r.inb 4096 = true ∧ s.inb 4096 = true) (hg : ¬ goes r s) : divN r s = nul ∧ divE r s = 6 := by
  have n2 : ¬ ¬ (r.inb 4096 = true ∧ s.inb 4096 = true) := fun h => h hq
  unfold divN divE
  rw [if_neg (fun h => hg h.2.2.2), if_neg n2, if_neg (fun h => hg h.2)]
  exact ⟨rfl, rfl⟩
theorem div_yes {r s : Nm} (hq : r.inb 4096 = true ∧ s.inb 4096 = true) (hb : bN s ≠ 0) (hg : goes r s) : divN r s = settN (quoN r s) ∧ divE r s = settE (quoN r s) := by
  have n2 : ¬ ¬ (r.inb 4096 = true ∧ s.inb 4096 = true) := fun h => h hq
  unfold divN divE
  rw [if_pos ⟨hq.1, hq.2, hb, hg⟩, if_neg n2, if_pos ⟨hb, hg⟩]
  exact ⟨rfl, rfl⟩
end Go.Proofs.YtcdmcndjbajhlaaGreatDoor
