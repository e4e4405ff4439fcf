
/- Regions that draw their order and store once. -/
import Derived.Test.YtjalpolciofphaaDoorSb
set_option linter.all false
set_option maxRecDepth 100000
namespace Go.Proofs.YtjalpolciofphaaDoor
open Go.RowKit

/-- What is asked of operation i: s is the number of the one that stores; b tells whether that one has been done. -/
def okOpS (P : Program) (ops : Array Oper) (aF : Act) (C : Bool → World → Prop) (s i : Nat) (o : Oper) : Prop :=
  (∀ t, o.dst = some t → t < aF.tmps.size) ∧
  (Region.wanted o (yielded ops aF.tmps) = true → ∀ b w, (i = s → b = false) → C b w → leads P o aF w (fv o aF) (C (b || decide (i = s)))) ∧
  (Region.wanted o (yielded ops aF.tmps) = false → fv o aF = undef ∧ i ≠ s)
section
variable {P : Program} {ops : Array Oper} {aF : Act} {C : Bool → World → Prop} {o : Oper} {s i : Nat}
theorem okS_val (hn : (i != s) = true) (hi : inB o aF.tmps.size = true) (hw : Region.wanted o (yielded ops aF.tmps) = true) (h : ∀ w, (execOp aF.eval o).run P w = .ok (.value (fv o aF)) w) : okOpS P ops aF C s i o :=
  ⟨inB_spec hi, fun _ b w _ hC => by
    have hd : decide (i = s) = false := by simpa using hn
    unfold leads; rw [h w, hd, Bool.or_false]; exact ⟨rfl, hC⟩, fun hf => by rw [hw] at hf; cases hf⟩
theorem okS_load (hn : (i != s) = true) (hi : inB o aF.tmps.size = true) (hw : Region.wanted o (yielded ops aF.tmps) = true) (h : ∀ b w, C b w → (execOp aF.eval o).run P w = .ok (.value (fv o aF)) w) : okOpS P ops aF C s i o :=
  ⟨inB_spec hi, fun _ b w _ hC => by
    have hd : decide (i = s) = false := by simpa using hn
    unfold leads; rw [h b w hC, hd, Bool.or_false]; exact ⟨rfl, hC⟩, fun hf => by rw [hw] at hf; cases hf⟩
theorem okS_call (f : FuncId) (args : Array Value) (hn : (i != s) = true) (hi : inB o aF.tmps.size = true) (hw : Region.wanted o (yielded ops aF.tmps) = true) (h : ∀ w, (execOp aF.eval o).run P w = .ok (.enter f args) w) (hc : ∀ b w, C b w → Calls P f args w fun e w' => e = .returned (fv o aF) ∧ C b w') : okOpS P ops aF C s i o :=
  ⟨inB_spec hi, fun _ b w _ hC => by
    have hd : decide (i = s) = false := by simpa using hn
    unfold leads; rw [h w, hd, Bool.or_false]; exact hc b w hC, fun hf => by rw [hw] at hf; cases hf⟩
theorem okS_store (hn : (i == s) = true) (hi : inB o aF.tmps.size = true) (hw : Region.wanted o (yielded ops aF.tmps) = true) (hv : fv o aF = undef) (h : ∀ w, C false w → ∃ w', (execOp aF.eval o).run P w = .ok .skip w' ∧ C true w') : okOpS P ops aF C s i o :=
  ⟨inB_spec hi, fun _ b w hb hC => by
    have hs : i = s := by simpa using hn
    have hb' := hb hs
    subst hb'
    obtain ⟨w', h1, h2⟩ := h w hC
    have hd : decide (i = s) = true := by simpa using hs
    unfold leads; rw [h1, hd, hv]; exact ⟨rfl, h2⟩, fun hf => by rw [hw] at hf; cases hf⟩
theorem region_store {id : Nat} {a0 : Act} {w : World} {l : List Oper} {Q : Exit → Act → World → Prop} (C : Bool → World → Prop) (s k : Nat) (new : List Value) (i : Nat) (v0 : Value) (hm : P.follows .mixedOrders = true) (hB : plainB .any l = true)
    (hs : a0.tmps.size = (finA a0 k new i v0).tmps.size) (ho : outV l a0 a0.tmps.size = outV l (finA a0 k new i v0) a0.tmps.size) (hsl : decide (s < l.length) = true) (hC : C false { w with drawn := w.drawn + 1 })
    (hQ : ∀ w, C true w → Q .normal (finA a0 k new i v0) w) (hop : eachOp (fun j o => okOpS P l.toArray (finA a0 k new i v0) C s j o) 0 l) : (Code.region id l.toArray true).wp P Q a0 w := by
  have hsl' := of_decide_eq_true hsl
  refine region_solved (C := fun listed w => C (listed.getD s false) w) hm (plain_of (aF := finA a0 k new i v0) hB rfl hs ho) ?_ ?_ ?_
  · have : (Array.replicate l.toArray.size false).getD s false = false := by simp [hsl']
    rw [this]; exact hC
  · intro j o hj listed a w' hd hr hw
    have h := eachOp_spec l 0 hop j o (by simpa using hj)
    rw [Nat.zero_add] at h
    obtain ⟨h1, h2, h3⟩ := h
    have hlt : j < listed.size := by rw [hd.size]; exact (Array.getElem?_eq_some_iff.1 hj).1
    have hun := (mem_ready.1 hr).1
    have hfv : ∀ t, o.dst = some t → (finA a0 k new i v0).tmps[t]? = some (fv o (finA a0 k new i v0)) := by
      intro t ht
      unfold fv
      rw [ht]
      simp [h1 t ht]
    have hflag : (listed.setIfInBounds j true).getD s false = (listed.getD s false || decide (j = s)) := by
      by_cases hjs : j = s
      · subst hjs
        simp [hlt]
      · rw [getD_set_ne false hjs]
        simp [hjs]
    have hfalse : j = s → listed.getD s false = false := by
      intro hjs
      subst hjs
      simp [hlt] at hun ⊢
      exact hun
    refine ⟨fun hwt => ⟨_, hfv, ?_⟩, fun hwf => ⟨fun t ht => by rw [hfv t ht, (h3 hwf).1], ?_⟩⟩
    · rw [hflag]
      exact h2 hwt _ w' hfalse hw
    · rw [hflag]
      have : decide (j = s) = false := by simpa using (h3 hwf).2
      rw [this, Bool.or_false]
      exact hw
  · intro listed w' hsz hall hw
    have : listed.getD s false = true := hall s (by simpa using hsl')
    rw [this] at hw
    exact hQ w' hw
end
/-- A number is stored. -/
theorem store_num {o : Oper} {a : Act} {s t : Operand} {b : Nat} {x y : Nm} {W : World} (ho : o.op = .store 23 s t) (hs : a.eval s = .pointer (some ⟨b, 0, none⟩)) (ht : a.eval t = y.v) (hb : Box W b 23 x) :
    (execOp a.eval o).run Tryd.prog W = .ok .skip (((((W.setCell ⟨b, 0, none⟩ (.int .i64 y.A)).setCell ⟨b, 1, none⟩ (.int .i64 y.B)).setCell ⟨b, 2, none⟩ (.int .i64 y.C)).setCell ⟨b, 3, none⟩ (.int .i64 y.D)).setCell ⟨b, 4, none⟩ (.int .i64 y.K)) := by
  obtain ⟨h0, h1, h2, h3, h4⟩ := hb.cell
  obtain ⟨f0, f1, f2, f3, f4⟩ := hb.free
  obtain ⟨dst, op, ty, pos, af, gd⟩ := o
  dsimp only at ho
  subst ho
  generalize a.eval = e at *
  simp [go_sem, hs, ht, h0, h1, h2, h3, h4, f0, f1, f2, f3, f4]
end Go.Proofs.YtjalpolciofphaaDoor
