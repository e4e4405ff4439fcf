
/- Solved regions: what the kernel checks by looking. -/
import Derived.Test.YtpbcomdlboiddaaDoorSr
import Derived.Test.YtpbcomdlboiddaaDoorQw
set_option linter.all false
set_option maxRecDepth 100000
namespace Go.Proofs.YtpbcomdlboiddaaDoor
open Go.RowKit

def onceB : List Oper → Bool
  | [] => true
  | o :: l => (match o.dst with
    | none => true
    | some t => l.all fun p => p.dst != some t) && onceB l
theorem onceB_lt : ∀ (l : List Oper), onceB l = true → ∀ (i j : Nat) (oi oj : Oper) (t : Tmp), i < j → l[i]? = some oi → l[j]? = some oj → oi.dst = some t → oj.dst ≠ some t
  | [], _, i, j, oi, oj, t, _, hi, _, _ => by simp at hi
  | o :: l, h, 0, j + 1, oi, oj, t, _, hi, hj, ht => by
    simp only [onceB, Bool.and_eq_true] at h
    simp at hi
    subst hi
    rw [ht] at h
    have h1 := List.all_eq_true.1 h.1 oj (List.mem_of_getElem? (by simpa using hj))
    simpa using h1
  | o :: l, h, i + 1, j + 1, oi, oj, t, hij, hi, hj, ht => by
    simp only [onceB, Bool.and_eq_true] at h
    exact onceB_lt l h.2 i j oi oj t (by omega) (by simpa using hi) (by simpa using hj) ht
  | o :: l, h, i, 0, oi, oj, t, hij, hi, hj, ht => by omega
def edgeB (md : Region.Mode) (o : Oper) (j : Nat) : Bool := o.after.any fun e => Region.binds md e && e.on == j
def looksB (md : Region.Mode) (o : Oper) (ts : List Tmp) : Nat → List Oper → Bool
  | _, [] => true
  | j, oj :: l => (match oj.dst with
    | none => true
    | some t => !ts.contains t || edgeB md o j) && looksB md o ts (j + 1) l
theorem looksB_spec (md : Region.Mode) (o : Oper) (ts : List Tmp) : ∀ (l : List Oper) (k : Nat), looksB md o ts k l = true → ∀ (j : Nat) (oj : Oper) (t : Tmp), l[j]? = some oj → oj.dst = some t → t ∈ ts → ∃ e ∈ o.after, Region.binds md e = true ∧ e.on = k + j
  | [], _, _, j, oj, t, hj, _, _ => by simp at hj
  | p :: l, k, h, 0, oj, t, hj, ht, hm => by
    simp at hj
    subst hj
    simp only [looksB, ht, Bool.and_eq_true] at h
    have h1 := h.1
    have hc : ts.contains t = true := by simpa using hm
    rw [hc] at h1
    simp only [Bool.not_true, Bool.false_or] at h1
    obtain ⟨e, he, hb⟩ := Array.any_eq_true'.1 h1
    simp only [Bool.and_eq_true, beq_iff_eq] at hb
    exact ⟨e, he, hb.1, by simpa using hb.2⟩
  | p :: l, k, h, j + 1, oj, t, hj, ht, hm => by
    simp only [looksB, Bool.and_eq_true] at h
    obtain ⟨e, he, hb, hon⟩ := looksB_spec md o ts l (k + 1) h.2 j oj t (by simpa using hj) ht hm
    exact ⟨e, he, hb, by omega⟩
def eachOp (F : Nat → Oper → Prop) : Nat → List Oper → Prop
  | _, [] => True
  | k, o :: l => F k o ∧ eachOp F (k + 1) l
theorem eachOp_cons {F : Nat → Oper → Prop} {k : Nat} {o : Oper} {l : List Oper} (h : F k o) (h' : eachOp F (k + 1) l) : eachOp F k (o :: l) := ⟨h, h'⟩
theorem eachOp_nil {F : Nat → Oper → Prop} {k : Nat} : eachOp F k [] := trivial
theorem eachOp_spec {F : Nat → Oper → Prop} : ∀ (l : List Oper) (k : Nat), eachOp F k l → ∀ (i : Nat) (o : Oper), l[i]? = some o → F (k + i) o
  | [], _, _, i, o, h => by simp at h
  | p :: l, k, h, 0, o, hi => by
    simp at hi
    subst hi
    exact h.1
  | p :: l, k, h, i + 1, o, hi => by
    have := eachOp_spec l (k + 1) h.2 i o (by simpa using hi)
    rwa [show k + 1 + i = k + (i + 1) by omega] at this
def eachB (F : Nat → Oper → Bool) : Nat → List Oper → Bool
  | _, [] => true
  | k, o :: l => F k o && eachB F (k + 1) l
theorem eachB_spec {F : Nat → Oper → Bool} : ∀ (l : List Oper) (k : Nat), eachB F k l = true → ∀ (i : Nat) (o : Oper), l[i]? = some o → F (k + i) o = true
  | [], _, _, i, o, h => by simp at h
  | p :: l, k, h, 0, o, hi => by
    simp at hi
    subst hi
    simp only [eachB, Bool.and_eq_true] at h
    exact h.1
  | p :: l, k, h, i + 1, o, hi => by
    simp only [eachB, Bool.and_eq_true] at h
    have := eachB_spec l (k + 1) h.2 i o (by simpa using hi)
    rwa [show k + 1 + i = k + (i + 1) by omega] at this
def plainB (md : Region.Mode) (l : List Oper) : Bool :=
  onceB l && eachB (fun i o => (o.after.all fun e => !Region.binds md e || decide (e.on < i)) && looksB md o (o.looksAt l.toArray) 0 l && (match o.op with | .select _ _ => false | _ => true)) 0 l
def outV (l : List Oper) (a : Act) (n : Nat) : List (Option Value) := (List.range n).map fun t => if l.any (fun o => o.dst == some t) then none else a.tmps[t]?
theorem plain_of {md : Region.Mode} {l : List Oper} {a0 aF : Act} (h : plainB md l = true) (hd : a0.defers = aF.defers) (hs : a0.tmps.size = aF.tmps.size) (ho : outV l a0 a0.tmps.size = outV l aF a0.tmps.size) : Plain md l.toArray a0 aF := by
  simp only [plainB, Bool.and_eq_true] at h
  obtain ⟨h1, h2⟩ := h
  have h3 : ∀ (i : Nat) (o : Oper), l[i]? = some o → (∀ e ∈ o.after, Region.binds md e = true → e.on < i) ∧ looksB md o (o.looksAt l.toArray) 0 l = true ∧ (∀ cs b, o.op ≠ .select cs b) := by
    intro i o hi
    have := eachB_spec l 0 h2 i o hi
    simp only [Bool.and_eq_true, Nat.zero_add] at this
    obtain ⟨⟨ha, hb⟩, hc⟩ := this
    refine ⟨fun e he hbd => ?_, hb, fun cs b hq => ?_⟩
    · have := (Array.all_eq_true_iff_forall_mem.1 ha) e he
      simpa [hbd] using this
    · rw [hq] at hc; cases hc
  refine ⟨?_, ?_, ?_, ?_, ?_, hd, hs⟩
  · intro i j oi oj t hi hj hti htj
    rcases Nat.lt_trichotomy i j with hlt | heq | hgt
    · exact absurd htj (onceB_lt l h1 i j oi oj t hlt (by simpa using hi) (by simpa using hj) hti)
    · exact heq
    · exact absurd hti (onceB_lt l h1 j i oj oi t hgt (by simpa using hj) (by simpa using hi) htj)
  · intro i o hi t ht j oj hj hdst
    obtain ⟨e, he, hb, hon⟩ := looksB_spec md o _ l 0 (h3 i o (by simpa using hi)).2.1 j oj t (by simpa using hj) hdst ht
    exact ⟨e, he, hb, by omega⟩
  · intro t ht
    rcases Nat.lt_or_ge t a0.tmps.size with hlt | hge
    · have h4 := congrArg (fun x => x[t]?) ho
      have hany : l.any (fun o => o.dst == some t) = false := by
        rw [List.any_eq_false]
        intro o hm hq
        obtain ⟨i, hi⟩ := List.mem_iff_getElem?.1 hm
        exact ht i o (by simpa using hi) (by simpa using hq)
      simp only [outV, List.getElem?_map, List.getElem?_range hlt, Option.map_some, hany, Bool.false_eq_true, if_false] at h4
      simpa using h4
    · rw [Array.getElem?_eq_none hge, Array.getElem?_eq_none (by omega)]
  · intro i o hi e he hb
    exact (h3 i o (by simpa using hi)).1 e he hb
  · intro i o cs b hi
    exact (h3 i o (by simpa using hi)).2.2 cs b

/-- The value that is in the operation's slot at the end. -/
def fv (o : Oper) (aF : Act) : Value := match o.dst with
  | some t => aF.tmps.getD t undef
  | none => undef
/-- What is asked of one operation, the class of worlds being one and the same all through. -/
def okOp (P : Program) (ops : Array Oper) (aF : Act) (C : World → Prop) (o : Oper) : Prop :=
  (∀ t, o.dst = some t → t < aF.tmps.size) ∧
  (Region.wanted o (yielded ops aF.tmps) = true → ∀ w, C w → leads P o aF w (fv o aF) C) ∧
  (Region.wanted o (yielded ops aF.tmps) = false → fv o aF = undef)
def inB (o : Oper) (n : Nat) : Bool := match o.dst with
  | some t => decide (t < n)
  | none => true
theorem inB_spec {o : Oper} {n : Nat} (h : inB o n = true) : ∀ t, o.dst = some t → t < n := by
  intro t ht
  unfold inB at h
  rw [ht] at h
  exact of_decide_eq_true h
section
variable {P : Program} {ops : Array Oper} {aF : Act} {C : World → Prop} {o : Oper}
theorem ok_val (hi : inB o aF.tmps.size = true) (hw : Region.wanted o (yielded ops aF.tmps) = true) (h : ∀ w, (execOp aF.eval o).run P w = .ok (.value (fv o aF)) w) : okOp P ops aF C o :=
  ⟨inB_spec hi, fun _ w hC => by unfold leads; rw [h w]; exact ⟨rfl, hC⟩, fun hf => by rw [hw] at hf; cases hf⟩
theorem ok_load (hi : inB o aF.tmps.size = true) (hw : Region.wanted o (yielded ops aF.tmps) = true) (h : ∀ w, C w → (execOp aF.eval o).run P w = .ok (.value (fv o aF)) w) : okOp P ops aF C o :=
  ⟨inB_spec hi, fun _ w hC => by unfold leads; rw [h w hC]; exact ⟨rfl, hC⟩, fun hf => by rw [hw] at hf; cases hf⟩
theorem ok_call (f : FuncId) (args : Array Value) (hi : inB o aF.tmps.size = true) (hw : Region.wanted o (yielded ops aF.tmps) = true) (h : ∀ w, (execOp aF.eval o).run P w = .ok (.enter f args) w) (hc : ∀ w, C w → Calls P f args w fun e w' => e = .returned (fv o aF) ∧ C w') : okOp P ops aF C o :=
  ⟨inB_spec hi, fun _ w hC => by unfold leads; rw [h w]; exact hc w hC, fun hf => by rw [hw] at hf; cases hf⟩
theorem ok_skip (hi : inB o aF.tmps.size = true) (hw : Region.wanted o (yielded ops aF.tmps) = false) (h : fv o aF = undef) : okOp P ops aF C o :=
  ⟨inB_spec hi, fun ht => absurd ht (by rw [hw]; simp), fun _ => h⟩
/-- A region whose operations all stay within one class of worlds. -/
theorem region_class {id : Nat} {a0 aF : Act} {w : World} {C : World → Prop} {l : List Oper} {Q : Exit → Act → World → Prop} (hm : P.follows .mixedOrders = true) (hp : Plain .any l.toArray a0 aF) (hC : C { w with drawn := w.drawn + 1 })
    (hop : eachOp (fun _ o => okOp P l.toArray aF C o) 0 l) (hQ : ∀ w, C w → Q .normal aF w) : (Code.region id l.toArray true).wp P Q a0 w := by
  refine region_solved (C := fun _ => C) hm hp hC ?_ (fun _ w _ _ h => hQ w h)
  intro i o hi listed a w' hd hr hw
  have h := eachOp_spec l 0 hop i o (by simpa using hi)
  obtain ⟨h1, h2, h3⟩ := h
  have hfv : ∀ t, o.dst = some t → aF.tmps[t]? = some (fv o aF) := by
    intro t ht
    unfold fv
    rw [ht]
    simp [h1 t ht]
  exact ⟨fun hwt => ⟨_, hfv, h2 hwt w' hw⟩, fun hwf => ⟨fun t ht => by rw [hfv t ht, h3 hwf], hw⟩⟩
end
/-- The state at the end: the first k slots as they were, then what is new; slot i at last. -/
def finA (a0 : Act) (k : Nat) (new : List Value) (i : Nat) (v0 : Value) : Act := ⟨((a0.tmps.toList.take k ++ new).set i v0).toArray, a0.defers⟩
theorem region_fin {P : Program} {id : Nat} {a0 : Act} {w : World} {l : List Oper} {Q : Exit → Act → World → Prop} (C : World → Prop) (k : Nat) (new : List Value) (i : Nat) (v0 : Value) (hm : P.follows .mixedOrders = true) (hB : plainB .any l = true)
    (hs : a0.tmps.size = (finA a0 k new i v0).tmps.size) (ho : outV l a0 a0.tmps.size = outV l (finA a0 k new i v0) a0.tmps.size) (hC : C { w with drawn := w.drawn + 1 })
    (hQ : ∀ w, C w → Q .normal (finA a0 k new i v0) w) (hop : eachOp (fun _ o => okOp P l.toArray (finA a0 k new i v0) C o) 0 l) : (Code.region id l.toArray true).wp P Q a0 w :=
  region_class hm (plain_of (aF := finA a0 k new i v0) hB rfl hs ho) hC hop hQ
end Go.Proofs.YtpbcomdlboiddaaDoor
