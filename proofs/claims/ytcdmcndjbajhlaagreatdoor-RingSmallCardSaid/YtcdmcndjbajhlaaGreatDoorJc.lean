/- Regions that draw their order and store several times, one after the other. -/
import Derived.Test.YtcdmcndjbajhlaaGreatDoorJm
import Derived.Test.YtcdmcndjbajhlaaGreatDoorQw
set_option linter.all false
set_option maxRecDepth 100000
namespace Go.Proofs.YtcdmcndjbajhlaaGreatDoor
open Go.RowKit

theorem count_set : ∀ (l : List Bool) (i : Nat), l[i]? = some false → (l.set i true).count false + 1 = l.count false
  | [], i, h => by simp at h
  | b :: l, 0, h => by
    simp at h
    subst h
    simp
  | b :: l, i + 1, h => by
    have := count_set l i (by simpa using h)
    cases b <;> simp <;> omega

section
variable {P : Program} {ops : Array Oper} {md : Region.Mode}

/-- Which of the operations are done, and what the slots hold then. -/
structure Done (md : Region.Mode) (ops : Array Oper) (a0 aF : Act) (listed : Array Bool) (a : Act) : Prop where
  size : listed.size = ops.size
  closed : ∀ (j : Nat) (oj : Oper), ops[j]? = some oj → listed.getD j false = true → ∀ e ∈ oj.after, Region.binds md e = true → listed.getD e.on false = true
  defers : a.defers = aF.defers
  sz : a.tmps.size = aF.tmps.size
  mine : ∀ (i : Nat) (o : Oper) (t : Tmp), ops[i]? = some o → listed.getD i false = true → o.dst = some t → a.tmps[t]? = aF.tmps[t]?
  other : ∀ t : Tmp, (∀ (i : Nat) (o : Oper), ops[i]? = some o → listed.getD i false = true → o.dst ≠ some t) → a.tmps[t]? = a0.tmps[t]?

/-- What is asked of the region by looking at it. -/
structure Plain (md : Region.Mode) (ops : Array Oper) (a0 aF : Act) : Prop where
  once : ∀ (i j : Nat) (oi oj : Oper) (t : Tmp), ops[i]? = some oi → ops[j]? = some oj → oi.dst = some t → oj.dst = some t → i = j
  looks : ∀ (i : Nat) (o : Oper), ops[i]? = some o → ∀ t ∈ o.looksAt ops, ∀ (j : Nat) (oj : Oper), ops[j]? = some oj → oj.dst = some t → ∃ e ∈ o.after, Region.binds md e = true ∧ e.on = j
  outside : ∀ t : Tmp, (∀ (i : Nat) (o : Oper), ops[i]? = some o → o.dst ≠ some t) → a0.tmps[t]? = aF.tmps[t]?
  early : ∀ (i : Nat) (o : Oper), ops[i]? = some o → ∀ e ∈ o.after, Region.binds md e = true → e.on < i
  noSel : ∀ (i : Nat) (o : Oper) (cs : Array SelectCase) (b : Bool), ops[i]? = some o → o.op ≠ .select cs b
  defers : a0.defers = aF.defers
  sz : a0.tmps.size = aF.tmps.size

/-- The operation, at the values of the end, leaves v, and a world of the class C. -/
def leads (P : Program) (o : Oper) (aF : Act) (w : World) (v : Value) (C : World → Prop) : Prop :=
  match (execOp aF.eval o).run P w with
  | .ok (.value u) w' => u = v ∧ C w'
  | .ok .skip w' => v = undef ∧ C w'
  | .ok (.enter f args) w' => Calls P f args w' fun e w'' => e = .returned v ∧ C w''
  | _ => False

theorem Plain.all {a0 aF : Act} (hp : Plain md ops a0 aF) {listed : Array Bool} {a : Act} (hd : Done md ops a0 aF listed a) (hr : Region.ready md ops listed = []) : ∀ j, j < ops.size → listed.getD j false = true := by
  intro j
  induction j using Nat.strongRecOn with
  | _ j ih =>
    intro hj
    cases hl : listed.getD j false with
    | true => rfl
    | false =>
      have hj' : j < listed.size := by rw [hd.size]; exact hj
      have hu : listed.getD j true = false := by simp [hj'] at hl ⊢; exact hl
      have hm : j ∈ Region.ready md ops listed := mem_ready.2 ⟨hu, ops[j], Array.getElem?_eq_getElem hj, fun e he hb => by
        have h1 := hp.early j _ (Array.getElem?_eq_getElem hj) e he hb
        exact ih e.on h1 (by omega)⟩
      rw [hr] at hm
      cases hm

theorem Plain.end {a0 aF : Act} (hp : Plain md ops a0 aF) {listed : Array Bool} {a : Act} (hd : Done md ops a0 aF listed a) (hr : ∀ j, j < ops.size → listed.getD j false = true) : a = aF := by
  obtain ⟨ts, ds⟩ := a
  obtain ⟨tF, dF⟩ := aF
  have h1 : ds = dF := hd.defers
  have h2 : ts = tF := by
    apply Array.ext_getElem?
    intro t
    by_cases h : ∃ (i : Nat) (o : Oper), ops[i]? = some o ∧ o.dst = some t
    · obtain ⟨i, o, hi, ho⟩ := h
      exact hd.mine i o t hi (hr i (Array.getElem?_eq_some_iff.1 hi).1) ho
    · have h' : ∀ (i : Nat) (o : Oper), ops[i]? = some o → o.dst ≠ some t := fun i o hi ho => h ⟨i, o, hi, ho⟩
      exact (hd.other t fun i o hi _ => h' i o hi).trans (hp.outside t h')
  rw [h1, h2]

theorem Done.eval {a0 aF : Act} (hp : Plain md ops a0 aF) {listed : Array Bool} {a : Act} (hd : Done md ops a0 aF listed a) {i : Nat} {o : Oper} (hi : ops[i]? = some o) (hr : i ∈ Region.ready md ops listed) :
    ∀ t ∈ o.looksAt ops, a.tmps[t]? = aF.tmps[t]? := by
  intro t ht
  obtain ⟨_, o', ho', hall⟩ := mem_ready.1 hr
  have : o' = o := Option.some.inj (ho'.symm.trans hi)
  subst this
  by_cases h : ∃ (j : Nat) (oj : Oper), ops[j]? = some oj ∧ oj.dst = some t
  · obtain ⟨j, oj, hj, hdst⟩ := h
    obtain ⟨e, he, hb, hon⟩ := hp.looks i o' hi t ht j oj hj hdst
    exact hd.mine j oj t hj (hon ▸ hall e he hb) hdst
  · have h' : ∀ (j : Nat) (oj : Oper), ops[j]? = some oj → oj.dst ≠ some t := fun j oj hj hdst => h ⟨j, oj, hj, hdst⟩
    exact (hd.other t fun j oj hj _ => h' j oj hj).trans (hp.outside t h')

theorem Done.put {a0 aF : Act} (hp : Plain md ops a0 aF) {listed : Array Bool} {a : Act} (hd : Done md ops a0 aF listed a) {i : Nat} {o : Oper} (hi : ops[i]? = some o) (hr : i ∈ Region.ready md ops listed)
    {v : Value} (hv : ∀ t, o.dst = some t → aF.tmps[t]? = some v) : Done md ops a0 aF (listed.setIfInBounds i true) (a.put o.dst v) := by
  obtain ⟨hun, o', ho', hall⟩ := mem_ready.1 hr
  have : o' = o := Option.some.inj (ho'.symm.trans hi)
  subst this
  have hputt : ∀ t, o'.dst = some t → (a.put o'.dst v).tmps[t]? = aF.tmps[t]? := by
    intro t ht
    have hlt : t < a.tmps.size := by
      rw [hd.sz]
      exact (Array.getElem?_eq_some_iff.1 (hv t ht)).1
    rw [hv t ht, ht]
    simp [Act.put, hlt]
  have hputn : ∀ t, o'.dst ≠ some t → (a.put o'.dst v).tmps[t]? = a.tmps[t]? := by
    intro t ht
    cases hdst : o'.dst with
    | none => rfl
    | some d =>
      have hne : d ≠ t := fun h => ht (by rw [hdst, h])
      simp [Act.put, Array.getElem?_setIfInBounds_ne hne]
  refine ⟨by simp [hd.size], ?_, ?_, ?_, ?_, ?_⟩
  · intro j oj hj hl e he hb
    by_cases hij : i = j
    · subst hij
      have : oj = o' := Option.some.inj (hj.symm.trans hi)
      subst this
      exact getD_set_true (hall e he hb)
    · rw [getD_set_ne false hij] at hl
      exact getD_set_true (hd.closed j oj hj hl e he hb)
  · cases hdst : o'.dst <;> simpa [Act.put] using hd.defers
  · cases hdst : o'.dst <;> simpa [Act.put] using hd.sz
  · intro j oj t hj hl ht
    by_cases hij : i = j
    · subst hij
      have : oj = o' := Option.some.inj (hj.symm.trans hi)
      subst this
      exact hputt t ht
    · rw [getD_set_ne false hij] at hl
      rw [hputn t (fun h => hij (hp.once i j _ _ t hi hj h ht))]
      exact hd.mine j oj t hj hl ht
  · intro t h
    have hlt : i < listed.size := by rw [hd.size]; exact (Array.getElem?_eq_some_iff.1 hi).1
    rw [hputn t (h i o' hi (by simp [hlt]))]
    exact hd.other t fun j oj hj hl => h j oj hj (getD_set_true hl)

theorem wpAny_solved {a0 aF : Act} {C : Array Bool → World → Prop} {Q : Exit → Act → World → Prop} (hp : Plain md ops a0 aF)
    (hop : ∀ (i : Nat) (o : Oper), ops[i]? = some o → ∀ (listed : Array Bool) (a : Act) (w : World), Done md ops a0 aF listed a → i ∈ Region.ready md ops listed → C listed w →
      (Region.wanted o (yielded ops aF.tmps) = true → ∃ v, (∀ t, o.dst = some t → aF.tmps[t]? = some v) ∧ leads P o aF w v (C (listed.setIfInBounds i true))) ∧
      (Region.wanted o (yielded ops aF.tmps) = false → (∀ t, o.dst = some t → aF.tmps[t]? = some undef) ∧ C (listed.setIfInBounds i true) w))
    (hQ : ∀ (listed : Array Bool) (w : World), listed.size = ops.size → (∀ j, j < ops.size → listed.getD j false = true) → C listed w → Q .normal aF w) :
    ∀ (fuel : Nat) (listed : Array Bool) (a : Act) (w : World), listed.toList.count false ≤ fuel → Done md ops a0 aF listed a → C listed w → wpAny P md ops Q fuel listed a w := by
  intro fuel
  induction fuel with
  | zero =>
    intro listed a w hc hd hC
    have hr : Region.ready md ops listed = [] := by
      rw [List.eq_nil_iff_forall_not_mem]
      intro j hj
      have hu := (mem_ready.1 hj).1
      have hlt : j < listed.size := by
        rcases Nat.lt_or_ge j listed.size with h | h
        · exact h
        · simp [Array.getElem?_eq_none h] at hu
      have hf : listed.toList[j]? = some false := by
        simp [hlt] at hu ⊢
        exact hu
      have : 0 < listed.toList.count false := List.count_pos_iff.2 (List.mem_of_getElem? hf)
      omega
    have hall := hp.all hd hr
    have ha := hp.end hd hall
    subst ha
    exact ⟨hr, hQ listed w hd.size hall hC⟩
  | succ fuel ih =>
    intro listed a w hc hd hC
    refine ⟨fun hr => ?_, fun i hi => ?_⟩
    · have hall := hp.all hd hr
      have ha := hp.end hd hall
      subst ha
      exact hQ listed w hd.size hall hC
    · obtain ⟨hun, o, ho, hall⟩ := mem_ready.1 hi
      have hlt : i < listed.size := by rw [hd.size]; exact (Array.getElem?_eq_some_iff.1 ho).1
      have hf : listed.toList[i]? = some false := by
        simp [hlt] at hun ⊢
        exact hun
      have hcnt := count_set listed.toList i hf
      have hcnt' : (listed.setIfInBounds i true).toList.count false ≤ fuel := by
        rw [Array.toList_setIfInBounds]; omega
      have hev := hd.eval hp ho hi
      have hex : execOp a.eval o = execOp aF.eval o := execOp_congr o (fun cs b => hp.noSel i o cs b ho) fun x hx => by
        cases x with
        | tmp t =>
          have ht : t ∈ o.looksAt ops := List.mem_append_left _ (List.mem_filterMap.2 ⟨.tmp t, by simpa using hx, rfl⟩)
          simp [Act.eval, Array.getD_eq_getD_getElem?, hev t ht]
        | _ => rfl
      have hwt : Region.wanted o (yielded ops a.tmps) = Region.wanted o (yielded ops aF.tmps) := by
        unfold Region.wanted
        split
        · rfl
        · rename_i j want hg
          have : yielded ops a.tmps j = yielded ops aF.tmps j := by
            unfold yielded
            cases hd1 : (ops[j]?).bind (·.dst) with
            | none => rfl
            | some d =>
              have ht : d ∈ o.looksAt ops := List.mem_append_right _ (by simp [hg, hd1])
              simp [hev d ht]
          rw [this]
      obtain ⟨h1, h2⟩ := hop i o ho listed a w hd hi hC
      unfold wpOp
      simp only [ho, hwt]
      split
      · rename_i hw
        obtain ⟨v, hv, hl⟩ := h1 hw
        have hd' := hd.put hp ho hi hv
        left
        unfold Oper.wp
        rw [hex]
        unfold leads at hl
        generalize (execOp aF.eval o).run P w = r at *
        cases r with
        | ok n w' =>
          cases n <;> simp only [Oper.upon] at hl ⊢
          case value u =>
            obtain ⟨rfl, hC'⟩ := hl
            exact ih _ _ _ hcnt' hd' hC'
          case skip =>
            obtain ⟨rfl, hC'⟩ := hl
            exact ih _ _ _ hcnt' hd' hC'
          case enter f args =>
            exact hl.mono fun e w'' ⟨he, hC'⟩ => by subst he; exact ih _ _ _ hcnt' hd' hC'
        | halt x w' => exact hl.elim
      · rename_i hw
        obtain ⟨hv, hC'⟩ := h2 (by simpa using hw)
        exact ih _ _ _ hcnt' (hd.put hp ho hi hv) hC'

/-- **A solved region.** -/
theorem region_solved {id : Nat} {a0 aF : Act} {w : World} {C : Array Bool → World → Prop} {Q : Exit → Act → World → Prop} (hm : P.follows .mixedOrders = true) (hp : Plain .any ops a0 aF) (hC : C (Array.replicate ops.size false) { w with drawn := w.drawn + 1 })
    (hop : ∀ (i : Nat) (o : Oper), ops[i]? = some o → ∀ (listed : Array Bool) (a : Act) (w : World), Done .any ops a0 aF listed a → i ∈ Region.ready .any ops listed → C listed w →
      (Region.wanted o (yielded ops aF.tmps) = true → ∃ v, (∀ t, o.dst = some t → aF.tmps[t]? = some v) ∧ leads P o aF w v (C (listed.setIfInBounds i true))) ∧
      (Region.wanted o (yielded ops aF.tmps) = false → (∀ t, o.dst = some t → aF.tmps[t]? = some undef) ∧ C (listed.setIfInBounds i true) w))
    (hQ : ∀ (listed : Array Bool) (w : World), listed.size = ops.size → (∀ j, j < ops.size → listed.getD j false = true) → C listed w → Q .normal aF w) : (Code.region id ops true).wp P Q a0 w := by
  refine wp_region_any hm (wpAny_solved hp hop hQ _ _ _ _ ?_ ?_ hC)
  · rw [Array.toList_replicate]
    exact Nat.le_trans List.count_le_length (by simp)
  · refine ⟨by simp, fun j _ _ hl => ?_, hp.defers, hp.sz, fun i _ _ _ hl => ?_, fun t _ => rfl⟩
    · exfalso; revert hl; by_cases hj : j < ops.size <;> simp [hj]
    · exfalso; revert hl; by_cases hj : i < ops.size <;> simp [hj]
end
end Go.Proofs.YtcdmcndjbajhlaaGreatDoor
namespace Go.Proofs.YtcdmcndjbajhlaaGreatDoor
open Go.RowKit

def onceB : List Oper → Bool
  | [] => true
  | o :: l => (match o.dst with
    | none => true
    | some t => l.all fun p => p.dst != some t) && onceB l
theorem onceB_lt : ∀ (l : List Oper), onceB l = true → ∀ (i j : Nat) (oi oj : Oper) (t : Tmp), i < j → l[i]? = some oi → l[j]? = some oj → oi.dst = some t → oj.dst ≠ some t
  | [], _, i, j, oi, oj, t, _, hi, _, _ => by simp at hi
  | o :: l, h, 0, j + 1, oi, oj, t, _, hi, hj, ht => by
    simp only [onceB, Bool.and_eq_true] at h
    simp at hi
    subst hi
    rw [ht] at h
    have h1 := List.all_eq_true.1 h.1 oj (List.mem_of_getElem? (by simpa using hj))
    simpa using h1
  | o :: l, h, i + 1, j + 1, oi, oj, t, hij, hi, hj, ht => by
    simp only [onceB, Bool.and_eq_true] at h
    exact onceB_lt l h.2 i j oi oj t (by omega) (by simpa using hi) (by simpa using hj) ht
  | o :: l, h, i, 0, oi, oj, t, hij, hi, hj, ht => by omega
def edgeB (md : Region.Mode) (o : Oper) (j : Nat) : Bool := o.after.any fun e => Region.binds md e && e.on == j
def looksB (md : Region.Mode) (o : Oper) (ts : List Tmp) : Nat → List Oper → Bool
  | _, [] => true
  | j, oj :: l => (match oj.dst with
    | none => true
    | some t => !ts.contains t || edgeB md o j) && looksB md o ts (j + 1) l
theorem looksB_spec (md : Region.Mode) (o : Oper) (ts : List Tmp) : ∀ (l : List Oper) (k : Nat), looksB md o ts k l = true → ∀ (j : Nat) (oj : Oper) (t : Tmp), l[j]? = some oj → oj.dst = some t → t ∈ ts → ∃ e ∈ o.after, Region.binds md e = true ∧ e.on = k + j
  | [], _, _, j, oj, t, hj, _, _ => by simp at hj
  | p :: l, k, h, 0, oj, t, hj, ht, hm => by
    simp at hj
    subst hj
    simp only [looksB, ht, Bool.and_eq_true] at h
    have h1 := h.1
    have hc : ts.contains t = true := by simpa using hm
    rw [hc] at h1
    simp only [Bool.not_true, Bool.false_or] at h1
    obtain ⟨e, he, hb⟩ := Array.any_eq_true'.1 h1
    simp only [Bool.and_eq_true, beq_iff_eq] at hb
    exact ⟨e, he, hb.1, by simpa using hb.2⟩
  | p :: l, k, h, j + 1, oj, t, hj, ht, hm => by
    simp only [looksB, Bool.and_eq_true] at h
    obtain ⟨e, he, hb, hon⟩ := looksB_spec md o ts l (k + 1) h.2 j oj t (by simpa using hj) ht hm
    exact ⟨e, he, hb, by omega⟩
def eachOp (F : Nat → Oper → Prop) : Nat → List Oper → Prop
  | _, [] => True
  | k, o :: l => F k o ∧ eachOp F (k + 1) l
theorem eachOp_cons {F : Nat → Oper → Prop} {k : Nat} {o : Oper} {l : List Oper} (h : F k o) (h' : eachOp F (k + 1) l) : eachOp F k (o :: l) := ⟨h, h'⟩
theorem eachOp_nil {F : Nat → Oper → Prop} {k : Nat} : eachOp F k [] := trivial
theorem eachOp_spec {F : Nat → Oper → Prop} : ∀ (l : List Oper) (k : Nat), eachOp F k l → ∀ (i : Nat) (o : Oper), l[i]? = some o → F (k + i) o
  | [], _, _, i, o, h => by simp at h
  | p :: l, k, h, 0, o, hi => by
    simp at hi
    subst hi
    exact h.1
  | p :: l, k, h, i + 1, o, hi => by
    have := eachOp_spec l (k + 1) h.2 i o (by simpa using hi)
    rwa [show k + 1 + i = k + (i + 1) by omega] at this
def eachB (F : Nat → Oper → Bool) : Nat → List Oper → Bool
  | _, [] => true
  | k, o :: l => F k o && eachB F (k + 1) l
theorem eachB_spec {F : Nat → Oper → Bool} : ∀ (l : List Oper) (k : Nat), eachB F k l = true → ∀ (i : Nat) (o : Oper), l[i]? = some o → F (k + i) o = true
  | [], _, _, i, o, h => by simp at h
  | p :: l, k, h, 0, o, hi => by
    simp at hi
    subst hi
    simp only [eachB, Bool.and_eq_true] at h
    exact h.1
  | p :: l, k, h, i + 1, o, hi => by
    simp only [eachB, Bool.and_eq_true] at h
    have := eachB_spec l (k + 1) h.2 i o (by simpa using hi)
    rwa [show k + 1 + i = k + (i + 1) by omega] at this
def plainB (md : Region.Mode) (l : List Oper) : Bool :=
  onceB l && eachB (fun i o => (o.after.all fun e => !Region.binds md e || decide (e.on < i)) && looksB md o (o.looksAt l.toArray) 0 l && (match o.op with | .select _ _ => false | _ => true)) 0 l
def outV (l : List Oper) (a : Act) (n : Nat) : List (Option Value) := (List.range n).map fun t => if l.any (fun o => o.dst == some t) then none else a.tmps[t]?
theorem plain_of {md : Region.Mode} {l : List Oper} {a0 aF : Act} (h : plainB md l = true) (hd : a0.defers = aF.defers) (hs : a0.tmps.size = aF.tmps.size) (ho : outV l a0 a0.tmps.size = outV l aF a0.tmps.size) : Plain md l.toArray a0 aF := by
  simp only [plainB, Bool.and_eq_true] at h
  obtain ⟨h1, h2⟩ := h
  have h3 : ∀ (i : Nat) (o : Oper), l[i]? = some o → (∀ e ∈ o.after, Region.binds md e = true → e.on < i) ∧ looksB md o (o.looksAt l.toArray) 0 l = true ∧ (∀ cs b, o.op ≠ .select cs b) := by
    intro i o hi
    have := eachB_spec l 0 h2 i o hi
    simp only [Bool.and_eq_true, Nat.zero_add] at this
    obtain ⟨⟨ha, hb⟩, hc⟩ := this
    refine ⟨fun e he hbd => ?_, hb, fun cs b hq => ?_⟩
    · have := (Array.all_eq_true_iff_forall_mem.1 ha) e he
      simpa [hbd] using this
    · rw [hq] at hc; cases hc
  refine ⟨?_, ?_, ?_, ?_, ?_, hd, hs⟩
  · intro i j oi oj t hi hj hti htj
    rcases Nat.lt_trichotomy i j with hlt | heq | hgt
    · exact absurd htj (onceB_lt l h1 i j oi oj t hlt (by simpa using hi) (by simpa using hj) hti)
    · exact heq
    · exact absurd hti (onceB_lt l h1 j i oj oi t hgt (by simpa using hj) (by simpa using hi) htj)
  · intro i o hi t ht j oj hj hdst
    obtain ⟨e, he, hb, hon⟩ := looksB_spec md o _ l 0 (h3 i o (by simpa using hi)).2.1 j oj t (by simpa using hj) hdst ht
    exact ⟨e, he, hb, by omega⟩
  · intro t ht
    rcases Nat.lt_or_ge t a0.tmps.size with hlt | hge
    · have h4 := congrArg (fun x => x[t]?) ho
      have hany : l.any (fun o => o.dst == some t) = false := by
        rw [List.any_eq_false]
        intro o hm hq
        obtain ⟨i, hi⟩ := List.mem_iff_getElem?.1 hm
        exact ht i o (by simpa using hi) (by simpa using hq)
      simp only [outV, List.getElem?_map, List.getElem?_range hlt, Option.map_some, hany, Bool.false_eq_true, if_false] at h4
      simpa using h4
    · rw [Array.getElem?_eq_none hge, Array.getElem?_eq_none (by omega)]
  · intro i o hi e he hb
    exact (h3 i o (by simpa using hi)).1 e he hb
  · intro i o cs b hi
    exact (h3 i o (by simpa using hi)).2.2 cs b

/-- The value that is in the operation's slot at the end. -/
def fv (o : Oper) (aF : Act) : Value := match o.dst with
  | some t => aF.tmps.getD t undef
  | none => undef
/-- What is asked of one operation, the class of worlds being one and the same all through. -/
def okOp (P : Program) (ops : Array Oper) (aF : Act) (C : World → Prop) (o : Oper) : Prop :=
  (∀ t, o.dst = some t → t < aF.tmps.size) ∧
  (Region.wanted o (yielded ops aF.tmps) = true → ∀ w, C w → leads P o aF w (fv o aF) C) ∧
  (Region.wanted o (yielded ops aF.tmps) = false → fv o aF = undef)
def inB (o : Oper) (n : Nat) : Bool := match o.dst with
  | some t => decide (t < n)
  | none => true
theorem inB_spec {o : Oper} {n : Nat} (h : inB o n = true) : ∀ t, o.dst = some t → t < n := by
  intro t ht
  unfold inB at h
  rw [ht] at h
  exact of_decide_eq_true h
section
variable {P : Program} {ops : Array Oper} {aF : Act} {C : World → Prop} {o : Oper}
theorem ok_val (hi : inB o aF.tmps.size = true) (hw : Region.wanted o (yielded ops aF.tmps) = true) (h : ∀ w, (execOp aF.eval o).run P w = .ok (.value (fv o aF)) w) : okOp P ops aF C o :=
  ⟨inB_spec hi, fun _ w hC => by unfold leads; rw [h w]; exact ⟨rfl, hC⟩, fun hf => by rw [hw] at hf; cases hf⟩
theorem ok_load (hi : inB o aF.tmps.size = true) (hw : Region.wanted o (yielded ops aF.tmps) = true) (h : ∀ w, C w → (execOp aF.eval o).run P w = .ok (.value (fv o aF)) w) : okOp P ops aF C o :=
  ⟨inB_spec hi, fun _ w hC => by unfold leads; rw [h w hC]; exact ⟨rfl, hC⟩, fun hf => by rw [hw] at hf; cases hf⟩
theorem ok_call (f : FuncId) (args : Array Value) (hi : inB o aF.tmps.size = true) (hw : Region.wanted o (yielded ops aF.tmps) = true) (h : ∀ w, (execOp aF.eval o).run P w = .ok (.enter f args) w) (hc : ∀ w, C w → Calls P f args w fun e w' => e = .returned (fv o aF) ∧ C w') : okOp P ops aF C o :=
  ⟨inB_spec hi, fun _ w hC => by unfold leads; rw [h w]; exact hc w hC, fun hf => by rw [hw] at hf; cases hf⟩
theorem ok_skip (hi : inB o aF.tmps.size = true) (hw : Region.wanted o (yielded ops aF.tmps) = false) (h : fv o aF = undef) : okOp P ops aF C o :=
  ⟨inB_spec hi, fun ht => absurd ht (by rw [hw]; simp), fun _ => h⟩
/-- A region whose operations all stay within one class of worlds. -/
theorem region_class {id : Nat} {a0 aF : Act} {w : World} {C : World → Prop} {l : List Oper} {Q : Exit → Act → World → Prop} (hm : P.follows .mixedOrders = true) (hp : Plain .any l.toArray a0 aF) (hC : C { w with drawn := w.drawn + 1 })
    (hop : eachOp (fun _ o => okOp P l.toArray aF C o) 0 l) (hQ : ∀ w, C w → Q .normal aF w) : (Code.region id l.toArray true).wp P Q a0 w := by
  refine region_solved (C := fun _ => C) hm hp hC ?_ (fun _ w _ _ h => hQ w h)
  intro i o hi listed a w' hd hr hw
  have h := eachOp_spec l 0 hop i o (by simpa using hi)
  obtain ⟨h1, h2, h3⟩ := h
  have hfv : ∀ t, o.dst = some t → aF.tmps[t]? = some (fv o aF) := by
    intro t ht
    unfold fv
    rw [ht]
    simp [h1 t ht]
  exact ⟨fun hwt => ⟨_, hfv, h2 hwt w' hw⟩, fun hwf => ⟨fun t ht => by rw [hfv t ht, h3 hwf], hw⟩⟩
end
/-- The state at the end: the first k slots as they were, then what is new; slot i at last. -/
def finA (a0 : Act) (k : Nat) (new : List Value) (i : Nat) (v0 : Value) : Act := ⟨((a0.tmps.toList.take k ++ new).set i v0).toArray, a0.defers⟩
theorem region_fin {P : Program} {id : Nat} {a0 : Act} {w : World} {l : List Oper} {Q : Exit → Act → World → Prop} (C : World → Prop) (k : Nat) (new : List Value) (i : Nat) (v0 : Value) (hm : P.follows .mixedOrders = true) (hB : plainB .any l = true)
    (hs : a0.tmps.size = (finA a0 k new i v0).tmps.size) (ho : outV l a0 a0.tmps.size = outV l (finA a0 k new i v0) a0.tmps.size) (hC : C { w with drawn := w.drawn + 1 })
    (hQ : ∀ w, C w → Q .normal (finA a0 k new i v0) w) (hop : eachOp (fun _ o => okOp P l.toArray (finA a0 k new i v0) C o) 0 l) : (Code.region id l.toArray true).wp P Q a0 w :=
  region_class hm (plain_of (aF := finA a0 k new i v0) hB rfl hs ho) hC hop hQ
end Go.Proofs.YtcdmcndjbajhlaaGreatDoor
namespace Go.Proofs.YtcdmcndjbajhlaaGreatDoor
open Go.RowKit

/-- What is asked of operation i: s is the number of the one that stores; b tells whether that one has been done. -/
def okOpS (P : Program) (ops : Array Oper) (aF : Act) (C : Bool → World → Prop) (s i : Nat) (o : Oper) : Prop :=
  (∀ t, o.dst = some t → t < aF.tmps.size) ∧
  (Region.wanted o (yielded ops aF.tmps) = true → ∀ b w, (i = s → b = false) → C b w → leads P o aF w (fv o aF) (C (b || decide (i = s)))) ∧
  (Region.wanted o (yielded ops aF.tmps) = false → fv o aF = undef ∧ i ≠ s)
section
variable {P : Program} {ops : Array Oper} {aF : Act} {C : Bool → World → Prop} {o : Oper} {s i : Nat}
theorem okS_val (hn : (i != s) = true) (hi : inB o aF.tmps.size = true) (hw : Region.wanted o (yielded ops aF.tmps) = true) (h : ∀ w, (execOp aF.eval o).run P w = .ok (.value (fv o aF)) w) : okOpS P ops aF C s i o :=
  ⟨inB_spec hi, fun _ b w _ hC => by
    have hd : decide (i = s) = false := by simpa using hn
    unfold leads; rw [h w, hd, Bool.or_false]; exact ⟨rfl, hC⟩, fun hf => by rw [hw] at hf; cases hf⟩
theorem okS_load (hn : (i != s) = true) (hi : inB o aF.tmps.size = true) (hw : Region.wanted o (yielded ops aF.tmps) = true) (h : ∀ b w, C b w → (execOp aF.eval o).run P w = .ok (.value (fv o aF)) w) : okOpS P ops aF C s i o :=
  ⟨inB_spec hi, fun _ b w _ hC => by
    have hd : decide (i = s) = false := by simpa using hn
    unfold leads; rw [h b w hC, hd, Bool.or_false]; exact ⟨rfl, hC⟩, fun hf => by rw [hw] at hf; cases hf⟩
theorem okS_call (f : FuncId) (args : Array Value) (hn : (i != s) = true) (hi : inB o aF.tmps.size = true) (hw : Region.wanted o (yielded ops aF.tmps) = true) (h : ∀ w, (execOp aF.eval o).run P w = .ok (.enter f args) w) (hc : ∀ b w, C b w → Calls P f args w fun e w' => e = .returned (fv o aF) ∧ C b w') : okOpS P ops aF C s i o :=
  ⟨inB_spec hi, fun _ b w _ hC => by
    have hd : decide (i = s) = false := by simpa using hn
    unfold leads; rw [h w, hd, Bool.or_false]; exact hc b w hC, fun hf => by rw [hw] at hf; cases hf⟩
theorem okS_store (hn : (i == s) = true) (hi : inB o aF.tmps.size = true) (hw : Region.wanted o (yielded ops aF.tmps) = true) (hv : fv o aF = undef) (h : ∀ w, C false w → ∃ w', (execOp aF.eval o).run P w = .ok .skip w' ∧ C true w') : okOpS P ops aF C s i o :=
  ⟨inB_spec hi, fun _ b w hb hC => by
    have hs : i = s := by simpa using hn
    have hb' := hb hs
    subst hb'
    obtain ⟨w', h1, h2⟩ := h w hC
    have hd : decide (i = s) = true := by simpa using hs
    unfold leads; rw [h1, hd, hv]; exact ⟨rfl, h2⟩, fun hf => by rw [hw] at hf; cases hf⟩
theorem region_store {id : Nat} {a0 : Act} {w : World} {l : List Oper} {Q : Exit → Act → World → Prop} (C : Bool → World → Prop) (s k : Nat) (new : List Value) (i : Nat) (v0 : Value) (hm : P.follows .mixedOrders = true) (hB : plainB .any l = true)
    (hs : a0.tmps.size = (finA a0 k new i v0).tmps.size) (ho : outV l a0 a0.tmps.size = outV l (finA a0 k new i v0) a0.tmps.size) (hsl : decide (s < l.length) = true) (hC : C false { w with drawn := w.drawn + 1 })
    (hQ : ∀ w, C true w → Q .normal (finA a0 k new i v0) w) (hop : eachOp (fun j o => okOpS P l.toArray (finA a0 k new i v0) C s j o) 0 l) : (Code.region id l.toArray true).wp P Q a0 w := by
  have hsl' := of_decide_eq_true hsl
  refine region_solved (C := fun listed w => C (listed.getD s false) w) hm (plain_of (aF := finA a0 k new i v0) hB rfl hs ho) ?_ ?_ ?_
  · have : (Array.replicate l.toArray.size false).getD s false = false := by simp [hsl']
    rw [this]; exact hC
  · intro j o hj listed a w' hd hr hw
    have h := eachOp_spec l 0 hop j o (by simpa using hj)
    rw [Nat.zero_add] at h
    obtain ⟨h1, h2, h3⟩ := h
    have hlt : j < listed.size := by rw [hd.size]; exact (Array.getElem?_eq_some_iff.1 hj).1
    have hun := (mem_ready.1 hr).1
    have hfv : ∀ t, o.dst = some t → (finA a0 k new i v0).tmps[t]? = some (fv o (finA a0 k new i v0)) := by
      intro t ht
      unfold fv
      rw [ht]
      simp [h1 t ht]
    have hflag : (listed.setIfInBounds j true).getD s false = (listed.getD s false || decide (j = s)) := by
      by_cases hjs : j = s
      · subst hjs
        simp [hlt]
      · rw [getD_set_ne false hjs]
        simp [hjs]
    have hfalse : j = s → listed.getD s false = false := by
      intro hjs
      subst hjs
      simp [hlt] at hun ⊢
      exact hun
    refine ⟨fun hwt => ⟨_, hfv, ?_⟩, fun hwf => ⟨fun t ht => by rw [hfv t ht, (h3 hwf).1], ?_⟩⟩
    · rw [hflag]
      exact h2 hwt _ w' hfalse hw
    · rw [hflag]
      have : decide (j = s) = false := by simpa using (h3 hwf).2
      rw [this, Bool.or_false]
      exact hw
  · intro listed w' hsz hall hw
    have : listed.getD s false = true := hall s (by simpa using hsl')
    rw [this] at hw
    exact hQ w' hw
end
/-- A number is stored. -/
theorem store_num {o : Oper} {a : Act} {s t : Operand} {b : Nat} {x y : Nm} {W : World} (ho : o.op = .store 23 s t) (hs : a.eval s = .pointer (some ⟨b, 0, none⟩)) (ht : a.eval t = y.v) (hb : Box W b 23 x) :
    (execOp a.eval o).run Tryz.prog W = .ok .skip (((((W.setCell ⟨b, 0, none⟩ (.int .i64 y.A)).setCell ⟨b, 1, none⟩ (.int .i64 y.B)).setCell ⟨b, 2, none⟩ (.int .i64 y.C)).setCell ⟨b, 3, none⟩ (.int .i64 y.D)).setCell ⟨b, 4, none⟩ (.int .i64 y.K)) := by
  obtain ⟨h0, h1, h2, h3, h4⟩ := hb.cell
  obtain ⟨f0, f1, f2, f3, f4⟩ := hb.free
  obtain ⟨dst, op, ty, pos, af, gd⟩ := o
  dsimp only at ho
  subst ho
  generalize a.eval = e at *
  simp [go_sem, hs, ht, h0, h1, h2, h3, h4, f0, f1, f2, f3, f4]
end Go.Proofs.YtcdmcndjbajhlaaGreatDoor
namespace Go.Proofs.YtcdmcndjbajhlaaGreatDoor
open Go.RowKit

/-- The first n of the stores are done, the others not. -/
def UpTo (S : List Nat) (listed : Array Bool) (n : Nat) : Prop := n ≤ S.length ∧ ∀ (j s : Nat), S[j]? = some s → listed.getD s false = decide (j < n)
/-- What is asked of operation i: it is free of the world, or it is early (before some store k), or it is the store k. -/
def okOpM (P : Program) (ops : Array Oper) (aF : Act) (C : Nat → World → Prop) (S : List Nat) (i : Nat) (o : Oper) : Prop :=
  (∀ t, o.dst = some t → t < aF.tmps.size) ∧ Region.wanted o (yielded ops aF.tmps) = true ∧
  ((S.contains i = false ∧ ∀ n w, C n w → leads P o aF w (fv o aF) (C n)) ∨
   (S.contains i = false ∧ ∃ k s os, S[k]? = some s ∧ ops[s]? = some os ∧ edgeB .any os i = true ∧ ∀ n w, n ≤ k → C n w → leads P o aF w (fv o aF) (C n)) ∨
   ∃ k, S[k]? = some i ∧ ∀ w, C k w → leads P o aF w (fv o aF) (C (k + 1)))
/-- Each store waits for those before it; none stands twice. -/
def chainB (l : List Oper) : List Nat → Bool
  | [] => true
  | s :: S => (S.all fun s' => s' != s && (match l[s']? with
    | some o => edgeB .any o s
    | none => false)) && decide (s < l.length) && chainB l S
theorem edgeB_spec {md : Region.Mode} {o : Oper} {j : Nat} (h : edgeB md o j = true) : ∃ e ∈ o.after, Region.binds md e = true ∧ e.on = j := by
  obtain ⟨e, he, hb⟩ := Array.any_eq_true'.1 h
  simp only [Bool.and_eq_true, beq_iff_eq] at hb
  exact ⟨e, he, hb.1, hb.2⟩
theorem chainB_lt {l : List Oper} : ∀ (S : List Nat), chainB l S = true → ∀ (j k s s' : Nat), j < k → S[j]? = some s → S[k]? = some s' → s' ≠ s ∧ ∃ o, l[s']? = some o ∧ edgeB .any o s = true
  | [], _, j, k, s, s', _, h, _ => by simp at h
  | a :: S, h, 0, k + 1, s, s', _, hj, hk => by
    simp only [chainB, Bool.and_eq_true] at h
    simp at hj
    subst hj
    have h1 := List.all_eq_true.1 h.1.1 s' (List.mem_of_getElem? (by simpa using hk))
    simp only [Bool.and_eq_true] at h1
    obtain ⟨h2, h3⟩ := h1
    cases ho : l[s']? with
    | none => rw [ho] at h3; cases h3
    | some o => rw [ho] at h3; exact ⟨by simpa using h2, o, rfl, h3⟩
  | a :: S, h, j + 1, k + 1, s, s', hjk, hj, hk => by
    simp only [chainB, Bool.and_eq_true] at h
    exact chainB_lt S h.2 j k s s' (by omega) (by simpa using hj) (by simpa using hk)
  | a :: S, h, j, 0, s, s', hjk, _, _ => by omega
theorem chainB_in {l : List Oper} : ∀ (S : List Nat), chainB l S = true → ∀ s ∈ S, s < l.length
  | [], _, s, h => by cases h
  | a :: S, h, s, hs => by
    simp only [chainB, Bool.and_eq_true, decide_eq_true_eq] at h
    rcases List.mem_cons.1 hs with rfl | hs
    · exact h.1.2
    · exact chainB_in S h.2 s hs

theorem region_stores {P : Program} {id : Nat} {a0 : Act} {w : World} {l : List Oper} {Q : Exit → Act → World → Prop} (C : Nat → World → Prop) (S : List Nat) (k : Nat) (new : List Value) (i : Nat) (v0 : Value) (hm : P.follows .mixedOrders = true) (hB : plainB .any l = true)
    (hs : a0.tmps.size = (finA a0 k new i v0).tmps.size) (ho : outV l a0 a0.tmps.size = outV l (finA a0 k new i v0) a0.tmps.size) (hch : chainB l S = true) (hC : C 0 { w with drawn := w.drawn + 1 })
    (hQ : ∀ w, C S.length w → Q .normal (finA a0 k new i v0) w) (hop : eachOp (fun j o => okOpM P l.toArray (finA a0 k new i v0) C S j o) 0 l) : (Code.region id l.toArray true).wp P Q a0 w := by
  refine region_solved (C := fun listed w => ∃ n, UpTo S listed n ∧ C n w) hm (plain_of (aF := finA a0 k new i v0) hB rfl hs ho) ⟨0, ⟨Nat.zero_le _, fun j s hj => ?_⟩, hC⟩ ?_ ?_
  · have hlt := chainB_in S hch s (List.mem_of_getElem? hj)
    simp [hlt]
  · intro j o hj listed a w' hd hr hw
    obtain ⟨n, hn, hCn⟩ := hw
    have h := eachOp_spec l 0 hop j o (by simpa using hj)
    rw [Nat.zero_add] at h
    obtain ⟨h1, h2, h3⟩ := h
    have hlt : j < listed.size := by rw [hd.size]; exact (Array.getElem?_eq_some_iff.1 hj).1
    have hun := (mem_ready.1 hr).1
    have hunf : listed.getD j false = false := by simp [hlt] at hun ⊢; exact hun
    have hfv : ∀ t, o.dst = some t → (finA a0 k new i v0).tmps[t]? = some (fv o (finA a0 k new i v0)) := by
      intro t ht
      unfold fv
      rw [ht]
      simp [h1 t ht]
    have keep : S.contains j = false → UpTo S (listed.setIfInBounds j true) n := fun hns => ⟨hn.1, fun q s hq => by
      have hne : j ≠ s := fun e => by
        subst e
        have : S.contains j = true := by simpa using List.mem_of_getElem? hq
        rw [this] at hns; cases hns
      rw [getD_set_ne false hne]
      exact hn.2 q s hq⟩
    refine ⟨fun _ => ⟨_, hfv, ?_⟩, fun hwf => by rw [h2] at hwf; cases hwf⟩
    have lift : ∀ n', UpTo S (listed.setIfInBounds j true) n' → leads P o (finA a0 k new i v0) w' (fv o (finA a0 k new i v0)) (C n') → leads P o (finA a0 k new i v0) w' (fv o (finA a0 k new i v0)) (fun w => ∃ n, UpTo S (listed.setIfInBounds j true) n ∧ C n w) := by
      intro n' hu hl
      unfold leads at *
      generalize (execOp (finA a0 k new i v0).eval o).run P w' = r at *
      cases r with
      | ok x w'' =>
        cases x <;> simp only at hl ⊢
        case value u => exact ⟨hl.1, n', hu, hl.2⟩
        case skip => exact ⟨hl.1, n', hu, hl.2⟩
        case enter f args => exact hl.mono fun e w3 ⟨he, hc⟩ => ⟨he, n', hu, hc⟩
      | halt x w'' => exact hl.elim
    rcases h3 with ⟨hns, hl⟩ | ⟨hns, k, s, os, hs0, hos, he, hl⟩ | ⟨q, hq, hl⟩
    · exact lift n (keep hns) (hl n w' hCn)
    · have hn0 : n ≤ k := by
        rcases Nat.lt_or_ge k n with hpos | h0
        · have hls : listed.getD s false = true := by rw [hn.2 k s hs0]; exact decide_eq_true hpos
          obtain ⟨e, hem, hb, hon⟩ := edgeB_spec he
          have := hd.closed s os hos hls e hem hb
          rw [hon, hunf] at this
          cases this
        · exact h0
      exact lift n (keep hns) (hl n w' hn0 hCn)
    · have hnq : n = q := by
        have hqn : ¬ q < n := by
          have := hn.2 q j hq
          rw [hunf] at this
          exact of_decide_eq_false this.symm
        rcases Nat.lt_or_ge n q with hlt' | hge
        · exfalso
          obtain ⟨s, hs'⟩ : ∃ s, S[n]? = some s := ⟨S[n]'(by have := (List.getElem?_eq_some_iff.1 hq).1; omega), List.getElem?_eq_getElem _⟩
          obtain ⟨_, o', ho', he⟩ := chainB_lt S hch n q s j hlt' hs' hq
          have : o' = o := Option.some.inj (ho'.symm.trans (by simpa using hj))
          subst this
          obtain ⟨_, o2, ho2, hall⟩ := mem_ready.1 hr
          have : o2 = o' := Option.some.inj (ho2.symm.trans hj)
          subst this
          obtain ⟨e, hem, hb, hon⟩ := edgeB_spec he
          have h4 := hall e hem hb
          rw [hon, hn.2 n s hs'] at h4
          exact absurd (of_decide_eq_true h4) (Nat.lt_irrefl n)
        · omega
      subst hnq
      refine lift (n + 1) ⟨by have := (List.getElem?_eq_some_iff.1 hq).1; omega, fun p s hp => ?_⟩ (hl w' hCn)
      by_cases hps : p = n
      · subst hps
        obtain rfl : s = j := Option.some.inj (hp.symm.trans hq)
        simp [hlt]
      · have hne : j ≠ s := by
          rcases Nat.lt_or_gt_of_ne hps with h5 | h5
          · exact (chainB_lt S hch p n s j h5 hp hq).1
          · exact fun e => (chainB_lt S hch n p j s h5 hq hp).1 e.symm
        rw [getD_set_ne false hne, hn.2 p s hp]
        rcases Nat.lt_or_gt_of_ne hps with h5 | h5
        · simp [h5, Nat.lt_succ_of_lt h5]
        · have h6 : ¬ p < n := by omega
          have h7 : ¬ p < n + 1 := by omega
          simp [h6, h7]
  · intro listed w' hsz hall ⟨n, hn, hCn⟩
    have : n = S.length := by
      rcases Nat.lt_or_ge n S.length with h | h
      · exfalso
        have h1 : S[n]? = some S[n] := List.getElem?_eq_getElem h
        have h2 := hn.2 n S[n] h1
        rw [hall _ (by simpa using chainB_in S hch _ (List.getElem_mem h))] at h2
        exact absurd (of_decide_eq_true h2.symm) (Nat.lt_irrefl n)
      · have := hn.1; omega
    subst this
    exact hQ w' hCn
/-- What lies outside of the slots that the region fills stays. -/
theorem outV_fin {l : List Oper} {a0 : Act} {k : Nat} {new : List Value} {i : Nat} {v0 : Value} (n m : Nat) (hd : new.drop m = a0.tmps.toList.drop (k + m)) (hm : m ≤ new.length) (hk : k ≤ a0.tmps.toList.length)
    (hc : ((List.range' k m ++ [i]).all fun t => l.any fun o => o.dst == some t) = true) : outV l a0 n = outV l (finA a0 k new i v0) n := by
  have hc' := List.all_eq_true.1 hc
  unfold outV
  refine List.map_congr_left fun t _ => ?_
  cases hq : (l.any fun o => o.dst == some t) with
  | true => rfl
  | false =>
    have hnot : t ∉ (List.range' k m ++ [i]) := fun h => by rw [hc' t h] at hq; cases hq
    simp only [List.mem_append, List.mem_range'_1, List.mem_singleton, not_or, not_and] at hnot
    obtain ⟨h1, h2⟩ := hnot
    simp only [Bool.false_eq_true, if_false, finA, List.getElem?_toArray]
    rw [List.getElem?_set_ne (fun e => h2 e.symm)]
    rw [← Array.getElem?_toList]
    rcases Nat.lt_or_ge t k with h3 | h3
    · rw [List.getElem?_append_left (by rw [List.length_take]; omega), List.getElem?_take_of_lt h3]
    · have h4 : k + m ≤ t := by
        rcases Nat.lt_or_ge t (k + m) with h5 | h5
        · exact absurd h5 (h1 h3)
        · exact h5
      have h6 : (a0.tmps.toList.take k).length = k := by rw [List.length_take]; omega
      rw [List.getElem?_append_right (by rw [h6]; exact h3), h6]
      have h7 := congrArg (fun z => z[t - k - m]?) hd
      simp only [List.getElem?_drop] at h7
      rw [show k + m + (t - k - m) = t by omega, show m + (t - k - m) = t - k by omega] at h7
      exact h7.symm
section
variable {P : Program} {ops : Array Oper} {aF : Act} {C : Nat → World → Prop} {S : List Nat} {o : Oper} {i : Nat}
theorem okM_val (hn : S.contains i = false) (hi : inB o aF.tmps.size = true) (hw : Region.wanted o (yielded ops aF.tmps) = true) (h : ∀ w, (execOp aF.eval o).run P w = .ok (.value (fv o aF)) w) : okOpM P ops aF C S i o :=
  ⟨inB_spec hi, hw, .inl ⟨hn, fun n w hC => by unfold leads; rw [h w]; exact ⟨rfl, hC⟩⟩⟩
theorem okM_load {s : Nat} {os : Oper} (hn : S.contains i = false) (hi : inB o aF.tmps.size = true) (hw : Region.wanted o (yielded ops aF.tmps) = true) (hs : S[0]? = some s) (hos : ops[s]? = some os) (he : edgeB .any os i = true) (h : ∀ w, C 0 w → (execOp aF.eval o).run P w = .ok (.value (fv o aF)) w) : okOpM P ops aF C S i o :=
  ⟨inB_spec hi, hw, .inr (.inl ⟨hn, 0, s, os, hs, hos, he, fun n w hk hC => by
    have e : n = 0 := Nat.le_zero.1 hk
    subst e
    unfold leads
    rw [h w hC]
    exact ⟨rfl, hC⟩⟩)⟩
theorem okM_read (k : Nat) {s : Nat} {os : Oper} (hn : S.contains i = false) (hi : inB o aF.tmps.size = true) (hw : Region.wanted o (yielded ops aF.tmps) = true) (hs : S[k]? = some s) (hos : ops[s]? = some os) (he : edgeB .any os i = true) (h : ∀ n w, n ≤ k → C n w → (execOp aF.eval o).run P w = .ok (.value (fv o aF)) w) : okOpM P ops aF C S i o :=
  ⟨inB_spec hi, hw, .inr (.inl ⟨hn, k, s, os, hs, hos, he, fun n w hk hC => by unfold leads; rw [h n w hk hC]; exact ⟨rfl, hC⟩⟩)⟩
theorem okM_call (f : FuncId) (args : Array Value) (hn : S.contains i = false) (hi : inB o aF.tmps.size = true) (hw : Region.wanted o (yielded ops aF.tmps) = true) (h1 : ∀ w, (execOp aF.eval o).run P w = .ok (.enter f args) w)
    (h2 : ∀ n w, C n w → Calls P f args w (fun e w' => e = .returned (fv o aF) ∧ C n w')) : okOpM P ops aF C S i o :=
  ⟨inB_spec hi, hw, .inl ⟨hn, fun n w hC => by unfold leads; rw [h1 w]; exact h2 n w hC⟩⟩
theorem okM_store (k : Nat) (hk : S[k]? = some i) (hi : inB o aF.tmps.size = true) (hw : Region.wanted o (yielded ops aF.tmps) = true) (hv : fv o aF = undef) (h : ∀ w, C k w → ∃ w', (execOp aF.eval o).run P w = .ok .skip w' ∧ C (k + 1) w') : okOpM P ops aF C S i o :=
  ⟨inB_spec hi, hw, .inr (.inr ⟨k, hk, fun w hC => by obtain ⟨w', h1, h2⟩ := h w hC; unfold leads; rw [h1, hv]; exact ⟨rfl, h2⟩⟩)⟩
end
/-- An integer is read, is stored. -/
theorem load_int {o : Oper} {a : Act} {t : Operand} {p : Addr} {z : Int} {W : World} (ho : o.op = .load 3 t) (ha : a.eval t = .pointer (some p)) (hc : W.cell? p = some (.int .i64 z)) : (execOp a.eval o).run Tryz.prog W = .ok (.value (.int .i64 z)) W := by
  obtain ⟨dst, op, ty, pos, af, gd⟩ := o
  dsimp only at ho
  subst ho
  generalize a.eval = e at *
  simp [go_sem, ha, hc]
theorem store_int {o : Oper} {a : Act} {s t : Operand} {p : Addr} {z : Int} {v : Value} {W : World} (ho : o.op = .store 3 s t) (hs : a.eval s = .pointer (some p)) (ht : a.eval t = .int .i64 z) (hc : W.cell? p = some v) (hf : W.frozen? p = false) :
    (execOp a.eval o).run Tryz.prog W = .ok .skip (W.setCell p (.int .i64 z)) := by
  obtain ⟨dst, op, ty, pos, af, gd⟩ := o
  dsimp only at ho
  subst ho
  generalize a.eval = e at *
  simp [go_sem, hs, ht, hc, hf]
end Go.Proofs.YtcdmcndjbajhlaaGreatDoor
