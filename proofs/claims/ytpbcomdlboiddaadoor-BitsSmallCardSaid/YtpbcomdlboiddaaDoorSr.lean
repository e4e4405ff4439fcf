
/- A region that draws its order, solved: each operation's value is known ahead, whatever the order. -/
import Derived.Test.YtpbcomdlboiddaaDoorZm
set_option linter.all false
set_option maxRecDepth 100000
namespace Go.Proofs.YtpbcomdlboiddaaDoor
open Go.RowKit

theorem count_set : ∀ (l : List Bool) (i : Nat), l[i]? = some false → (l.set i true).count false + 1 = l.count false
  | [], i, h => by simp at h
  | b :: l, 0, h => by
    simp at h
    subst h
    simp
  | b :: l, i + 1, h => by
    have := count_set l i (by simpa using h)
    cases b <;> simp <;> omega

section
variable {P : Program} {ops : Array Oper} {md : Region.Mode}

/-- Which of the operations are done, and what the slots hold then. -/
structure Done (md : Region.Mode) (ops : Array Oper) (a0 aF : Act) (listed : Array Bool) (a : Act) : Prop where
  size : listed.size = ops.size
  closed : ∀ (j : Nat) (oj : Oper), ops[j]? = some oj → listed.getD j false = true → ∀ e ∈ oj.after, Region.binds md e = true → listed.getD e.on false = true
  defers : a.defers = aF.defers
  sz : a.tmps.size = aF.tmps.size
  mine : ∀ (i : Nat) (o : Oper) (t : Tmp), ops[i]? = some o → listed.getD i false = true → o.dst = some t → a.tmps[t]? = aF.tmps[t]?
  other : ∀ t : Tmp, (∀ (i : Nat) (o : Oper), ops[i]? = some o → listed.getD i false = true → o.dst ≠ some t) → a.tmps[t]? = a0.tmps[t]?

/-- What is asked of the region by looking at it. -/
structure Plain (md : Region.Mode) (ops : Array Oper) (a0 aF : Act) : Prop where
  once : ∀ (i j : Nat) (oi oj : Oper) (t : Tmp), ops[i]? = some oi → ops[j]? = some oj → oi.dst = some t → oj.dst = some t → i = j
  looks : ∀ (i : Nat) (o : Oper), ops[i]? = some o → ∀ t ∈ o.looksAt ops, ∀ (j : Nat) (oj : Oper), ops[j]? = some oj → oj.dst = some t → ∃ e ∈ o.after, Region.binds md e = true ∧ e.on = j
  outside : ∀ t : Tmp, (∀ (i : Nat) (o : Oper), ops[i]? = some o → o.dst ≠ some t) → a0.tmps[t]? = aF.tmps[t]?
  early : ∀ (i : Nat) (o : Oper), ops[i]? = some o → ∀ e ∈ o.after, Region.binds md e = true → e.on < i
  noSel : ∀ (i : Nat) (o : Oper) (cs : Array SelectCase) (b : Bool), ops[i]? = some o → o.op ≠ .select cs b
  defers : a0.defers = aF.defers
  sz : a0.tmps.size = aF.tmps.size

/-- The operation, at the values of the end, leaves v, and a world of the class C. -/
def leads (P : Program) (o : Oper) (aF : Act) (w : World) (v : Value) (C : World → Prop) : Prop :=
  match (execOp aF.eval o).run P w with
  | .ok (.value u) w' => u = v ∧ C w'
  | .ok .skip w' => v = undef ∧ C w'
  | .ok (.enter f args) w' => Calls P f args w' fun e w'' => e = .returned v ∧ C w''
  | _ => False

theorem Plain.all {a0 aF : Act} (hp : Plain md ops a0 aF) {listed : Array Bool} {a : Act} (hd : Done md ops a0 aF listed a) (hr : Region.ready md ops listed = []) : ∀ j, j < ops.size → listed.getD j false = true := by
  intro j
  induction j using Nat.strongRecOn with
  | _ j ih =>
    intro hj
    cases hl : listed.getD j false with
    | true => rfl
    | false =>
      have hj' : j < listed.size := by rw [hd.size]; exact hj
      have hu : listed.getD j true = false := by simp [hj'] at hl ⊢; exact hl
      have hm : j ∈ Region.ready md ops listed := mem_ready.2 ⟨hu, ops[j], Array.getElem?_eq_getElem hj, fun e he hb => by
        have h1 := hp.early j _ (Array.getElem?_eq_getElem hj) e he hb
        exact ih e.on h1 (by omega)⟩
      rw [hr] at hm
      cases hm

theorem Plain.end {a0 aF : Act} (hp : Plain md ops a0 aF) {listed : Array Bool} {a : Act} (hd : Done md ops a0 aF listed a) (hr : ∀ j, j < ops.size → listed.getD j false = true) : a = aF := by
  obtain ⟨ts, ds⟩ := a
  obtain ⟨tF, dF⟩ := aF
  have h1 : ds = dF := hd.defers
  have h2 : ts = tF := by
    apply Array.ext_getElem?
    intro t
    by_cases h : ∃ (i : Nat) (o : Oper), ops[i]? = some o ∧ o.dst = some t
    · obtain ⟨i, o, hi, ho⟩ := h
      exact hd.mine i o t hi (hr i (Array.getElem?_eq_some_iff.1 hi).1) ho
    · have h' : ∀ (i : Nat) (o : Oper), ops[i]? = some o → o.dst ≠ some t := fun i o hi ho => h ⟨i, o, hi, ho⟩
      exact (hd.other t fun i o hi _ => h' i o hi).trans (hp.outside t h')
  rw [h1, h2]

theorem Done.eval {a0 aF : Act} (hp : Plain md ops a0 aF) {listed : Array Bool} {a : Act} (hd : Done md ops a0 aF listed a) {i : Nat} {o : Oper} (hi : ops[i]? = some o) (hr : i ∈ Region.ready md ops listed) :
    ∀ t ∈ o.looksAt ops, a.tmps[t]? = aF.tmps[t]? := by
  intro t ht
  obtain ⟨_, o', ho', hall⟩ := mem_ready.1 hr
  have : o' = o := Option.some.inj (ho'.symm.trans hi)
  subst this
  by_cases h : ∃ (j : Nat) (oj : Oper), ops[j]? = some oj ∧ oj.dst = some t
  · obtain ⟨j, oj, hj, hdst⟩ := h
    obtain ⟨e, he, hb, hon⟩ := hp.looks i o' hi t ht j oj hj hdst
    exact hd.mine j oj t hj (hon ▸ hall e he hb) hdst
  · have h' : ∀ (j : Nat) (oj : Oper), ops[j]? = some oj → oj.dst ≠ some t := fun j oj hj hdst => h ⟨j, oj, hj, hdst⟩
    exact (hd.other t fun j oj hj _ => h' j oj hj).trans (hp.outside t h')

theorem Done.put {a0 aF : Act} (hp : Plain md ops a0 aF) {listed : Array Bool} {a : Act} (hd : Done md ops a0 aF listed a) {i : Nat} {o : Oper} (hi : ops[i]? = some o) (hr : i ∈ Region.ready md ops listed)
    {v : Value} (hv : ∀ t, o.dst = some t → aF.tmps[t]? = some v) : Done md ops a0 aF (listed.setIfInBounds i true) (a.put o.dst v) := by
  obtain ⟨hun, o', ho', hall⟩ := mem_ready.1 hr
  have : o' = o := Option.some.inj (ho'.symm.trans hi)
  subst this
  have hputt : ∀ t, o'.dst = some t → (a.put o'.dst v).tmps[t]? = aF.tmps[t]? := by
    intro t ht
    have hlt : t < a.tmps.size := by
      rw [hd.sz]
      exact (Array.getElem?_eq_some_iff.1 (hv t ht)).1
    rw [hv t ht, ht]
    simp [Act.put, hlt]
  have hputn : ∀ t, o'.dst ≠ some t → (a.put o'.dst v).tmps[t]? = a.tmps[t]? := by
    intro t ht
    cases hdst : o'.dst with
    | none => rfl
    | some d =>
      have hne : d ≠ t := fun h => ht (by rw [hdst, h])
      simp [Act.put, Array.getElem?_setIfInBounds_ne hne]
  refine ⟨by simp [hd.size], ?_, ?_, ?_, ?_, ?_⟩
  · intro j oj hj hl e he hb
    by_cases hij : i = j
    · subst hij
      have : oj = o' := Option.some.inj (hj.symm.trans hi)
      subst this
      exact getD_set_true (hall e he hb)
    · rw [getD_set_ne false hij] at hl
      exact getD_set_true (hd.closed j oj hj hl e he hb)
  · cases hdst : o'.dst <;> simpa [Act.put] using hd.defers
  · cases hdst : o'.dst <;> simpa [Act.put] using hd.sz
  · intro j oj t hj hl ht
    by_cases hij : i = j
    · subst hij
      have : oj = o' := Option.some.inj (hj.symm.trans hi)
      subst this
      exact hputt t ht
    · rw [getD_set_ne false hij] at hl
      rw [hputn t (fun h => hij (hp.once i j _ _ t hi hj h ht))]
      exact hd.mine j oj t hj hl ht
  · intro t h
    have hlt : i < listed.size := by rw [hd.size]; exact (Array.getElem?_eq_some_iff.1 hi).1
    rw [hputn t (h i o' hi (by simp [hlt]))]
    exact hd.other t fun j oj hj hl => h j oj hj (getD_set_true hl)

theorem wpAny_solved {a0 aF : Act} {C : Array Bool → World → Prop} {Q : Exit → Act → World → Prop} (hp : Plain md ops a0 aF)
    (hop : ∀ (i : Nat) (o : Oper), ops[i]? = some o → ∀ (listed : Array Bool) (a : Act) (w : World), Done md ops a0 aF listed a → i ∈ Region.ready md ops listed → C listed w →
      (Region.wanted o (yielded ops aF.tmps) = true → ∃ v, (∀ t, o.dst = some t → aF.tmps[t]? = some v) ∧ leads P o aF w v (C (listed.setIfInBounds i true))) ∧
      (Region.wanted o (yielded ops aF.tmps) = false → (∀ t, o.dst = some t → aF.tmps[t]? = some undef) ∧ C (listed.setIfInBounds i true) w))
    (hQ : ∀ (listed : Array Bool) (w : World), listed.size = ops.size → (∀ j, j < ops.size → listed.getD j false = true) → C listed w → Q .normal aF w) :
    ∀ (fuel : Nat) (listed : Array Bool) (a : Act) (w : World), listed.toList.count false ≤ fuel → Done md ops a0 aF listed a → C listed w → wpAny P md ops Q fuel listed a w := by
  intro fuel
  induction fuel with
  | zero =>
    intro listed a w hc hd hC
    have hr : Region.ready md ops listed = [] := by
      rw [List.eq_nil_iff_forall_not_mem]
      intro j hj
      have hu := (mem_ready.1 hj).1
      have hlt : j < listed.size := by
        rcases Nat.lt_or_ge j listed.size with h | h
        · exact h
        · simp [Array.getElem?_eq_none h] at hu
      have hf : listed.toList[j]? = some false := by
        simp [hlt] at hu ⊢
        exact hu
      have : 0 < listed.toList.count false := List.count_pos_iff.2 (List.mem_of_getElem? hf)
      omega
    have hall := hp.all hd hr
    have ha := hp.end hd hall
    subst ha
    exact ⟨hr, hQ listed w hd.size hall hC⟩
  | succ fuel ih =>
    intro listed a w hc hd hC
    refine ⟨fun hr => ?_, fun i hi => ?_⟩
    · have hall := hp.all hd hr
      have ha := hp.end hd hall
      subst ha
      exact hQ listed w hd.size hall hC
    · obtain ⟨hun, o, ho, hall⟩ := mem_ready.1 hi
      have hlt : i < listed.size := by rw [hd.size]; exact (Array.getElem?_eq_some_iff.1 ho).1
      have hf : listed.toList[i]? = some false := by
        simp [hlt] at hun ⊢
        exact hun
      have hcnt := count_set listed.toList i hf
      have hcnt' : (listed.setIfInBounds i true).toList.count false ≤ fuel := by
        rw [Array.toList_setIfInBounds]; omega
      have hev := hd.eval hp ho hi
      have hex : execOp a.eval o = execOp aF.eval o := execOp_congr o (fun cs b => hp.noSel i o cs b ho) fun x hx => by
        cases x with
        | tmp t =>
          have ht : t ∈ o.looksAt ops := List.mem_append_left _ (List.mem_filterMap.2 ⟨.tmp t, by simpa using hx, rfl⟩)
          simp [Act.eval, Array.getD_eq_getD_getElem?, hev t ht]
        | _ => rfl
      have hwt : Region.wanted o (yielded ops a.tmps) = Region.wanted o (yielded ops aF.tmps) := by
        unfold Region.wanted
        split
        · rfl
        · rename_i j want hg
          have : yielded ops a.tmps j = yielded ops aF.tmps j := by
            unfold yielded
            cases hd1 : (ops[j]?).bind (·.dst) with
            | none => rfl
            | some d =>
              have ht : d ∈ o.looksAt ops := List.mem_append_right _ (by simp [hg, hd1])
              simp [hev d ht]
          rw [this]
      obtain ⟨h1, h2⟩ := hop i o ho listed a w hd hi hC
      unfold wpOp
      simp only [ho, hwt]
      split
      · rename_i hw
        obtain ⟨v, hv, hl⟩ := h1 hw
        have hd' := hd.put hp ho hi hv
        left
        unfold Oper.wp
        rw [hex]
        unfold leads at hl
        generalize (execOp aF.eval o).run P w = r at *
        cases r with
        | ok n w' =>
          cases n <;> simp only [Oper.upon] at hl ⊢
          case value u =>
            obtain ⟨rfl, hC'⟩ := hl
            exact ih _ _ _ hcnt' hd' hC'
          case skip =>
            obtain ⟨rfl, hC'⟩ := hl
            exact ih _ _ _ hcnt' hd' hC'
          case enter f args =>
            exact hl.mono fun e w'' ⟨he, hC'⟩ => by subst he; exact ih _ _ _ hcnt' hd' hC'
        | halt x w' => exact hl.elim
      · rename_i hw
        obtain ⟨hv, hC'⟩ := h2 (by simpa using hw)
        exact ih _ _ _ hcnt' (hd.put hp ho hi hv) hC'

/-- **A solved region.** -/
theorem region_solved {id : Nat} {a0 aF : Act} {w : World} {C : Array Bool → World → Prop} {Q : Exit → Act → World → Prop} (hm : P.follows .mixedOrders = true) (hp : Plain .any ops a0 aF) (hC : C (Array.replicate ops.size false) { w with drawn := w.drawn + 1 })
    (hop : ∀ (i : Nat) (o : Oper), ops[i]? = some o → ∀ (listed : Array Bool) (a : Act) (w : World), Done .any ops a0 aF listed a → i ∈ Region.ready .any ops listed → C listed w →
      (Region.wanted o (yielded ops aF.tmps) = true → ∃ v, (∀ t, o.dst = some t → aF.tmps[t]? = some v) ∧ leads P o aF w v (C (listed.setIfInBounds i true))) ∧
      (Region.wanted o (yielded ops aF.tmps) = false → (∀ t, o.dst = some t → aF.tmps[t]? = some undef) ∧ C (listed.setIfInBounds i true) w))
    (hQ : ∀ (listed : Array Bool) (w : World), listed.size = ops.size → (∀ j, j < ops.size → listed.getD j false = true) → C listed w → Q .normal aF w) : (Code.region id ops true).wp P Q a0 w := by
  refine wp_region_any hm (wpAny_solved hp hop hQ _ _ _ _ ?_ ?_ hC)
  · rw [Array.toList_replicate]
    exact Nat.le_trans List.count_le_length (by simp)
  · refine ⟨by simp, fun j _ _ hl => ?_, hp.defers, hp.sz, fun i _ _ _ hl => ?_, fun t _ => rfl⟩
    · exfalso; revert hl; by_cases hj : j < ops.size <;> simp [hj]
    · exfalso; revert hl; by_cases hj : i < ops.size <;> simp [hj]
end
end Go.Proofs.YtpbcomdlboiddaaDoor
