
/- Regions that draw their order and store several times, one after the other. -/
import Derived.Test.YtpbcomdlboiddaaDoorSb
set_option linter.all false
set_option maxRecDepth 100000
namespace Go.Proofs.YtpbcomdlboiddaaDoor
open Go.RowKit

/-- The first n of the stores are done, the others not. -/
def UpTo (S : List Nat) (listed : Array Bool) (n : Nat) : Prop := n ≤ S.length ∧ ∀ (j s : Nat), S[j]? = some s → listed.getD s false = decide (j < n)
/-- What is asked of operation i: it is free of the world, or it is early (before some store k), or it is the store k. -/
def okOpM (P : Program) (ops : Array Oper) (aF : Act) (C : Nat → World → Prop) (S : List Nat) (i : Nat) (o : Oper) : Prop :=
  (∀ t, o.dst = some t → t < aF.tmps.size) ∧ Region.wanted o (yielded ops aF.tmps) = true ∧
  ((S.contains i = false ∧ ∀ n w, C n w → leads P o aF w (fv o aF) (C n)) ∨
   (S.contains i = false ∧ ∃ k s os, S[k]? = some s ∧ ops[s]? = some os ∧ edgeB .any os i = true ∧ ∀ n w, n ≤ k → C n w → leads P o aF w (fv o aF) (C n)) ∨
   ∃ k, S[k]? = some i ∧ ∀ w, C k w → leads P o aF w (fv o aF) (C (k + 1)))
/-- Each store waits for those before it; none stands twice. -/
def chainB (l : List Oper) : List Nat → Bool
  | [] => true
  | s :: S => (S.all fun s' => s' != s && (match l[s']? with
    | some o => edgeB .any o s
    | none => false)) && decide (s < l.length) && chainB l S
theorem edgeB_spec {md : Region.Mode} {o : Oper} {j : Nat} (h : edgeB md o j = true) : ∃ e ∈ o.after, Region.binds md e = true ∧ e.on = j := by
  obtain ⟨e, he, hb⟩ := Array.any_eq_true'.1 h
  simp only [Bool.and_eq_true, beq_iff_eq] at hb
  exact ⟨e, he, hb.1, hb.2⟩
theorem chainB_lt {l : List Oper} : ∀ (S : List Nat), chainB l S = true → ∀ (j k s s' : Nat), j < k → S[j]? = some s → S[k]? = some s' → s' ≠ s ∧ ∃ o, l[s']? = some o ∧ edgeB .any o s = true
  | [], _, j, k, s, s', _, h, _ => by simp at h
  | a :: S, h, 0, k + 1, s, s', _, hj, hk => by
    simp only [chainB, Bool.and_eq_true] at h
    simp at hj
    subst hj
    have h1 := List.all_eq_true.1 h.1.1 s' (List.mem_of_getElem? (by simpa using hk))
    simp only [Bool.and_eq_true] at h1
    obtain ⟨h2, h3⟩ := h1
    cases ho : l[s']? with
    | none => rw [ho] at h3; cases h3
    | some o => rw [ho] at h3; exact ⟨by simpa using h2, o, rfl, h3⟩
  | a :: S, h, j + 1, k + 1, s, s', hjk, hj, hk => by
    simp only [chainB, Bool.and_eq_true] at h
    exact chainB_lt S h.2 j k s s' (by omega) (by simpa using hj) (by simpa using hk)
  | a :: S, h, j, 0, s, s', hjk, _, _ => by omega
theorem chainB_in {l : List Oper} : ∀ (S : List Nat), chainB l S = true → ∀ s ∈ S, s < l.length
  | [], _, s, h => by cases h
  | a :: S, h, s, hs => by
    simp only [chainB, Bool.and_eq_true, decide_eq_true_eq] at h
    rcases List.mem_cons.1 hs with rfl | hs
    · exact h.1.2
    · exact chainB_in S h.2 s hs

theorem region_stores {P : Program} {id : Nat} {a0 : Act} {w : World} {l : List Oper} {Q : Exit → Act → World → Prop} (C : Nat → World → Prop) (S : List Nat) (k : Nat) (new : List Value) (i : Nat) (v0 : Value) (hm : P.follows .mixedOrders = true) (hB : plainB .any l = true)
    (hs : a0.tmps.size = (finA a0 k new i v0).tmps.size) (ho : outV l a0 a0.tmps.size = outV l (finA a0 k new i v0) a0.tmps.size) (hch : chainB l S = true) (hC : C 0 { w with drawn := w.drawn + 1 })
    (hQ : ∀ w, C S.length w → Q .normal (finA a0 k new i v0) w) (hop : eachOp (fun j o => okOpM P l.toArray (finA a0 k new i v0) C S j o) 0 l) : (Code.region id l.toArray true).wp P Q a0 w := by
  refine region_solved (C := fun listed w => ∃ n, UpTo S listed n ∧ C n w) hm (plain_of (aF := finA a0 k new i v0) hB rfl hs ho) ⟨0, ⟨Nat.zero_le _, fun j s hj => ?_⟩, hC⟩ ?_ ?_
  · have hlt := chainB_in S hch s (List.mem_of_getElem? hj)
    simp [hlt]
  · intro j o hj listed a w' hd hr hw
    obtain ⟨n, hn, hCn⟩ := hw
    have h := eachOp_spec l 0 hop j o (by simpa using hj)
    rw [Nat.zero_add] at h
    obtain ⟨h1, h2, h3⟩ := h
    have hlt : j < listed.size := by rw [hd.size]; exact (Array.getElem?_eq_some_iff.1 hj).1
    have hun := (mem_ready.1 hr).1
    have hunf : listed.getD j false = false := by simp [hlt] at hun ⊢; exact hun
    have hfv : ∀ t, o.dst = some t → (finA a0 k new i v0).tmps[t]? = some (fv o (finA a0 k new i v0)) := by
      intro t ht
      unfold fv
      rw [ht]
      simp [h1 t ht]
    have keep : S.contains j = false → UpTo S (listed.setIfInBounds j true) n := fun hns => ⟨hn.1, fun q s hq => by
      have hne : j ≠ s := fun e => by
        subst e
        have : S.contains j = true := by simpa using List.mem_of_getElem? hq
        rw [this] at hns; cases hns
      rw [getD_set_ne false hne]
      exact hn.2 q s hq⟩
    refine ⟨fun _ => ⟨_, hfv, ?_⟩, fun hwf => by rw [h2] at hwf; cases hwf⟩
    have lift : ∀ n', UpTo S (listed.setIfInBounds j true) n' → leads P o (finA a0 k new i v0) w' (fv o (finA a0 k new i v0)) (C n') → leads P o (finA a0 k new i v0) w' (fv o (finA a0 k new i v0)) (fun w => ∃ n, UpTo S (listed.setIfInBounds j true) n ∧ C n w) := by
      intro n' hu hl
      unfold leads at *
      generalize (execOp (finA a0 k new i v0).eval o).run P w' = r at *
      cases r with
      | ok x w'' =>
        cases x <;> simp only at hl ⊢
        case value u => exact ⟨hl.1, n', hu, hl.2⟩
        case skip => exact ⟨hl.1, n', hu, hl.2⟩
        case enter f args => exact hl.mono fun e w3 ⟨he, hc⟩ => ⟨he, n', hu, hc⟩
      | halt x w'' => exact hl.elim
    rcases h3 with ⟨hns, hl⟩ | ⟨hns, k, s, os, hs0, hos, he, hl⟩ | ⟨q, hq, hl⟩
    · exact lift n (keep hns) (hl n w' hCn)
    · have hn0 : n ≤ k := by
        rcases Nat.lt_or_ge k n with hpos | h0
        · have hls : listed.getD s false = true := by rw [hn.2 k s hs0]; exact decide_eq_true hpos
          obtain ⟨e, hem, hb, hon⟩ := edgeB_spec he
          have := hd.closed s os hos hls e hem hb
          rw [hon, hunf] at this
          cases this
        · exact h0
      exact lift n (keep hns) (hl n w' hn0 hCn)
    · have hnq : n = q := by
        have hqn : ¬ q < n := by
          have := hn.2 q j hq
          rw [hunf] at this
          exact of_decide_eq_false this.symm
        rcases Nat.lt_or_ge n q with hlt' | hge
        · exfalso
          obtain ⟨s, hs'⟩ : ∃ s, S[n]? = some s := ⟨S[n]'(by have := (List.getElem?_eq_some_iff.1 hq).1; omega), List.getElem?_eq_getElem _⟩
          obtain ⟨_, o', ho', he⟩ := chainB_lt S hch n q s j hlt' hs' hq
          have : o' = o := Option.some.inj (ho'.symm.trans (by simpa using hj))
          subst this
          obtain ⟨_, o2, ho2, hall⟩ := mem_ready.1 hr
          have : o2 = o' := Option.some.inj (ho2.symm.trans hj)
          subst this
          obtain ⟨e, hem, hb, hon⟩ := edgeB_spec he
          have h4 := hall e hem hb
          rw [hon, hn.2 n s hs'] at h4
          exact absurd (of_decide_eq_true h4) (Nat.lt_irrefl n)
        · omega
      subst hnq
      refine lift (n + 1) ⟨by have := (List.getElem?_eq_some_iff.1 hq).1; omega, fun p s hp => ?_⟩ (hl w' hCn)
      by_cases hps : p = n
      · subst hps
        obtain rfl : s = j := Option.some.inj (hp.symm.trans hq)
        simp [hlt]
      · have hne : j ≠ s := by
          rcases Nat.lt_or_gt_of_ne hps with h5 | h5
          · exact (chainB_lt S hch p n s j h5 hp hq).1
          · exact fun e => (chainB_lt S hch n p j s h5 hq hp).1 e.symm
        rw [getD_set_ne false hne, hn.2 p s hp]
        rcases Nat.lt_or_gt_of_ne hps with h5 | h5
        · simp [h5, Nat.lt_succ_of_lt h5]
        · have h6 : ¬ p < n := by omega
          have h7 : ¬ p < n + 1 := by omega
          simp [h6, h7]
  · intro listed w' hsz hall ⟨n, hn, hCn⟩
    have : n = S.length := by
      rcases Nat.lt_or_ge n S.length with h | h
      · exfalso
        have h1 : S[n]? = some S[n] := List.getElem?_eq_getElem h
        have h2 := hn.2 n S[n] h1
        rw [hall _ (by simpa using chainB_in S hch _ (List.getElem_mem h))] at h2
        exact absurd (of_decide_eq_true h2.symm) (Nat.lt_irrefl n)
      · have := hn.1; omega
    subst this
    exact hQ w' hCn
/-- What lies outside of the slots that the region fills stays. -/
theorem outV_fin {l : List Oper} {a0 : Act} {k : Nat} {new : List Value} {i : Nat} {v0 : Value} (n m : Nat) (hd : new.drop m = a0.tmps.toList.drop (k + m)) (hm : m ≤ new.length) (hk : k ≤ a0.tmps.toList.length)
    (hc : ((List.range' k m ++ [i]).all fun t => l.any fun o => o.dst == some t) = true) : outV l a0 n = outV l (finA a0 k new i v0) n := by
  have hc' := List.all_eq_true.1 hc
  unfold outV
  refine List.map_congr_left fun t _ => ?_
  cases hq : (l.any fun o => o.dst == some t) with
  | true => rfl
  | false =>
    have hnot : t ∉ (List.range' k m ++ [i]) := fun h => by rw [hc' t h] at hq; cases hq
    simp only [List.mem_append, List.mem_range'_1, List.mem_singleton, not_or, not_and] at hnot
    obtain ⟨h1, h2⟩ := hnot
    simp only [Bool.false_eq_true, if_false, finA, List.getElem?_toArray]
    rw [List.getElem?_set_ne (fun e => h2 e.symm)]
    rw [← Array.getElem?_toList]
    rcases Nat.lt_or_ge t k with h3 | h3
    · rw [List.getElem?_append_left (by rw [List.length_take]; omega), List.getElem?_take_of_lt h3]
    · have h4 : k + m ≤ t := by
        rcases Nat.lt_or_ge t (k + m) with h5 | h5
        · exact absurd h5 (h1 h3)
        · exact h5
      have h6 : (a0.tmps.toList.take k).length = k := by rw [List.length_take]; omega
      rw [List.getElem?_append_right (by rw [h6]; exact h3), h6]
      have h7 := congrArg (fun z => z[t - k - m]?) hd
      simp only [List.getElem?_drop] at h7
      rw [show k + m + (t - k - m) = t by omega, show m + (t - k - m) = t - k by omega] at h7
      exact h7.symm
section
variable {P : Program} {ops : Array Oper} {aF : Act} {C : Nat → World → Prop} {S : List Nat} {o : Oper} {i : Nat}
theorem okM_val (hn : S.contains i = false) (hi : inB o aF.tmps.size = true) (hw : Region.wanted o (yielded ops aF.tmps) = true) (h : ∀ w, (execOp aF.eval o).run P w = .ok (.value (fv o aF)) w) : okOpM P ops aF C S i o :=
  ⟨inB_spec hi, hw, .inl ⟨hn, fun n w hC => by unfold leads; rw [h w]; exact ⟨rfl, hC⟩⟩⟩
theorem okM_load {s : Nat} {os : Oper} (hn : S.contains i = false) (hi : inB o aF.tmps.size = true) (hw : Region.wanted o (yielded ops aF.tmps) = true) (hs : S[0]? = some s) (hos : ops[s]? = some os) (he : edgeB .any os i = true) (h : ∀ w, C 0 w → (execOp aF.eval o).run P w = .ok (.value (fv o aF)) w) : okOpM P ops aF C S i o :=
  ⟨inB_spec hi, hw, .inr (.inl ⟨hn, 0, s, os, hs, hos, he, fun n w hk hC => by
    have e : n = 0 := Nat.le_zero.1 hk
    subst e
    unfold leads
    rw [h w hC]
    exact ⟨rfl, hC⟩⟩)⟩
theorem okM_read (k : Nat) {s : Nat} {os : Oper} (hn : S.contains i = false) (hi : inB o aF.tmps.size = true) (hw : Region.wanted o (yielded ops aF.tmps) = true) (hs : S[k]? = some s) (hos : ops[s]? = some os) (he : edgeB .any os i = true) (h : ∀ n w, n ≤ k → C n w → (execOp aF.eval o).run P w = .ok (.value (fv o aF)) w) : okOpM P ops aF C S i o :=
  ⟨inB_spec hi, hw, .inr (.inl ⟨hn, k, s, os, hs, hos, he, fun n w hk hC => by unfold leads; rw [h n w hk hC]; exact ⟨rfl, hC⟩⟩)⟩
theorem okM_call (f : FuncId) (args : Array Value) (hn : S.contains i = false) (hi : inB o aF.tmps.size = true) (hw : Region.wanted o (yielded ops aF.tmps) = true) (h1 : ∀ w, (execOp aF.eval o).run P w = .ok (.enter f args) w)
    (h2 : ∀ n w, C n w → Calls P f args w (fun e w' => e = .returned (fv o aF) ∧ C n w')) : okOpM P ops aF C S i o :=
  ⟨inB_spec hi, hw, .inl ⟨hn, fun n w hC => by unfold leads; rw [h1 w]; exact h2 n w hC⟩⟩
theorem okM_store (k : Nat) (hk : S[k]? = some i) (hi : inB o aF.tmps.size = true) (hw : Region.wanted o (yielded ops aF.tmps) = true) (hv : fv o aF = undef) (h : ∀ w, C k w → ∃ w', (execOp aF.eval o).run P w = .ok .skip w' ∧ C (k + 1) w') : okOpM P ops aF C S i o :=
  ⟨inB_spec hi, hw, .inr (.inr ⟨k, hk, fun w hC => by obtain ⟨w', h1, h2⟩ := h w hC; unfold leads; rw [h1, hv]; exact ⟨rfl, h2⟩⟩)⟩
end
/-- An integer is read, is stored. -/
theorem load_int {o : Oper} {a : Act} {t : Operand} {p : Addr} {z : Int} {W : World} (ho : o.op = .load 3 t) (ha : a.eval t = .pointer (some p)) (hc : W.cell? p = some (.int .i64 z)) : (execOp a.eval o).run Tryd.prog W = .ok (.value (.int .i64 z)) W := by
  obtain ⟨dst, op, ty, pos, af, gd⟩ := o
  dsimp only at ho
  subst ho
  generalize a.eval = e at *
  simp [go_sem, ha, hc]
theorem store_int {o : Oper} {a : Act} {s t : Operand} {p : Addr} {z : Int} {v : Value} {W : World} (ho : o.op = .store 3 s t) (hs : a.eval s = .pointer (some p)) (ht : a.eval t = .int .i64 z) (hc : W.cell? p = some v) (hf : W.frozen? p = false) :
    (execOp a.eval o).run Tryd.prog W = .ok .skip (W.setCell p (.int .i64 z)) := by
  obtain ⟨dst, op, ty, pos, af, gd⟩ := o
  dsimp only at ho
  subst ho
  generalize a.eval = e at *
  simp [go_sem, hs, ht, hc, hf]
end Go.Proofs.YtpbcomdlboiddaaDoor
