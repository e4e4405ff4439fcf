
/- Rows of bits: the reduced rows of a span. -/
import Derived.Test.YtpnancidgobehaaDoorVk
set_option linter.all false
set_option maxRecDepth 100000
namespace Go.Proofs.YtpnancidgobehaaDoor
open Go.RowKit

theorem Mine.low {w : World} {B B' : Nat} {v : Value} {xs : List Int} (h : Mine w B v xs) (hB : B' ≤ B) : Mine w B' v xs := by
  obtain ⟨q1, q2 | ⟨g, cap', cur, q2, q3, q4⟩⟩ := h
  · exact ⟨q1, .inl q2⟩
  · exact ⟨q1, .inr ⟨g, cap', cur, q2, by omega, q4⟩⟩
/-- What lies in memory while reduced rows are gathered. -/
structure InRed (w : World) (b : Nat) (A : List Sm) (rv : Value) (out : List Nat) (v : Value) (wr : World) : Prop where
  bel : Below w.heap.size w wr
  siz : w.heap.size + 3 ≤ wr.heap.size
  old : b < w.heap.size
  sys : SysAt wr b A rv
  ptr : wr.cell? ⟨w.heap.size, 0, none⟩ = some (.pointer (some ⟨b, 0, none⟩))
  var : wr.heap[w.heap.size + 1]? = some (.cells #[v] 25 (0, 0))
  own : Mine wr (w.heap.size + 3) v (casts out)
  tab : wr.heap[w.heap.size + 1 + 1]? = some (.cells #[.func (.func 76) #[] #[.pointer (some ⟨w.heap.size + 1, 0, none⟩), .pointer (some ⟨w.heap.size, 0, none⟩)], .func (.func 77) #[] #[]] 97 (0, 0))
theorem InRed.call {w : World} {b : Nat} {A : List Sm} {rv : Value} {out : List Nat} {v : Value} {wr wx : World} (h : InRed w b A rv out v wr) (hb : Below wr.heap.size wr wx) : InRed w b A rv out v wx := by
  have hs := h.siz
  exact ⟨below_via hb h.bel, Nat.le_trans hs hb.size, h.old, h.sys.call hb, by rw [(bcell hb).1 _ _ (by omega)]; exact h.ptr, (hb.block _ (by omega)).trans h.var, h.own.call hb, (hb.block _ (by omega)).trans h.tab⟩
theorem InRed.al {w : World} {b : Nat} {A : List Sm} {rv : Value} {out : List Nat} {v : Value} {wr : World} (h : InRed w b A rv out v wr) (o : Obj) : InRed w b A rv out v (wr.alloc o) := h.call ((Below.refl _ wr).alloc (Nat.le_refl _) o)
theorem InRed.drew {w : World} {b : Nat} {A : List Sm} {rv : Value} {out : List Nat} {v : Value} {wr : World} (h : InRed w b A rv out v wr) : InRed w b A rv out v wr.drew := h.call (Below.refl _ wr).drew
/-- Behind the append, before the store. -/
theorem InRed.grown {w : World} {b : Nat} {A : List Sm} {rv : Value} {out : List Nat} {v : Value} {W w4 : World} (h : InRed w b A rv out v W) (hg : W.grownBy w4 v.ownBlock) :
    Below w.heap.size w w4 ∧ w.heap.size + 3 ≤ w4.heap.size ∧ SysAt w4 b A rv ∧ w4.cell? ⟨w.heap.size, 0, none⟩ = some (.pointer (some ⟨b, 0, none⟩)) ∧ w4.heap[w.heap.size + 1]? = some (.cells #[v] 25 (0, 0)) ∧
      w4.heap[w.heap.size + 1 + 1]? = some (.cells #[.func (.func 76) #[] #[.pointer (some ⟨w.heap.size + 1, 0, none⟩), .pointer (some ⟨w.heap.size, 0, none⟩)], .func (.func 77) #[] #[]] 97 (0, 0)) := by
  have hs := h.siz
  have ho := h.old
  have hz := hg.size
  have far : ∀ k, k < w.heap.size + 3 → w4.heap[k]? = W.heap[k]? := fun k hk => hg.block k (by omega) (fun e => by have := (h.own.lt e.symm).1; omega)
  exact ⟨below_grown h.bel h.own hg (by omega) (by omega), by omega, h.sys.grown h.own hg (by omega), cell_grown h.ptr (by omega) h.own hg (by omega), (far _ (by omega)).trans h.var, (far _ (by omega)).trans h.tab⟩
theorem InRed.store {w : World} {b : Nat} {A : List Sm} {rv : Value} {out : List Nat} {v nv : Value} {w4 : World} {x : Nat} (ho : b < w.heap.size)
    (h : Below w.heap.size w w4 ∧ w.heap.size + 3 ≤ w4.heap.size ∧ SysAt w4 b A rv ∧ w4.cell? ⟨w.heap.size, 0, none⟩ = some (.pointer (some ⟨b, 0, none⟩)) ∧ w4.heap[w.heap.size + 1]? = some (.cells #[v] 25 (0, 0)) ∧
      w4.heap[w.heap.size + 1 + 1]? = some (.cells #[.func (.func 76) #[] #[.pointer (some ⟨w.heap.size + 1, 0, none⟩), .pointer (some ⟨w.heap.size, 0, none⟩)], .func (.func 77) #[] #[]] 97 (0, 0)))
    (hm : Mine w4 (w.heap.size + 3) nv (casts out ++ [(x : Int)])) : InRed w b A rv (out ++ [x]) nv (w4.setCell ⟨w.heap.size + 1, 0, none⟩ nv) := by
  obtain ⟨h1, h2, h3, h4, h5, h6⟩ := h
  refine ⟨h1.setCell (by simp) _, by simpa using h2, ho, h3.other (by omega), ?_, ?_, ?_, ?_⟩
  · rw [World.cell?_setCell_other _ _ _ _ (by simp)]; exact h4
  · simp [World.setCell, Array.getElem?_modify, h5]
  · rw [casts_append]; exact hm.other (by omega)
  · rw [Below.heap_setCell w4 ⟨w.heap.size + 1, 0, none⟩ nv _ (by show w.heap.size + 1 + 1 ≠ w.heap.size + 1; omega)]; exact h6
set_option maxHeartbeats 4000000 in
theorem bt_red1 (w : World) (b : Nat) (A : List Sm) (rv : Value) (out : List Nat) (ho : out.length ≤ 100) (v : Value) (k : Nat) (hk : k < 24) (wr : World) (h : InRed w b A rv out v wr) :
    Calls Tryd.prog 76 #[.int .i64 (k : Int), .pointer (some ⟨w.heap.size + 1, 0, none⟩), .pointer (some ⟨w.heap.size, 0, none⟩)] wr (fun e w' => e = .returned (.tuple #[]) ∧ ∃ nv, InRed w b A rv (out ++ [(rowAt A k).row]) nv w') := by
  have hp := h.ptr
  have hv := cell_of_row wr (w.heap.size + 1) 0 _ _ _ h.var
  have hvf : wr.frozen? ⟨w.heap.size + 1, 0, none⟩ = false := by have := h.var; simp [World.frozen?, this]
  obtain ⟨c0, c1⟩ := h.sys.row hk
  have hs := h.siz
  have hb := h.sys.lt
  have hs0 : w.heap.size < wr.heap.size := by omega
  have hs1 : w.heap.size + 1 < wr.heap.size := by omega
  have hL : (casts out).length ≤ 1000000 := by rw [casts_len]; omega
  have hold := h.old
  have hki : (k : Int) < 24 := by omega
  have HI := Lib.hid h
  simp at hv
  generalize (rowAt A k).row = x at *
  clear h c1
  go_enter Tryd.func76, Tryd.ntmps76
  go_wp2_with fail
  go_region_law (refine step_app rfl (.tmp 4) (.tmp 12) rfl (w.heap.size + 3) v (casts out) (by simp [Act.eval, Act.put]) (by first | exact HI.out.own.al _ | exact (HI.out.own.al _).drew | exact HI.out.own.drew.al _) (by simp; omega) hL wr.heap.size 1 (x : Int) (by simp [Act.eval, Act.put]) (by go_simp) ?_; intro g4 cap4 w4 hm4 hg4 hat4 hlt4; have hI4 := InRed.grown (by first | exact HI.out.al _ | exact (HI.out.al _).drew | exact HI.out.drew.al _) hg4; have hvb := cell_of_row w4 (w.heap.size + 1) 0 _ _ _ hI4.2.2.2.2.1; have hvfb : w4.frozen? ⟨w.heap.size + 1, 0, none⟩ = false := (by have := hI4.2.2.2.2.1; simp [World.frozen?, this]); simp at hvb; clear hg4 hat4)
  all_goals
    go_wp2_with fail
    go_end0
    first | exact ⟨rfl, _, InRed.store hold hI4 hm4⟩ | exact ⟨rfl, _, (InRed.store hold hI4 hm4).drew⟩
theorem bt_red2 (k : Nat) (wr : World) : Calls Tryd.prog 77 #[.int .i64 (k : Int)] wr (fun e w' => e = .returned (.tuple #[]) ∧ w' = wr) := by
  go_enter Tryd.func77, Tryd.ntmps77
  go_wp2_with fail
  go_end0
  exact ⟨rfl, rfl⟩
/-- The rows of the first k columns. -/
def gathM (A : List Sm) (k : Nat) : List Nat := ((A.take k).filter fun y => decide (y ≠ sm0)).map Sm.row
theorem gathM_next {A : List Sm} {k : Nat} (hk : k < A.length) : gathM A (k + 1) = if rowAt A k = sm0 then gathM A k else gathM A k ++ [(rowAt A k).row] := by
  have hA : rowAt A k = A[k] := by unfold rowAt; rw [List.getD_eq_getElem?_getD, List.getElem?_eq_getElem hk]; rfl
  unfold gathM
  rw [List.take_succ_eq_append_getElem hk, List.filter_append, hA]
  by_cases h : A[k] = sm0
  · simp [h]
  · rw [if_neg h]; simp [h]
theorem gathM_le (A : List Sm) (k : Nat) : (gathM A k).length ≤ k := by
  unfold gathM
  rw [List.length_map]
  exact Nat.le_trans (List.length_filter_le _ _) (by simp; omega)
theorem gathM_all {A : List Sm} (h : A.length = 24) : (gathM A 24).reverse = reducedM A := by
  unfold gathM reducedM
  rw [List.take_of_length_le (by omega)]
def eqS (a b : Sm) : Bool := decide (a.row = b.row ∧ a.of = b.of)
set_option maxHeartbeats 4000000 in
theorem bt_eachRed (w : World) (b : Nat) (A : List Sm) (rv : Value) (hA : A.length = 24) (h : InRed w b A rv [] (.slice none 0 0) (((w.alloc (.cells #[.pointer (some ⟨b, 0, none⟩)] 92)).alloc (.cells #[.slice none 0 0] 25)).alloc (.cells #[.func (.func 76) #[] #[.pointer (some ⟨w.heap.size + 1, 0, none⟩), .pointer (some ⟨w.heap.size, 0, none⟩)], .func (.func 77) #[] #[]] 97))) :
    Calls Tryd.prog 75 #[.pointer (some ⟨b, 0, none⟩), .int .i64 24, .agg #[.func (.func 76) #[] #[.pointer (some ⟨w.heap.size + 1, 0, none⟩), .pointer (some ⟨w.heap.size, 0, none⟩)], .func (.func 77) #[] #[]]] ((w.alloc (.cells #[.pointer (some ⟨b, 0, none⟩)] 92)).alloc (.cells #[.slice none 0 0] 25))
      (fun e w' => e = .returned (.tuple #[]) ∧ ∃ v, InRed w b A rv (gathM A 24) v w') := by
  have HI := Lib.hid h
  have H1 : Hid (∀ (out : List Nat) v (k : Nat) wr, out.length ≤ 100 → k < 24 → InRed w b A rv out v wr → Calls Tryd.prog 76 #[.int .i64 (k : Int), .pointer (some ⟨w.heap.size + 1, 0, none⟩), .pointer (some ⟨w.heap.size, 0, none⟩)] wr (fun e w' => e = .returned (.tuple #[]) ∧ ∃ nv, InRed w b A rv (out ++ [(rowAt A k).row]) nv w')) := fun out v k wr ho hk h' => bt_red1 w b A rv out ho v k hk wr h'
  have H2 : Hid (∀ (k : Nat) wr, Calls Tryd.prog 77 #[.int .i64 (k : Int)] wr (fun e w' => e = .returned (.tuple #[]) ∧ w' = wr)) := fun k wr => bt_red2 k wr
  clear h
  go_enter Tryd.func75, Tryd.ntmps75
  go_wp2_with fail
  go_loopw [9] (fun i wr => ∃ (k : Nat) (v : Value), k ≤ 24 ∧ i = .int .i64 k ∧ Hid (InRed w b A rv (gathM A k) v wr)) (fun i _ => 24 - (intOf i).toNat)
  case atStart => exact ⟨0, _, by omega, rfl, HI.out⟩
  case round =>
    obtain ⟨k, v, hk, rfl, HI⟩ := hrel
    by_cases hlt : k < 24
    · obtain ⟨c0, c1⟩ := HI.out.sys.row hlt
      have hki : (k : Int) < 24 := by omega
      have t0 := cell_of_row wr (w.heap.size + 1 + 1) 0 _ _ _ HI.out.tab
      have t1 := cell_of_row wr (w.heap.size + 1 + 1) 1 _ _ _ HI.out.tab
      simp at t0 t1
      have hnx := gathM_next (A := A) (k := k) (by omega)
      by_cases h0 : rowAt A k = sm0
      · rw [if_pos h0] at hnx
        rw [h0] at c0 c1
        have c0' : wr.cell? ⟨b, k * 2, none⟩ = some (.int .i64 0) := c0
        have c1' : wr.cell? ⟨b, k * 2 + 1, none⟩ = some (.int .i64 0) := c1
        clear c0 c1 h0
        have hnx2 := Lib.hid hnx
        clear hnx
        go_wp2_with fail
        refine (H2.out k wr).mono ?_
        rintro e w1 ⟨rfl, rfl⟩
        have HI1 := Lib.hid HI.out
        rw [← hnx2.out] at HI1
        clear c0' c1' t0 t1 hnx2 HI
        go_wp2_with fail
        go_roundw
        case rel => exact ⟨k + 1, v, by omega, by go_num, HI1⟩
        case measure => simp [intOf]; omega
      · rw [if_neg h0] at hnx
        have hnx := Lib.hid hnx
        by_cases hr : (rowAt A k).row = 0
        · have hof : ¬ (rowAt A k).of = 0 := fun ho => h0 (by cases hq : rowAt A k with | mk r o => rw [hq] at hr ho; dsimp only at hr ho; subst hr ho; rfl)
          have HR := Lib.hid hr
          have H1k : Hid (∀ out v wr, out.length ≤ 100 → InRed w b A rv out v wr → Calls Tryd.prog 76 #[.int .i64 (k : Int), .pointer (some ⟨w.heap.size + 1, 0, none⟩), .pointer (some ⟨w.heap.size, 0, none⟩)] wr (fun e w' => e = .returned (.tuple #[]) ∧ ∃ nv, InRed w b A rv (out ++ [(rowAt A k).row]) nv w')) := fun out v wr ho h' => H1.out out v k wr ho hlt h'
          clear h0
          rw [hr] at c0
          have c0' : wr.cell? ⟨b, k * 2, none⟩ = some (.int .i64 0) := c0
          generalize (rowAt A k).of = oo at *
          clear hr c0
          go_wp2_with fail
          refine (H1k.out _ v _ (by have := gathM_le A k; omega) HI.out).mono ?_
          rintro e w1 ⟨rfl, nv, h1⟩
          rw [← hnx.out] at h1
          have HI1 := Lib.hid h1
          clear h1 hnx c0' c1 t0 t1
          go_wp2_with fail
          go_roundw
          case rel => exact ⟨k + 1, nv, by omega, by go_num, HI1⟩
          case measure => simp [intOf]; omega
        · clear h0
          have H1k : Hid (∀ out v wr, out.length ≤ 100 → InRed w b A rv out v wr → Calls Tryd.prog 76 #[.int .i64 (k : Int), .pointer (some ⟨w.heap.size + 1, 0, none⟩), .pointer (some ⟨w.heap.size, 0, none⟩)] wr (fun e w' => e = .returned (.tuple #[]) ∧ ∃ nv, InRed w b A rv (out ++ [(rowAt A k).row]) nv w')) := fun out v wr ho h' => H1.out out v k wr ho hlt h'
          generalize (rowAt A k).of = oo at *
          generalize (rowAt A k).row = rr at *
          go_wp2_with fail
          refine (H1k.out _ v _ (by have := gathM_le A k; omega) HI.out).mono ?_
          rintro e w1 ⟨rfl, nv, h1⟩
          rw [← hnx.out] at h1
          have HI1 := Lib.hid h1
          clear h1 hnx c0 c1 t0 t1
          go_wp2_with fail
          go_roundw
          case rel => exact ⟨k + 1, nv, by omega, by go_num, HI1⟩
          case measure => simp [intOf]; omega
    · obtain rfl : k = 24 := by omega
      go_wp2_with fail
      go_end0
      exact ⟨rfl, v, HI.out⟩
set_option maxHeartbeats 1000000 in
theorem bt_reduced (A : List Sm) (hA : A.length = 24) (b : Nat) (rv : Value) (w : World) (h : SysAt w b A rv) :
    Calls Tryd.prog 47 #[.pointer (some ⟨b, 0, none⟩)] w (Lists (reducedM A) w) := by
  have hlt := h.lt
  have HI : Hid (InRed w b A rv [] (.slice none 0 0) (((w.alloc (.cells #[.pointer (some ⟨b, 0, none⟩)] 92)).alloc (.cells #[.slice none 0 0] 25)).alloc (.cells #[.func (.func 76) #[] #[.pointer (some ⟨w.heap.size + 1, 0, none⟩), .pointer (some ⟨w.heap.size, 0, none⟩)], .func (.func 77) #[] #[]] 97))) := by
    have s1 : (w.alloc (.cells #[.pointer (some ⟨b, 0, none⟩)] 92)).heap.size = w.heap.size + 1 := World.size_alloc _ _
    have s2 : ((w.alloc (.cells #[.pointer (some ⟨b, 0, none⟩)] 92)).alloc (.cells #[.slice none 0 0] 25)).heap.size = w.heap.size + 1 + 1 := by rw [World.size_alloc, s1]
    refine ⟨(by repeat (first | with_reducible exact Below.refl _ _ | with_reducible refine below_al ?_ _ | with_reducible refine below_dN ?_ _ | with_reducible refine Below.drew ?_ | (with_reducible refine Below.setCell ?_ (by simp <;> omega) _) | (with_reducible refine below_via (by assumption) ?_))), by rw [World.size_alloc, s2]; omega, hlt, ((h.al _).al _).al _, ?_, ?_, Mine.nil _ _, ?_⟩
    · go_simp
    · have h1 := heap_alloc_new (w.alloc (.cells #[.pointer (some ⟨b, 0, none⟩)] 92)) (.cells #[.slice none 0 0] 25)
      rw [s1] at h1
      rw [Below.heap_alloc _ _ _ (by rw [s2]; omega)]
      exact h1
    · have h1 := heap_alloc_new ((w.alloc (.cells #[.pointer (some ⟨b, 0, none⟩)] 92)).alloc (.cells #[.slice none 0 0] 25)) (.cells #[.func (.func 76) #[] #[.pointer (some ⟨w.heap.size + 1, 0, none⟩), .pointer (some ⟨w.heap.size, 0, none⟩)], .func (.func 77) #[] #[]] 97)
      rw [s2] at h1
      exact h1
  have HE : Hid (Calls Tryd.prog 75 #[.pointer (some ⟨b, 0, none⟩), .int .i64 24, .agg #[.func (.func 76) #[] #[.pointer (some ⟨w.heap.size + 1, 0, none⟩), .pointer (some ⟨w.heap.size, 0, none⟩)], .func (.func 77) #[] #[]]] ((w.alloc (.cells #[.pointer (some ⟨b, 0, none⟩)] 92)).alloc (.cells #[.slice none 0 0] 25))
      (fun e w' => e = .returned (.tuple #[]) ∧ ∃ v, InRed w b A rv (gathM A 24) v w')) := bt_eachRed w b A rv hA HI.out
  have HG := Lib.hid (gathM_all hA)
  have hgl := gathM_le A 24
  unfold Lists
  obtain ⟨R, hR⟩ : ∃ R, reducedM A = R := ⟨_, rfl⟩
  rw [hR] at HG ⊢
  clear h HI hR
  go_enter Tryd.func47, Tryd.ntmps47
  go_wp2_with fail
  refine HE.out.mono ?_
  rintro e w1 ⟨rfl, v, h1⟩
  have hv := cell_of_row w1 (w.heap.size + 1) 0 _ _ _ h1.var
  simp at hv
  have H1 := Lib.hid h1
  clear h1 HE
  go_wp2_with fail
  refine (bt_Reverse v (casts (gathM A 24)) (w.heap.size + 3) w1 H1.out.own (by rw [casts_len]; omega)).mono ?_
  rintro e w2 ⟨rfl, h2, h3⟩
  have hb2 := h3 _ _ H1.out.bel (by omega)
  have hv2 : w2.cell? ⟨w.heap.size + 1, 0, none⟩ = some v := by
    have h4 := h3 (w.heap.size + 3) w1 (Below.refl _ _) (Nat.le_refl _)
    rw [h4.cell (p := ⟨w.heap.size + 1, 0, none⟩) (by show w.heap.size + 1 < w.heap.size + 3; omega)]
    exact hv
  clear hv
  go_wp2_with fail
  go_ret
  refine ⟨v, rfl, hb2, ?_⟩
  have e : casts (gathM A 24).reverse = (casts (gathM A 24)).reverse := by simp [casts]
  rw [← HG.out, e]
  exact h2.low (by omega)
end Go.Proofs.YtpnancidgobehaaDoor
