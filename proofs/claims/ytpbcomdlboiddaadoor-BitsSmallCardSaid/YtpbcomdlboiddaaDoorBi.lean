
/- Rows of bits: whether two spans are the same. -/
import Derived.Test.YtpbcomdlboiddaaDoorVn
import Derived.Test.YtpbcomdlboiddaaDoorZb
import Derived.Test.YtpbcomdlboiddaaDoorZk
import Derived.Laws.CopyOwn
set_option linter.all false
set_option maxRecDepth 100000
namespace Go.Proofs.YtpbcomdlboiddaaDoor
open Go.RowKit

def cellsN (l : List Nat) : List Value := l.map fun n : Nat => .int .i64 (n : Int)
/-- An array of 24 integers in a block of its own. -/
def Arr24 (w : World) (b : Nat) (xs : List Nat) : Prop := xs.length = 24 ∧ w.heap[b]? = some (.cells (cellsN xs).toArray 82 (0, 0))
theorem Arr24.lt {w : World} {b : Nat} {xs : List Nat} (h : Arr24 w b xs) : b < w.heap.size := (Array.getElem?_eq_some_iff.1 h.2).1
theorem Arr24.cell {w : World} {b k x : Nat} {xs : List Nat} (h : Arr24 w b xs) (hx : xs[k]? = some x) : w.cell? ⟨b, k, none⟩ = some (.int .i64 (x : Int)) := by
  rw [cell_of_row w b k _ 82 (0, 0) h.2]
  simp [cellsN, hx]
theorem Arr24.free {w : World} {b : Nat} {xs : List Nat} (h : Arr24 w b xs) (i : Nat) : w.frozen? ⟨b, i, none⟩ = false := by
  have := h.2
  simp [World.frozen?, this]
theorem Arr24.call {w w' : World} {b : Nat} {xs : List Nat} (h : Arr24 w b xs) (hb : Below w.heap.size w w') : Arr24 w' b xs := ⟨h.1, (hb.block b h.lt).trans h.2⟩
theorem Arr24.other {w : World} {b b' o : Nat} {v : Value} {xs : List Nat} (h : Arr24 w b xs) (hn : b ≠ b') : Arr24 (w.setCell ⟨b', o, none⟩ v) b xs := ⟨h.1, (Below.heap_setCell w ⟨b', o, none⟩ v b hn).trans h.2⟩
theorem Arr24.put {w : World} {b : Nat} {xs : List Nat} (h : Arr24 w b xs) (k x : Nat) : Arr24 (w.setCell ⟨b, k, none⟩ (.int .i64 (x : Int))) b (xs.set k x) := by
  obtain ⟨h1, h2⟩ := h
  refine ⟨by simpa using h1, ?_⟩
  simp [World.setCell, Array.getElem?_modify, h2, cellsN, List.map_set]
/-- The first k rows are in. -/
def mixL (A : List Sm) (k : Nat) : List Nat := (A.take k).map Sm.row ++ List.replicate (24 - k) 0
theorem mixL_len {A : List Sm} (hA : A.length = 24) {k : Nat} (hk : k ≤ 24) : (mixL A k).length = 24 := by simp [mixL]; omega
theorem mixL_next {A : List Sm} (hA : A.length = 24) {k : Nat} (hk : k < 24) : (mixL A k).set k (rowAt A k).row = mixL A (k + 1) := by
  have hl : ((A.take k).map Sm.row).length = k := by simp; omega
  unfold mixL
  rw [List.set_append_right _ _ (by omega), hl, Nat.sub_self, show 24 - k = (24 - (k + 1)) + 1 by omega, List.replicate_succ, List.set_cons_zero, List.take_succ_eq_append_getElem (by omega : k < A.length), List.map_append, List.append_assoc]
  have : rowAt A k = A[k]'(by omega) := by unfold rowAt; rw [List.getD_eq_getElem?_getD, List.getElem?_eq_getElem (by omega)]; rfl
  rw [this]; rfl
theorem mixL_all {A : List Sm} (hA : A.length = 24) : mixL A 24 = A.map Sm.row := by
  unfold mixL
  rw [List.take_of_length_le (by omega)]; simp
theorem und_arr24 : Tryd.prog.underlying 82 = some (.array 24 3) := by kernel_rfl
theorem size_arr24 : (Tryd.prog.info? 82).map (·.size) = some 24 := by kernel_rfl
theorem cellsN_size (xs : List Nat) : (cellsN xs).toArray.size = xs.length := by simp [cellsN]
theorem cellsN_one (xs : List Nat) : ((cellsN xs).toArray.all fun v => v.oneCell') = true := by
  rw [Array.all_eq_true_iff_forall_mem]
  intro v hv
  simp [cellsN] at hv
  obtain ⟨x, _, rfl⟩ := hv
  rfl
theorem Arr24.row {w : World} {b : Nat} {xs ys : List Nat} (h : Arr24 w b xs) (hy : ys.length = 24) : Arr24 (w.setRow b (cellsN ys).toArray) b ys := by
  obtain ⟨h1, h2⟩ := h
  refine ⟨hy, ?_⟩
  exact setRow_heap w b _ _ _ _ h2
theorem arr_new (w : World) : Arr24 (w.alloc (.cells #[.int .i64 0, .int .i64 0, .int .i64 0, .int .i64 0, .int .i64 0, .int .i64 0, .int .i64 0, .int .i64 0, .int .i64 0, .int .i64 0, .int .i64 0, .int .i64 0, .int .i64 0, .int .i64 0, .int .i64 0, .int .i64 0, .int .i64 0, .int .i64 0, .int .i64 0, .int .i64 0, .int .i64 0, .int .i64 0, .int .i64 0, .int .i64 0] 82)) w.heap.size (List.replicate 24 0) := ⟨rfl, by rw [heap_alloc_new]; rfl⟩
set_option maxHeartbeats 2000000 in
theorem bt_byLead (A : List Sm) (hA : A.length = 24) (b : Nat) (rv : Value) (w : World) (h : SysAt w b A rv) :
    Calls Tryd.prog 87 #[.pointer (some ⟨b, 0, none⟩)] w (Gives (.agg (cellsN (A.map Sm.row)).toArray) w) := by
  have HI := Lib.hid h
  have hlt := h.lt
  clear h
  go_enter Tryd.func87, Tryd.ntmps87
  go_wp2_with fail
  have h1 := arr_new w
  obtain ⟨V1, hV1⟩ : ∃ V1, V1 = w.alloc (.cells #[.int .i64 0, .int .i64 0, .int .i64 0, .int .i64 0, .int .i64 0, .int .i64 0, .int .i64 0, .int .i64 0, .int .i64 0, .int .i64 0, .int .i64 0, .int .i64 0, .int .i64 0, .int .i64 0, .int .i64 0, .int .i64 0, .int .i64 0, .int .i64 0, .int .i64 0, .int .i64 0, .int .i64 0, .int .i64 0, .int .i64 0, .int .i64 0] 82) := ⟨_, rfl⟩
  have hz1 : V1.heap.size = w.heap.size + 1 := by rw [hV1, World.size_alloc]
  have hb1 : Below w.heap.size w V1 := by rw [hV1]; exact (by repeat (first | with_reducible exact Below.refl _ _ | with_reducible refine below_al ?_ _ | with_reducible refine below_dN ?_ _ | with_reducible refine Below.drew ?_ | (with_reducible refine Below.setCell ?_ (by simp <;> omega) _) | (with_reducible refine below_via (by assumption) ?_)))
  rw [← hV1] at h1 ⊢
  clear hV1
  have h2 := arr_new V1
  rw [hz1] at h2
  obtain ⟨V, hV⟩ : ∃ V, V = V1.alloc (.cells #[.int .i64 0, .int .i64 0, .int .i64 0, .int .i64 0, .int .i64 0, .int .i64 0, .int .i64 0, .int .i64 0, .int .i64 0, .int .i64 0, .int .i64 0, .int .i64 0, .int .i64 0, .int .i64 0, .int .i64 0, .int .i64 0, .int .i64 0, .int .i64 0, .int .i64 0, .int .i64 0, .int .i64 0, .int .i64 0, .int .i64 0, .int .i64 0] 82) := ⟨_, rfl⟩
  have hb2 : Below V1.heap.size V1 V := by rw [hV]; exact (Below.refl _ _).alloc (Nat.le_refl _) _
  have H1 := Lib.hid (h1.call hb2)
  have hbV : Below w.heap.size w V := below_via hb2 hb1
  rw [← hV] at h2 ⊢
  have H2 : Hid (Arr24 V (w.heap.size + 1) (mixL A 0)) := h2
  clear hV hb2 hb1 hz1 h1 h2
  go_loopw [5] (fun i wr => ∃ (k : Nat), k ≤ 24 ∧ i = .int .i64 k ∧ Below w.heap.size w wr ∧ Hid (Arr24 wr (w.heap.size + 1) (mixL A k)) ∧ Hid (Arr24 wr w.heap.size (List.replicate 24 0))) (fun i _ => 24 - (intOf i).toNat)
  case atStart => exact ⟨0, by omega, rfl, hbV, H2, H1⟩
  case round =>
    obtain ⟨k, hk, rfl, hwr, HX, HZ⟩ := hrel
    by_cases hlk : k < 24
    · have HS := Lib.hid (HI.out.below hwr hlt)
      obtain ⟨c0, c1⟩ := HS.out.row hlk
      have hsb := HS.out.lt
      have hxl := HX.out.lt
      have hzl := HZ.out.lt
      obtain ⟨q, hq⟩ : ∃ q, (mixL A k)[k]? = some q := ⟨_, List.getElem?_eq_getElem (by rw [mixL_len hA (by omega)]; omega)⟩
      have cx := HX.out.cell hq
      have fx := HX.out.free k
      have HN : Hid (Arr24 (wr.setCell ⟨w.heap.size + 1, k, none⟩ (.int .i64 ((rowAt A k).row : Int))) (w.heap.size + 1) (mixL A (k + 1))) := by rw [← mixL_next hA hlk]; exact HX.out.put k _
      have HM : Hid (Arr24 (wr.setCell ⟨w.heap.size + 1, k, none⟩ (.int .i64 ((rowAt A k).row : Int))) w.heap.size (List.replicate 24 0)) := HZ.out.other (by omega)
      have hki : (k : Int) < 24 := by omega
      generalize (rowAt A k).row = rr at *
      clear hq HX HZ
      go_wp2_with fail
      go_roundw
      case rel => exact ⟨k + 1, by omega, by go_num, hwr.setCell (by simp) _, HN, HM⟩
      case measure => simp [intOf]; omega
    · obtain rfl : k = 24 := by omega
      have hrl : (A.map Sm.row).length = 24 := by simp [hA]
      have HX1 := HX.out
      rw [mixL_all hA] at HX1
      have HF := HZ.out.row hrl
      have hxl := HX1.lt
      have hzl := HZ.out.lt
      have hsz1 : (Tryd.prog.info? 82).map (·.size) = some (cellsN (A.map Sm.row)).toArray.size := by rw [cellsN_size, hrl]; exact size_arr24
      have hsz2 : (cellsN (List.replicate 24 0)).toArray.size = (cellsN (A.map Sm.row)).toArray.size := by rw [cellsN_size, cellsN_size, hrl]; rfl
      have hone := cellsN_one (A.map Sm.row)
      have HP := Lib.hid (And.intro HX1 (And.intro HZ.out (And.intro HF (And.intro hsz1 (And.intro hsz2 hone)))))
      generalize hR : A.map Sm.row = R at *
      clear HX HZ hrl HX1 HF hsz1 hsz2 hone hR
      go_upto_region 7 with fail
      refine wp_region_list ?_
      refine wpList_load_row rfl 82 (.tmp 3) rfl (w.heap.size + 1) rfl 82 _ (0, 0) _ HP.out.1.2 und_arr24 rfl HP.out.2.2.2.1 ?_
      refine wpList_store_row rfl 82 (.tmp 2) (.tmp 18) rfl w.heap.size _ rfl rfl 82 _ HP.out.2.1.2 HP.out.2.2.2.1 HP.out.2.2.2.2.1 HP.out.2.2.2.2.2 ?_
      go_wp2_with fail
      exact bodyPost_ret (v := .agg (cellsN R).toArray) (results_cell_row rfl _ _ w.heap.size 82 _ (0, 0) _ rfl HP.out.2.2.1.2 und_arr24 rfl HP.out.2.2.2.1) rfl ⟨rfl, below_setRow hwr (Nat.le_refl _) _⟩
/-- Two lists, number by number. -/
def sameL : List Nat → List Nat → Bool
  | x :: a, y :: b => x == y && sameL a b
  | _, _ => true
theorem sameL_iff : ∀ {a b : List Nat}, a.length = b.length → (sameL a b = true ↔ a = b)
  | [], [], _ => by simp [sameL]
  | x :: a, y :: b, h => by
    have := sameL_iff (a := a) (b := b) (by simpa using h)
    simp [sameL, this]
  | [], y :: b, h => by simp at h
  | x :: a, [], h => by simp at h
theorem run_eql_arr24 (w : World) (xs ys : List Nat) (hx : xs.length = 24) (hy : ys.length = 24) :
    (Op.equalIn 10000 82 (.agg (cellsN xs).toArray) (.agg (cellsN ys).toArray)).run Tryd.prog w = .ok (sameL xs ys) w := by
  have hagg : ∀ w, (isAgg 3).run Tryd.prog w = .ok false w := fun w => by kernel_rfl
  have hsz : ∀ w, (sizeOf 3).run Tryd.prog w = .ok 1 w := fun w => by kernel_rfl
  have hp : ∀ (cs : Array Value) (o : Nat) (v : Value) w, cs[o]? = some v → (part 3 cs o).run Tryd.prog w = .ok v w := by
    intro cs o v w h
    simp [part, hagg, h]
  have hint : ∀ d (x y : Int) w, (Op.equalIn (d + 1) 3 (.int .i64 x) (.int .i64 y)).run Tryd.prog w = .ok (x == y) w := by
    intro d x y w
    simp [Op.equalIn, run_underlying (show Tryd.prog.underlying 3 = some (.int .i64) by kernel_rfl)]
  rw [Op.equalIn]
  simp only [Sem.run_bind, run_underlying und_arr24, Result.andThen_ok, hsz, Std.Legacy.Range.forIn_eq_forIn_range', Std.Legacy.Range.size]
  have key : ∀ (m k : Nat), k + m = 24 → (forIn (List.range' k m) ((none, ()) : Option Bool × Unit) (fun i __s => do
            let __do_lift ← part 3 (cellsN xs).toArray (i * 1)
            let __do_lift_1 ← part 3 (cellsN ys).toArray (i * 1)
            let __do_lift ← Op.equalIn 9999 3 __do_lift __do_lift_1
            if (!__do_lift) = true then pure (ForInStep.done (some false, ())) else pure (ForInStep.yield (none, ()))) : Sem (Option Bool × Unit)).run Tryd.prog w = .ok (if sameL (xs.drop k) (ys.drop k) then (none, ()) else (some false, ())) w := by
    intro m
    induction m with
    | zero =>
      intro k hk
      rw [List.drop_eq_nil_of_le (by omega)]
      simp [sameL]
    | succ m ih =>
      intro k hk
      have hxk : xs[k]? = some (xs[k]'(by omega)) := List.getElem?_eq_getElem (by omega)
      have hyk : ys[k]? = some (ys[k]'(by omega)) := List.getElem?_eq_getElem (by omega)
      rw [List.range'_succ, List.forIn_cons]
      rw [List.drop_eq_getElem_cons (show k < xs.length by omega), List.drop_eq_getElem_cons (show k < ys.length by omega)]
      have p1 := hp (cellsN xs).toArray (k * 1) (.int .i64 ((xs[k]'(by omega) : Nat) : Int)) w (by simp [cellsN, hxk])
      have p2 := hp (cellsN ys).toArray (k * 1) (.int .i64 ((ys[k]'(by omega) : Nat) : Int)) w (by simp [cellsN, hyk])
      generalize xs[k]'(by omega) = x at *
      generalize ys[k]'(by omega) = y at *
      simp only [Sem.run_bind, p1, p2, Result.andThen_ok, hint 9998]
      have ih' := ih (k + 1) (by omega)
      by_cases e : x = y
      · subst e
        simp only [beq_self_eq_true, Bool.not_true, Bool.false_eq_true, if_false, Sem.run_pure, Result.andThen_ok, ih', sameL, Bool.true_and]
      · have h1 : ((x : Int) == (y : Int)) = false := by simp; omega
        have h2 : (x == y) = false := by simp [e]
        simp [h1, h2, sameL]
  have := key 24 0 rfl
  rw [this]
  simp only [List.drop_zero]
  cases sameL xs ys <;> simp
def SameM (xs ys : List Int) (n : Int) : Bool × Int := if checkedM xs ys n = 0 then (sameL (byLeadM (spanned (nats xs)).at_) (byLeadM (spanned (nats ys)).at_), 0) else (false, checkedM xs ys n)
set_option maxHeartbeats 2000000 in
theorem bt_Same (xs ys : List Int) (n : Int) (p q : Option Addr) (ca cb : Nat) (w : World) (h : Ints w p xs) (hy : Ints w q ys) (hm : xs.length ≤ 9223372036854775807) (hmy : ys.length ≤ 9223372036854775807) :
    Calls Tryd.prog 35 #[.slice p xs.length ca, .slice q ys.length cb, .int .i64 n] w (Gives (.tuple #[.bool (SameM xs ys n).1, .int .i64 (SameM xs ys n).2]) w) := by
  have H1 : Hid (Calls Tryd.prog 86 #[.slice p xs.length ca, .slice q ys.length cb, .int .i64 n] w (Gives (.int .i64 (checkedM xs ys n)) w)) := bt_checked xs ys n p q ca cb w h hy hm hmy
  unfold SameM
  by_cases hc : checkedM xs ys n = 0
  · obtain ⟨hx0, hy0⟩ := checkedM_ok hc
    have R := right_of hx0
    have R2 := right_of hy0
    rw [if_pos hc]
    rw [hc] at H1
    have HS : Hid (∀ w', Below w.heap.size w w' → Calls Tryd.prog 73 #[.slice p xs.length ca] w' (Spans (nats xs) w')) := fun w' hb => by
      have := bt_spanned (nats xs) R.r24 (by have := R.len; omega) p ca w' (by have := h.below hb; rwa [R.hx] at this)
      rwa [nats_len] at this
    have HS2 : Hid (∀ w', Below w.heap.size w w' → Calls Tryd.prog 73 #[.slice q ys.length cb] w' (Spans (nats ys) w')) := fun w' hb => by
      have := bt_spanned (nats ys) R2.r24 (by have := R2.len; omega) q cb w' (by have := hy.below hb; rwa [R2.hx] at this)
      rwa [nats_len] at this
    have hl1 : (spanned (nats xs)).at_.length = 24 := (spanned_ok R.r24 (by have := R.len; omega)).1.1
    have hl2 : (spanned (nats ys)).at_.length = 24 := (spanned_ok R2.r24 (by have := R2.len; omega)).1.1
    have HB : Hid (∀ w' b rv, SysAt w' b (spanned (nats xs)).at_ rv → Calls Tryd.prog 87 #[.pointer (some ⟨b, 0, none⟩)] w' (Gives (.agg (cellsN (byLeadM (spanned (nats xs)).at_)).toArray) w')) := fun w' b rv h' => bt_byLead _ hl1 b rv w' h'
    have HB2 : Hid (∀ w' b rv, SysAt w' b (spanned (nats ys)).at_ rv → Calls Tryd.prog 87 #[.pointer (some ⟨b, 0, none⟩)] w' (Gives (.agg (cellsN (byLeadM (spanned (nats ys)).at_)).toArray) w')) := fun w' b rv h' => bt_byLead _ hl2 b rv w' h'
    have HE : Hid (∀ w', (Op.equalIn 10000 82 (.agg (cellsN (byLeadM (spanned (nats xs)).at_)).toArray) (.agg (cellsN (byLeadM (spanned (nats ys)).at_)).toArray)).run Tryd.prog w' = .ok (sameL (byLeadM (spanned (nats xs)).at_) (byLeadM (spanned (nats ys)).at_)) w') := fun w' => run_eql_arr24 w' _ _ (by simp [byLeadM, hl1]) (by simp [byLeadM, hl2])
    generalize byLeadM (spanned (nats xs)).at_ = X at *
    generalize byLeadM (spanned (nats ys)).at_ = Y at *
    clear hl1 hl2 hc hx0 hy0 R R2 h hy hm hmy
    go_enter Tryd.func35, Tryd.ntmps35
    go_wp2_with fail
    refine H1.out.mono ?_
    rintro e w1 ⟨rfl, hb1⟩
    go_wp2_with fail
    refine (HS.out _ hb1).mono ?_
    rintro e w2 ⟨rv, rfl, h1, h2, hb2⟩
    have H3 := Lib.hid h1
    have hw2 := below_via hb2 hb1
    clear h1 h2 hb2
    go_wp2_with fail
    refine (HB.out _ _ rv H3.out).mono ?_
    rintro e w3 ⟨rfl, hb3⟩
    have hw3 := below_via hb3 hw2
    clear H3 hb3
    go_wp2_with fail
    refine (HS2.out _ hw3).mono ?_
    rintro e w4 ⟨rv2, rfl, h1, h2, hb4⟩
    have H4 := Lib.hid h1
    have hw4 := below_via hb4 hw3
    clear h1 h2 hb4
    go_wp2_with fail
    refine (HB2.out _ _ rv2 H4.out).mono ?_
    rintro e w5 ⟨rfl, hb5⟩
    have hw5 := below_via hb5 hw4
    clear H4 hb5
    have he := HE.out w5
    generalize sameL X Y = z at *
    go_wp2_with fail
    go_ret2
    exact ⟨rfl, hw5⟩
  · rw [if_neg hc]
    have hne : (checkedM xs ys n != 0) = true := bne_iff_ne.2 hc
    generalize checkedM xs ys n = q at *
    clear hc h hy hm hmy
    go_enter Tryd.func35, Tryd.ntmps35
    go_wp2_with fail
    refine H1.out.mono ?_
    rintro e w1 ⟨rfl, hb1⟩
    go_wp2_with fail
    go_ret2
    exact ⟨rfl, hb1⟩
end Go.Proofs.YtpbcomdlboiddaaDoor
