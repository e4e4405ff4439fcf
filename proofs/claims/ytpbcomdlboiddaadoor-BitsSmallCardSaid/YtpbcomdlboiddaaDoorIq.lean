
/- Rows of bits: the columns that are no lead, as a map. -/
import Derived.Test.YtpbcomdlboiddaaDoorVl
import Derived.Maps.Own
import Derived.Lib.SlKeysI
set_option linter.all false
set_option maxRecDepth 100000
namespace Go.Proofs.YtpbcomdlboiddaaDoor
open Go.RowKit Go.Maps

/-- The columns below k without a row. -/
def openN (A : List Sm) (k : Nat) : List Nat := (List.range k).filter fun c => decide (rowAt A c = sm0)
theorem openN_next (A : List Sm) (k : Nat) : openN A (k + 1) = if rowAt A k = sm0 then openN A k ++ [k] else openN A k := by
  unfold openN
  rw [List.range_succ, List.filter_append]
  by_cases h : rowAt A k = sm0 <;> simp [h]
/-- What the map holds behind k columns. -/
def entM (A : List Sm) : Nat → List (Lit × DataW Unit)
  | 0 => []
  | k + 1 => if rowAt A k = sm0 then ChangeMaps.putKey (.int .i64 (k : Int)) (.lit (.bool true)) (entM A k) else entM A k
theorem entM_perm (A : List Sm) : ∀ k, (∀ p ∈ entM A k, ∃ c : Nat, c < k ∧ p.1 = .int .i64 (c : Int)) ∧ ((entM A k).map (·.1)).Perm ((openN A k).map fun c : Nat => Lit.int .i64 (c : Int))
  | 0 => ⟨fun _ h => by simp [entM] at h, by simp [entM, openN]⟩
  | k + 1 => by
    obtain ⟨h1, h2⟩ := entM_perm A k
    rw [openN_next]
    unfold entM
    by_cases h : rowAt A k = sm0
    · rw [if_pos h, if_pos h]
      unfold ChangeMaps.putKey
      have hf : (entM A k).filter (ChangeMaps.notKey (.int .i64 (k : Int))) = entM A k := by
        rw [List.filter_eq_self]
        intro p hp
        obtain ⟨c, hc, hpc⟩ := h1 p hp
        have : ¬ (c : Int) = k := by omega
        simp [ChangeMaps.notKey, hpc, Lit.sameKey, this]
      rw [hf]
      have hp := Go.WideShapes.insert_perm ((.int .i64 (k : Int), .lit (.bool true)) : Lit × DataW Unit) (entM A k)
      refine ⟨fun p hp' => ?_, ?_⟩
      · rcases List.mem_cons.1 (hp.mem_iff.1 hp') with rfl | h'
        · exact ⟨k, by omega, rfl⟩
        · obtain ⟨c, hc, e⟩ := h1 p h'
          exact ⟨c, by omega, e⟩
      · refine (hp.map _).trans ?_
        rw [List.map_cons, List.map_append]
        exact ((List.Perm.cons _ h2).trans (List.perm_append_singleton _ _).symm)
    · rw [if_neg h, if_neg h]
      exact ⟨fun p hp => by obtain ⟨c, hc, e⟩ := h1 p hp; exact ⟨c, by omega, e⟩, h2⟩
theorem entM_keys (A : List Sm) (k : Nat) : (intKeys (.map (entM A k))).Perm (casts (openN A k)) := by
  have h := (entM_perm A k).2.map fun l => match l with | .int _ a => a | _ => 0
  rw [List.map_map, List.map_map] at h
  exact h
theorem entM_len (A : List Sm) (k : Nat) : (entM A k).length ≤ k := by
  have := (entM_perm A k).2.length_eq
  rw [List.length_map, List.length_map] at this
  rw [this]
  unfold openN
  exact Nat.le_trans (List.length_filter_le _ _) (by simp)
theorem openN_sorted (A : List Sm) (k : Nat) : (casts (openN A k)).mergeSort leI = casts (openN A k) := by
  refine List.mergeSort_of_pairwise ?_
  have h : (openN A k).Pairwise (· < ·) := List.Pairwise.filter _ List.pairwise_lt_range
  unfold casts
  rw [List.pairwise_map]
  exact h.imp fun {a b} hab => by simp only [leI, decide_eq_true_eq]; omega
theorem law_int : Keyed Tryd.prog 3 := int_keyed Tryd.underlying3
/-- What lies in memory while columns are gathered. -/
structure InFree (w : World) (b : Nat) (A : List Sm) (rv : Value) (k : Nat) (wr : World) : Prop where
  bel : Below w.heap.size w wr
  siz : w.heap.size + 3 ≤ wr.heap.size
  old : b < w.heap.size
  sys : SysAt wr b A rv
  map : wr.ownsMap Tryd.prog 3 (plainElem Tryd.prog 4) w.heap.size k (.map (entM A k))
  var : wr.heap[w.heap.size + 1]? = some (.cells #[.map (some w.heap.size)] 76 (0, 0))
  tab : wr.heap[w.heap.size + 1 + 1]? = some (.cells #[.func (.func 121) #[] #[], .func (.func 122) #[] #[.pointer (some ⟨w.heap.size + 1, 0, none⟩)]] 108 (0, 0))
theorem InFree.next {w wr : World} {b k : Nat} {A : List Sm} {rv : Value} (h : InFree w b A rv k wr) (h0 : ¬ rowAt A k = sm0) : InFree w b A rv (k + 1) wr :=
  ⟨h.bel, h.siz, h.old, h.sys, by have := h.map.mono (Nat.le_succ k); rw [entM, if_neg h0]; exact this, h.var, h.tab⟩
theorem InFree.put {w wr w2 : World} {b k : Nat} {A : List Sm} {rv : Value} (h : InFree w b A rv k wr) (h0 : rowAt A k = sm0)
    (hm : w2.ownsMap Tryd.prog 3 (plainElem Tryd.prog 4) w.heap.size (k + 1) ((DataW.map (entM A k)).put (.int .i64 (k : Int)) (.lit (.bool true)))) (hg : wr.grownBy w2 (some w.heap.size)) : InFree w b A rv (k + 1) w2 := by
  have hs := h.siz
  have ho := h.old
  have hz := hg.size
  have far : ∀ k, k < wr.heap.size → k ≠ w.heap.size → w2.heap[k]? = wr.heap[k]? := fun k hk hn => hg.block k hk (fun e => hn (Option.some.inj e))
  refine ⟨h.bel.grown hg h.bel.size (fun j hj => by cases hj; exact Nat.le_refl _), by omega, ho, ⟨h.sys.1, (far b (by omega) (by omega)).trans h.sys.2⟩, ?_, (far _ (by omega) (by omega)).trans h.var, (far _ (by omega) (by omega)).trans h.tab⟩
  rw [entM, if_pos h0]
  exact hm
theorem bt_free1 (k : Nat) (wr : World) : Calls Tryd.prog 121 #[.int .i64 (k : Int)] wr (fun e w' => e = .returned (.tuple #[]) ∧ w' = wr) := by
  go_enter Tryd.func121, Tryd.ntmps121
  go_wp2_with fail
  go_end0
  exact ⟨rfl, rfl⟩
set_option maxHeartbeats 1000000 in
theorem bt_free2 (w : World) (b : Nat) (A : List Sm) (rv : Value) (k : Nat) (hk : k < 24) (h0 : rowAt A k = sm0) (wr : World) (h : InFree w b A rv k wr) :
    Calls Tryd.prog 122 #[.int .i64 (k : Int), .pointer (some ⟨w.heap.size + 1, 0, none⟩)] wr (fun e w' => e = .returned (.tuple #[]) ∧ InFree w b A rv (k + 1) w') := by
  have hc := cell_of_row wr (w.heap.size + 1) 0 _ _ _ h.var
  simp at hc
  have hkey : keyOf Tryd.prog 3 (.int .i64 (k : Int)) = some (.int .i64 (k : Int)) := keyOf_int_mk Tryd.underlying3 (by
    have e1 : IntKind.i64.min = -9223372036854775808 := by decide
    have e2 : IntKind.i64.max = 9223372036854775807 := by decide
    simp only [Lit.wf, Bool.and_eq_true, decide_eq_true_eq]
    rw [e1, e2]
    omega)
  obtain ⟨w2, hrun, hm, hg⟩ := h.map.update law_int Tryd.underlying76 (by unfold maxLen; omega) hkey (plainElem_bool (H := Unit) Tryd.underlying4 true)
  have HN := Lib.hid (h.put h0 hm hg)
  clear h hm hg hkey h0
  go_enter Tryd.func122, Tryd.ntmps122
  go_wp2_with fail
  all_goals
    go_end0
    exact ⟨rfl, HN.out⟩
set_option maxHeartbeats 4000000 in
theorem bt_eachFree (w : World) (b : Nat) (A : List Sm) (rv : Value) (hA : A.length = 24) (n : Nat) (hn : n ≤ 24) (h : InFree w b A rv 0 (((w.alloc (.map #[] 0)).alloc (.cells #[.map (some w.heap.size)] 76)).alloc (.cells #[.func (.func 121) #[] #[], .func (.func 122) #[] #[.pointer (some ⟨w.heap.size + 1, 0, none⟩)]] 108))) :
    Calls Tryd.prog 114 #[.pointer (some ⟨b, 0, none⟩), .int .i64 (n : Int), .agg #[.func (.func 121) #[] #[], .func (.func 122) #[] #[.pointer (some ⟨w.heap.size + 1, 0, none⟩)]]] ((w.alloc (.map #[] 0)).alloc (.cells #[.map (some w.heap.size)] 76))
      (fun e w' => e = .returned (.tuple #[]) ∧ InFree w b A rv n w') := by
  have HI := Lib.hid h
  have H1 : Hid (∀ (k : Nat) wr, Calls Tryd.prog 121 #[.int .i64 (k : Int)] wr (fun e w' => e = .returned (.tuple #[]) ∧ w' = wr)) := fun k wr => bt_free1 k wr
  have H2 : Hid (∀ (k : Nat) wr, k < 24 → rowAt A k = sm0 → InFree w b A rv k wr → Calls Tryd.prog 122 #[.int .i64 (k : Int), .pointer (some ⟨w.heap.size + 1, 0, none⟩)] wr (fun e w' => e = .returned (.tuple #[]) ∧ InFree w b A rv (k + 1) w')) := fun k wr hk h0 h' => bt_free2 w b A rv k hk h0 wr h'
  clear h
  go_enter Tryd.func114, Tryd.ntmps114
  go_wp2_with fail
  go_loopw [9] (fun i wr => ∃ (k : Nat), k ≤ n ∧ i = .int .i64 k ∧ Hid (InFree w b A rv k wr)) (fun i _ => n - (intOf i).toNat)
  case atStart => exact ⟨0, by omega, rfl, HI.out⟩
  case round =>
    obtain ⟨k, hk, rfl, HI⟩ := hrel
    by_cases hlt : k < n
    · obtain ⟨c0, c1⟩ := HI.out.sys.row (show k < 24 by omega)
      have hki : (k : Int) < 24 := by omega
      have t0 := cell_of_row wr (w.heap.size + 1 + 1) 0 _ _ _ HI.out.tab
      have t1 := cell_of_row wr (w.heap.size + 1 + 1) 1 _ _ _ HI.out.tab
      simp at t0 t1
      by_cases h0 : rowAt A k = sm0
      · have H2k : Hid (∀ wr, InFree w b A rv k wr → Calls Tryd.prog 122 #[.int .i64 (k : Int), .pointer (some ⟨w.heap.size + 1, 0, none⟩)] wr (fun e w' => e = .returned (.tuple #[]) ∧ InFree w b A rv (k + 1) w')) := fun wr h' => H2.out k wr (by omega) h0 h'
        rw [h0] at c0 c1
        have c0' : wr.cell? ⟨b, k * 2, none⟩ = some (.int .i64 0) := c0
        have c1' : wr.cell? ⟨b, k * 2 + 1, none⟩ = some (.int .i64 0) := c1
        clear c0 c1 h0
        go_wp2_with fail
        refine (H2k.out _ HI.out).mono ?_
        rintro e w1 ⟨rfl, h1⟩
        have HI1 := Lib.hid h1
        clear c0' c1' t0 t1 HI h1
        go_wp2_with fail
        go_roundw
        case rel => exact ⟨k + 1, by omega, by go_num, HI1.out⟩
        case measure => simp [intOf]; omega
      · have HIn := Lib.hid (HI.out.next h0)
        by_cases hr : (rowAt A k).row = 0
        · have hof : ¬ (rowAt A k).of = 0 := fun ho => h0 (by cases hq : rowAt A k with | mk r o => rw [hq] at hr ho; dsimp only at hr ho; subst hr ho; rfl)
          clear h0
          rw [hr] at c0
          have c0' : wr.cell? ⟨b, k * 2, none⟩ = some (.int .i64 0) := c0
          generalize (rowAt A k).of = oo at *
          clear hr c0
          go_wp2_with fail
          refine (H1.out k wr).mono ?_
          rintro e w1 ⟨rfl, rfl⟩
          clear c0' c1 t0 t1 HI
          go_wp2_with fail
          go_roundw
          case rel => exact ⟨k + 1, by omega, by go_num, HIn.out⟩
          case measure => simp [intOf]; omega
        · clear h0
          generalize (rowAt A k).of = oo at *
          generalize (rowAt A k).row = rr at *
          go_wp2_with fail
          refine (H1.out k wr).mono ?_
          rintro e w1 ⟨rfl, rfl⟩
          clear c0 c1 t0 t1 HI
          go_wp2_with fail
          go_roundw
          case rel => exact ⟨k + 1, by omega, by go_num, HIn.out⟩
          case measure => simp [intOf]; omega
    · obtain rfl : k = n := by omega
      go_wp2_with fail
      go_end0
      exact ⟨rfl, HI.out⟩
def FreePost (A : List Sm) (n : Nat) (w : World) (e : Ending) (w' : World) : Prop := e = .returned (.map (some w.heap.size)) ∧ Below w.heap.size w w' ∧ w'.ownsMap Tryd.prog 3 (plainElem Tryd.prog 4) w.heap.size n (.map (entM A n))
set_option maxHeartbeats 1000000 in
theorem bt_free (A : List Sm) (hA : A.length = 24) (b : Nat) (rv : Value) (n : Nat) (hn : n ≤ 24) (w : World) (h : SysAt w b A rv) :
    Calls Tryd.prog 77 #[.pointer (some ⟨b, 0, none⟩), .int .i64 (n : Int)] w (FreePost A n w) := by
  have hmm := @run_makeMap Tryd.prog
  have hlt := h.lt
  have HI : Hid (InFree w b A rv 0 (((w.alloc (.map #[] 0)).alloc (.cells #[.map (some w.heap.size)] 76)).alloc (.cells #[.func (.func 121) #[] #[], .func (.func 122) #[] #[.pointer (some ⟨w.heap.size + 1, 0, none⟩)]] 108))) := by
    have s1 : (w.alloc (.map #[] 0)).heap.size = w.heap.size + 1 := World.size_alloc _ _
    have s2 : ((w.alloc (.map #[] 0)).alloc (.cells #[.map (some w.heap.size)] 76)).heap.size = w.heap.size + 1 + 1 := by rw [World.size_alloc, s1]
    refine ⟨(by repeat (first | with_reducible exact Below.refl _ _ | with_reducible refine below_al ?_ _ | with_reducible refine below_dN ?_ _ | with_reducible refine Below.drew ?_ | (with_reducible refine Below.setCell ?_ (by simp <;> omega) _) | (with_reducible refine below_via (by assumption) ?_))), by rw [World.size_alloc, s2]; omega, hlt, ((h.al _).al _).al _, ((World.ownsMap_made w _ _ _).alloc _).alloc _, ?_, ?_⟩
    · have h1 := heap_alloc_new (w.alloc (.map #[] 0)) (.cells #[.map (some w.heap.size)] 76)
      rw [s1] at h1
      rw [Below.heap_alloc _ _ _ (by rw [s2]; omega)]
      exact h1
    · have h1 := heap_alloc_new ((w.alloc (.map #[] 0)).alloc (.cells #[.map (some w.heap.size)] 76)) (.cells #[.func (.func 121) #[] #[], .func (.func 122) #[] #[.pointer (some ⟨w.heap.size + 1, 0, none⟩)]] 108)
      rw [s2] at h1
      exact h1
  have HE := Lib.hid (bt_eachFree w b A rv hA n hn HI.out)
  clear h HI
  go_enter Tryd.func77, Tryd.ntmps77
  go_wp2_with fail
  refine HE.out.mono ?_
  rintro e w1 ⟨rfl, h1⟩
  have hv := cell_of_row w1 (w.heap.size + 1) 0 _ _ _ h1.var
  simp at hv
  have H1 := Lib.hid h1
  clear h1 HE hmm
  go_wp2_with fail
  go_ret
  exact ⟨rfl, H1.out.bel, H1.out.map⟩
end Go.Proofs.YtpbcomdlboiddaaDoor
