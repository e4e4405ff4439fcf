/- The reference of bits: the least solution. -/
import Derived.Test.YtpbcomdlboiddaaDoorGb
set_option linter.all false
set_option maxRecDepth 100000
namespace Go.Proofs.YtpbcomdlboiddaaDoor
open Go.RowKit

/-- The list at work, in a block of the call's own. -/
structure InEl (w : World) (g c : Nat) (o : List Nat) (wr : World) : Prop where
  bel : Below w.heap.size w wr
  own : Mine wr w.heap.size (.slice (some ⟨g, 0, none⟩) o.length c) (casts o)
theorem InEl.drew {w wr : World} {g c : Nat} {o : List Nat} (h : InEl w g c o wr) : InEl w g c o wr.drew := ⟨h.bel.drew, h.own.drew⟩
theorem InEl.put {w wr : World} {g c k : Nat} {o : List Nat} (h : InEl w g c o wr) (hk : k < o.length) (x : Nat) : InEl w g c (o.set k x) (wr.setCell ⟨g, k, none⟩ (.int .i64 (x : Int))) := by
  have hg := h.own.some_
  refine ⟨h.bel.setCell (by show w.heap.size ≤ g; omega) _, ?_⟩
  have e : casts (o.set k x) = (casts o).set k (x : Int) := by simp [casts, List.map_set]
  rw [List.length_set, e]
  exact h.own.set_ (by rw [casts_len]; exact hk) _
theorem stepE_len (c : Nat) (S : List Nat × Nat) : (stepE c S).1.length = S.1.length := by
  unfold stepE
  split
  · rfl
  · rw [clearM_len, swapM_len]
theorem stepE_le {c : Nat} {S : List Nat × Nat} (h : S.2 ≤ S.1.length) : (stepE c S).2 ≤ S.1.length := by
  unfold stepE
  rcases findM_spec S.1 S.2 c (S.1.length - S.2) none with ⟨i, h1, h2, h3⟩ | ⟨h1, h2⟩
  · rw [h2]; show S.2 + 1 ≤ _; omega
  · rw [h1]; exact h
theorem clearM_mem {o : List Nat} {u c x : Nat} (ho : ∀ x ∈ o, x < O40) (hu : u < o.length) (h : x ∈ clearM o u c) : x < O40 := by
  obtain ⟨k, hk, rfl⟩ := mem_getD h
  rw [clearM_len] at hk
  rw [clearM_getD hk]
  unfold clr
  split
  · exact xor40 (ho _ (getD_mem hk)) (ho _ (getD_mem hu))
  · exact ho _ (getD_mem hk)
theorem swapM_mem {o : List Nat} {i j x : Nat} (hi : i < o.length) (hj : j < o.length) (ho : ∀ x ∈ o, x < O40) (h : x ∈ swapM o i j) : x < O40 := by
  obtain ⟨k, hk, rfl⟩ := mem_getD h
  rw [swapM_len] at hk
  rw [swapM_getD hi hj]
  refine ho _ (getD_mem ?_)
  split
  · exact hi
  · split
    · exact hj
    · exact hk
theorem stepE_mem {c : Nat} {S : List Nat × Nat} (ho : ∀ x ∈ S.1, x < O40) : ∀ x ∈ (stepE c S).1, x < O40 := by
  unfold stepE
  rcases findM_spec S.1 S.2 c (S.1.length - S.2) none with ⟨i, h1, h2, h3⟩ | ⟨h1, h2⟩
  · rw [h2]
    intro x hx
    exact clearM_mem (fun y hy => swapM_mem (by omega) (by omega) ho hy) (by rw [swapM_len]; omega) hx
  · rw [h1]; exact ho
/-- The first k rows are cleared. -/
def mixC (s : List Nat) (u c k : Nat) : List Nat := (List.range k).map (clr s u c) ++ s.drop k
theorem mixC_len {s : List Nat} {u c k : Nat} (hk : k ≤ s.length) : (mixC s u c k).length = s.length := by simp [mixC]; omega
theorem mixC_at {s : List Nat} {u c k : Nat} (hk : k < s.length) : (mixC s u c k)[k]? = some (s.getD k 0) := by
  unfold mixC
  rw [List.getElem?_append_right (by simp), List.length_map, List.length_range, Nat.sub_self, List.getElem?_drop, Nat.add_zero]
  exact getD_at hk
theorem mixC_own {s : List Nat} {u c k : Nat} (hu : u < s.length) (hk : k ≤ s.length) : (mixC s u c k)[u]? = some (s.getD u 0) := by
  unfold mixC
  by_cases h : u < k
  · rw [List.getElem?_append_left (by simpa using h), List.getElem?_map, List.getElem?_range h]
    simp [clr]
  · rw [List.getElem?_append_right (by simpa using h), List.length_map, List.length_range, List.getElem?_drop, show k + (u - k) = u by omega]
    exact getD_at hu
theorem mixC_next {s : List Nat} {u c k : Nat} (hk : k < s.length) : (mixC s u c k).set k (clr s u c k) = mixC s u c (k + 1) := by
  unfold mixC
  rw [List.set_append_right _ _ (by simp), List.length_map, List.length_range, Nat.sub_self, List.drop_eq_getElem_cons hk, List.set_cons_zero, List.range_succ, List.map_append, List.append_assoc]
  rfl
theorem mixC_keep {s : List Nat} {u c k : Nat} (hk : k < s.length) (h : clr s u c k = s.getD k 0) : mixC s u c k = mixC s u c (k + 1) := by
  rw [← mixC_next hk, h]
  refine List.ext_getElem? fun i => ?_
  by_cases e : k = i
  · subst e
    rw [mixC_at hk, List.getElem?_set_self (by rw [mixC_len (by omega)]; exact hk)]
  · rw [List.getElem?_set_ne e]
theorem mixC_zero (s : List Nat) (u c : Nat) : mixC s u c 0 = s := by simp [mixC]
theorem mixC_all (s : List Nat) (u c : Nat) : mixC s u c s.length = clearM s u c := by simp [mixC, clearM]
def ElPost (len : Nat) (w : World) (E : List Nat × Nat) (e : Ending) (w' : World) : Prop := ∃ g c, e = .returned (.tuple #[.slice (some ⟨g, 0, none⟩) len c, .int .i64 (E.2 : Int)]) ∧ InEl w g c E.1 w'
def optI : Option Nat → Int
  | none => -1
  | some j => j
set_option maxHeartbeats 4000000 in
theorem rf_eliminated (l : List Nat) (hl : l.length ≤ 60) (hx : ∀ x ∈ l, x < O40) (n : Nat) (hn : n ≤ 24) (p : Option Addr) (cap : Nat) (w : World) (h : Ints w p (casts l)) (hp : p = none → cap = 0) :
    Calls Tryd.prog 109 #[.slice p l.length cap, .int .i64 (n : Int)] w (ElPost l.length w (elimd l n)) := by
  have hb0 : Below w.heap.size w (w.alloc (.cells #[] 3)) := (by repeat (first | with_reducible exact Below.refl _ _ | with_reducible refine below_al ?_ _ | with_reducible refine below_dN ?_ _ | with_reducible refine Below.drew ?_ | (with_reducible refine Below.setCell ?_ (by simp <;> omega) _) | (with_reducible refine below_via (by assumption) ?_)))
  have HI := Lib.hid (h.below hb0)
  have HM := Lib.hid (mine_empty w w.heap.size (Nat.le_refl _))
  have HL : Hid ((casts l).length = l.length) := casts_len l
  have hs0 : w.heap.size ≤ (w.alloc (.cells #[] 3)).heap.size := by simp
  have HB := Lib.hid hb0
  clear h hb0
  obtain ⟨E, hE⟩ : ∃ E, elimd l n = E := ⟨_, rfl⟩
  rw [hE]
  have HE : Hid (E = elimM n (l, 0)) := hE.symm
  clear hE
  go_enter Tryd.func109, Tryd.ntmps109
  go_wp2_with (at_builtin; refine wpList_appInts rfl (.tmp 12) (.tmp 13) rfl w.heap.size _ [] rfl HM.out hs0 p l.length cap (casts l) rfl HL.out.symm (by rw [HL.out]; simp; omega) HI.out hp ?_; intro v' w' hm hg hnn)
  obtain ⟨pv, cv, hv⟩ := hm.slice
  subst hv
  cases pv with
  | none =>
    exfalso
    obtain ⟨_, hh | ⟨g', c', cur, h1, _⟩⟩ := hm
    · have := hnn hh.1; cases this
    · cases h1
  | some ad =>
  obtain ⟨g, rfl⟩ : ∃ g, ad = ⟨g, 0, none⟩ := by
    obtain ⟨_, hh | ⟨g', c', cur, h1, _⟩⟩ := hm
    · cases hh.1
    · cases h1; exact ⟨_, rfl⟩
  have hI : InEl w g cv l w' := by
    refine ⟨HB.out.grown hg (by simp) (fun k e => by cases e; exact Nat.le_refl _), ?_⟩
    have := hm
    rw [List.nil_append, HL.out] at this
    exact this
  rw [List.nil_append, HL.out]
  have HI2 : Hid (InEl w g cv (l, 0).1 w' ∧ ∀ x ∈ (l, 0).1, x < O40) := ⟨hI, hx⟩
  have HL2 : Hid ((l, 0).1.length = l.length) := rfl
  clear hm hg hnn HI HM HL HB hI hs0 hx hp
  go_loopw [7, 8] (fun u c wr => ∃ (cc : Nat) (S : List Nat × Nat), cc ≤ n ∧ c = .int .i64 ((cc : Int) - 1) ∧ u = .int .i64 (S.2 : Nat) ∧ S.2 ≤ l.length ∧ Hid (S.1.length = l.length) ∧ Hid (InEl w g cv S.1 wr ∧ ∀ x ∈ S.1, x < O40) ∧ Hid (E = elimM cc S)) (fun _ c _ => ((intOf c) + 1).toNat)
  case atStart => exact ⟨n, (l, 0), by omega, rfl, rfl, by simp, HL2, HI2, HE⟩
  case round =>
    obtain ⟨cc, ⟨o, u⟩, hcc, rfl, rfl, hu, HL3, HI3, HE3⟩ := hrel
    dsimp only at hu HL3 HI3 HE3
    clear HL2 HI2 HE
    by_cases hc0 : 0 < cc
    · obtain ⟨c, rfl⟩ : ∃ c, cc = c + 1 := ⟨cc - 1, by omega⟩
      have HE2 : Hid (E = elimM c (stepE c (o, u))) := HE3.out
      have hc1 : (((c + 1 : Nat) : Int) - 1) = (c : Int) := by omega
      rw [hc1]
      obtain ⟨F, hF⟩ : ∃ F, F = findM o u c (l.length - u) none := ⟨_, rfl⟩
      have HF := Lib.hid hF
      have hF2 : Hid (Hid (F = findM o u c (l.length - u) none)) := HF
      clear hF
      clear HE3 hc0 hc1
      go_wp2_with fail
      go_loop [9, 10] (fun va vi => ∃ (m : Nat) (a : Option Nat), m ≤ l.length - u ∧ vi = .int .i64 ((u : Int) + m - 1) ∧ va = .int .i64 (optI a) ∧ Hid (∀ j, a = some j → u ≤ j ∧ j < l.length) ∧ Hid (F = findM o u c m a)) (fun _ vi => ((intOf vi) + 1).toNat)
      case atStart => exact ⟨l.length - u, none, by omega, by congr 1; omega, rfl, (fun j h => by cases h), HF⟩
      case round =>
        obtain ⟨m, a, hm, rfl, rfl, HA, HF⟩ := hrel
        by_cases hm0 : 0 < m
        · obtain ⟨m, rfl⟩ : ∃ m', m = m' + 1 := ⟨m - 1, by omega⟩
          obtain ⟨x, hx⟩ : ∃ x, o[u + m]? = some x := ⟨_, List.getElem?_eq_getElem (by have := HL3.out; omega)⟩
          have hcx := HI3.out.1.own.cell (casts_at hx)
          have hxl := HI3.out.2 x (List.mem_of_getElem? hx)
          have hgd : o.getD (u + m) 0 = x := by rw [List.getD_eq_getElem?_getD, hx]; rfl
          have HF2 : Hid (F = findM o u c m (if x.testBit c then some (u + m) else a)) := by
            rw [HF.out, ← hgd]; rfl
          have hg := HI3.out.1.own.some_.2.2.1
          have hv := bt_has_val x c (Nat.lt_of_lt_of_le hxl (by decide))
          have e1 : (u : Int) + ((m + 1 : Nat) : Int) - 1 = ((u + m : Nat) : Int) := by omega
          have hum : u + m < l.length := by omega
          rw [e1]
          have HUM := Lib.hid (Nat.le_add_right u m)
          clear e1 hgd HF hx
          generalize hq : u + m = q at *
          cases hb : x.testBit c
          · rw [hb] at hv HF2
            clear hb
            go_wp2_with fail
            go_round
            case rel => exact ⟨m, a, by omega, by rw [← hq]; go_num, rfl, HA.out, HF2⟩
            case measure => simp [intOf]
          · rw [hb] at hv HF2
            clear hb
            go_wp2_with fail
            go_round
            case rel => exact ⟨m, some q, by omega, by rw [← hq]; go_num, rfl, (fun j h => by cases h; exact ⟨HUM.out, hum⟩), HF2⟩
            case measure => simp [intOf]
        · obtain rfl : m = 0 := by omega
          have hFa : F = a := HF.out
          subst hFa
          have HFN := Lib.hid hF2.out
          have e1 : (u : Int) + ((0 : Nat) : Int) - 1 = (u : Int) - 1 := by omega
          rw [e1]
          clear e1 HF
          cases F with
          | none =>
            have hst : stepE c (o, u) = (o, u) := by
              unfold stepE
              dsimp only
              rw [HL3.out, ← HFN.out]
            rw [hst] at HE2
            clear hst HFN
            unfold optI
            go_wp2_with fail
            go_roundw
            case rel => exact ⟨c, (o, u), by omega, rfl, rfl, hu, HL3.out, HI3.out, HE2⟩
            case measure => simp [intOf]
          | some j =>
            unfold optI
            obtain ⟨hj1, hj2⟩ := HA.out j rfl
            have hul : u < o.length := by have := HL3.out; omega
            have hjl : j < o.length := by have := HL3.out; omega
            have hst : stepE c (o, u) = (clearM (swapM o u j) u c, u + 1) := by
              unfold stepE
              dsimp only
              rw [HL3.out, ← HFN.out]
            rw [hst] at HE2
            have hul2 : u < l.length := by omega
            have HUL := Lib.hid hul
            have HJL := Lib.hid hjl
            obtain ⟨xu, hxu⟩ : ∃ xu, xu = o.getD u 0 := ⟨_, rfl⟩
            obtain ⟨xj, hxj⟩ : ∃ xj, xj = o.getD j 0 := ⟨_, rfl⟩
            have HXU : Hid ((casts o)[u]? = some (xu : Int)) := by have := casts_at (getD_at hul); rwa [← hxu] at this
            have HXJ : Hid ((casts o)[j]? = some (xj : Int)) := by have := casts_at (getD_at hjl); rwa [← hxj] at this
            have HSW : Hid (swapM o u j = (o.set u xj).set j xu) := by rw [hxu, hxj]; rfl
            clear hst HFN hul hjl hxu hxj
            go_wp2_with fail
            refine region_stores (fun n W => InEl w g cv (match n with | 0 => o | 1 => o.set u xj | _ => (o.set u xj).set j xu) W) [13, 15] 40 ((.slice (some ⟨g, 0, none⟩) l.length cv : Value) :: (.int .i64 u : Value) :: (.slice (some ⟨g, 0, none⟩) l.length cv : Value) :: (.int .i64 j : Value) :: (.slice (some ⟨g, 0, none⟩) l.length cv : Value) :: (.int .i64 j : Value) :: (.pointer (some ⟨g, 0 + j, none⟩) : Value) :: (.int .i64 xj : Value) :: (.slice (some ⟨g, 0, none⟩) l.length cv : Value) :: (.int .i64 u : Value) :: (.pointer (some ⟨g, 0 + u, none⟩) : Value) :: (.int .i64 xu : Value) :: (.pointer (some ⟨g, 0 + u, none⟩) : Value) :: (.pointer (some ⟨g, 0 + j, none⟩) : Value) :: u54 :: u55 :: u56 :: u57 :: u58 :: u59 :: u60 :: u61 :: u62 :: u63 :: u64 :: u65 :: u66 :: u67 :: u68 :: u69 :: u70 :: u71 :: u72 :: u73 :: u74 :: u75 :: u76 :: u77 :: u78 :: u79 :: u80 :: u81 :: u82 :: u83 :: u84 :: undef :: undef :: []) 40 (.slice (some ⟨g, 0, none⟩) l.length cv) (by as_aux_lemma => kernel_rfl) (by as_aux_lemma => kernel_rfl) (by as_aux_lemma => kernel_rfl) (outV_fin _ 14 (by as_aux_lemma => kernel_rfl) (Nat.le_of_ble_eq_true (by as_aux_lemma => kernel_rfl)) (Nat.le_of_ble_eq_true (by as_aux_lemma => kernel_rfl)) (by as_aux_lemma => kernel_rfl)) (by as_aux_lemma => kernel_rfl) HI3.out.1.drew ?_ ?_
            rotate_left
            · refine eachOp_cons (okM_val (by kernel_rfl) (by kernel_rfl) (by kernel_rfl) (fun _ => by kernel_rfl)) ?_
              refine eachOp_cons (okM_val (by kernel_rfl) (by kernel_rfl) (by kernel_rfl) (fun _ => by kernel_rfl)) ?_
              refine eachOp_cons (okM_val (by kernel_rfl) (by kernel_rfl) (by kernel_rfl) (fun _ => by kernel_rfl)) ?_
              refine eachOp_cons (okM_val (by kernel_rfl) (by kernel_rfl) (by kernel_rfl) (fun _ => by kernel_rfl)) ?_
              refine eachOp_cons (okM_val (by kernel_rfl) (by kernel_rfl) (by kernel_rfl) (fun _ => by kernel_rfl)) ?_
              refine eachOp_cons (okM_val (by kernel_rfl) (by kernel_rfl) (by kernel_rfl) (fun _ => by kernel_rfl)) ?_
              refine eachOp_cons (okM_val (by kernel_rfl) (by kernel_rfl) (by kernel_rfl) (fun _ => idx_int (b := g) (off := 0) (n := l.length) (cap := cv) (k := j) rfl (by kernel_rfl) (by kernel_rfl) hj2)) ?_
              refine eachOp_cons (okM_load (by kernel_rfl) (by kernel_rfl) (by kernel_rfl) rfl rfl (by kernel_rfl) (fun W hC => load_int (p := ⟨g, 0 + j, none⟩) rfl (by kernel_rfl) (by rw [Nat.zero_add]; exact hC.own.cell HXJ.out))) ?_
              refine eachOp_cons (okM_val (by kernel_rfl) (by kernel_rfl) (by kernel_rfl) (fun _ => by kernel_rfl)) ?_
              refine eachOp_cons (okM_val (by kernel_rfl) (by kernel_rfl) (by kernel_rfl) (fun _ => by kernel_rfl)) ?_
              refine eachOp_cons (okM_val (by kernel_rfl) (by kernel_rfl) (by kernel_rfl) (fun _ => idx_int (b := g) (off := 0) (n := l.length) (cap := cv) (k := u) rfl (by kernel_rfl) (by kernel_rfl) hul2)) ?_
              refine eachOp_cons (okM_load (by kernel_rfl) (by kernel_rfl) (by kernel_rfl) rfl rfl (by kernel_rfl) (fun W hC => load_int (p := ⟨g, 0 + u, none⟩) rfl (by kernel_rfl) (by rw [Nat.zero_add]; exact hC.own.cell HXU.out))) ?_
              refine eachOp_cons (okM_val (by kernel_rfl) (by kernel_rfl) (by kernel_rfl) (fun _ => idx_int (b := g) (off := 0) (n := l.length) (cap := cv) (k := u) rfl (by kernel_rfl) (by kernel_rfl) hul2)) ?_
              refine eachOp_cons (okM_store 0 rfl (by kernel_rfl) (by kernel_rfl) rfl (fun W hC => ⟨_, store_int (p := ⟨g, 0 + u, none⟩) (z := (xj : Int)) rfl (by kernel_rfl) (by kernel_rfl) (by rw [Nat.zero_add]; exact hC.own.cell HXU.out) (by rw [Nat.zero_add]; exact hC.own.free u), by rw [Nat.zero_add u]; exact InEl.put (o := o) hC HUL.out xj⟩)) ?_
              refine eachOp_cons (okM_val (by kernel_rfl) (by kernel_rfl) (by kernel_rfl) (fun _ => idx_int (b := g) (off := 0) (n := l.length) (cap := cv) (k := j) rfl (by kernel_rfl) (by kernel_rfl) hj2)) ?_
              refine eachOp_cons (okM_store 1 rfl (by kernel_rfl) (by kernel_rfl) rfl (fun W hC => by
                obtain ⟨z, hz⟩ : ∃ z, (o.set u xj)[j]? = some z := ⟨_, List.getElem?_eq_getElem (by rw [List.length_set]; exact HJL.out)⟩
                exact ⟨_, store_int (p := ⟨g, 0 + j, none⟩) (z := (xu : Int)) rfl (by kernel_rfl) (by kernel_rfl) (by rw [Nat.zero_add]; exact hC.own.cell (casts_at hz)) (by rw [Nat.zero_add]; exact hC.own.free j), by rw [Nat.zero_add j]; exact InEl.put (o := o.set u xj) hC (by rw [List.length_set]; exact HJL.out) xu⟩)) ?_
              exact eachOp_nil
            intro W hW
            rename_i hK hw0
            refine hK _ _ ?_
            have hW2 : InEl w g cv (swapM o u j) W := by rw [HSW.out]; exact hW
            have HI4 := Lib.hid hW2
            have hln : (swapM o u j).length = l.length := by rw [swapM_len]; exact HL3.out
            have HM4 : Hid (∀ x ∈ swapM o u j, x < O40) := fun x hx => swapM_mem HUL.out HJL.out HI3.out.2 hx
            clear hW hW2 hK hw0 HXU HXJ HSW HUL HJL HI3
            have HSL := Lib.hid hln
            generalize swapM o u j = s at *
            clear hln
            have HI5 : Hid (InEl w g cv (mixC s u c 0) W) := by rw [mixC_zero]; exact HI4.out
            clear HI4
            simp only [finA, List.take_succ_cons, List.take_zero, List.cons_append, List.nil_append, List.set_cons_succ, List.set_cons_zero, Nat.zero_add]
            go_wp2_with fail
            go_loopw [56] (fun vi wx => ∃ k : Nat, k ≤ l.length ∧ vi = .int .i64 k ∧ Hid (InEl w g cv (mixC s u c k) wx)) (fun vi _ => l.length - (intOf vi).toNat)
            case atStart => exact ⟨0, by omega, rfl, HI5⟩
            case round =>
              obtain ⟨k, hk, rfl, HI6⟩ := hrel
              clear HI5
              by_cases hlk : k < l.length
              · have hks : k < s.length := by have := HSL.out; omega
                have hus : u < s.length := by have := HSL.out; omega
                have hm1 := mixC_at (u := u) (c := c) hks
                have hm2 := mixC_own (u := u) (c := c) hus (show k ≤ s.length by omega)
                have hck := HI6.out.own.cell (casts_at hm1)
                have hcu := HI6.out.own.cell (casts_at hm2)
                have hfk := HI6.out.own.free k
                have hg := HI6.out.own.some_.2.2.1
                have hxk := HM4.out _ (getD_mem hks)
                have hxu := HM4.out _ (getD_mem hus)
                have hv := bt_has_val (s.getD k 0) c (Nat.lt_of_lt_of_le hxk (by decide))
                have HC : Hid (clr s u c k = if k ≠ u ∧ (s.getD k 0).testBit c then s.getD k 0 ^^^ s.getD u 0 else s.getD k 0) := rfl
                have HN : Hid (InEl w g cv (mixC s u c (k + 1)) (wr.setCell ⟨g, k, none⟩ (.int .i64 ((clr s u c k : Nat) : Int)))) := by
                  rw [← mixC_next hks]
                  exact HI6.out.put (by rw [mixC_len (by omega)]; exact hks) _
                have HK : Hid (clr s u c k = s.getD k 0 → InEl w g cv (mixC s u c (k + 1)) wr) := fun e => by
                  rw [← mixC_keep hks e]; exact HI6.out
                have hxo := i64_xor_nat (s.getD k 0) (s.getD u 0) (Nat.lt_of_lt_of_le hxk (by decide)) (Nat.lt_of_lt_of_le hxu (by decide))
                generalize clr s u c k = y at *
                generalize s.getD k 0 = xk at *
                generalize s.getD u 0 = xu at *
                clear HI6 hm1 hm2 hks hus
                by_cases hku : k = u
                · have hy : y = xk := by rw [HC.out, if_neg (by simp [hku])]
                  have HK2 := Lib.hid (HK.out hy)
                  clear HC HN HK hy hv hxo
                  have hne : ((k : Int) != (u : Int)) = false := by simp; omega
                  clear hku
                  go_wp2_with fail
                  go_roundw
                  case rel => exact ⟨k + 1, by omega, by go_num, HK2⟩
                  case measure => simp [intOf]; omega
                · have hne : ((k : Int) != (u : Int)) = true := by simp; omega
                  cases hb : xk.testBit c
                  · have hy : y = xk := by rw [HC.out, if_neg (by simp [hb])]
                    have HK2 := Lib.hid (HK.out hy)
                    rw [hb] at hv
                    clear HC HN HK hy hxo hku hb
                    go_wp2_with fail
                    go_roundw
                    case rel => exact ⟨k + 1, by omega, by go_num, HK2⟩
                    case measure => simp [intOf]; omega
                  · have hy : y = xk ^^^ xu := by rw [HC.out, if_pos ⟨hku, hb⟩]
                    subst hy
                    rw [hb] at hv
                    clear HC HK hku hb
                    generalize xk ^^^ xu = z at *
                    go_wp2_with fail
                    go_region_with fail
                    all_goals
                      go_wp2_with fail
                      go_roundw
                      case rel => first | exact ⟨k + 1, by omega, by go_num, HN.out⟩ | exact ⟨k + 1, by omega, by go_num, HN.out.drew⟩
                      case measure => simp [intOf]; omega
              · obtain rfl : k = l.length := by omega
                have HI7 : Hid (InEl w g cv (clearM s u c) wr) := by
                  rw [← mixC_all, HSL.out]; exact HI6.out
                have HM7 : Hid (∀ x ∈ clearM s u c, x < O40) := fun x hx => clearM_mem HM4.out (by have := HSL.out; omega) hx
                have HSL7 : Hid ((clearM s u c).length = l.length) := by rw [clearM_len]; exact HSL.out
                clear HI6
                go_wp2_with fail
                go_roundw
                case rel => exact ⟨c, (clearM s u c, u + 1), by omega, rfl, by go_num, by show u + 1 ≤ l.length; omega, HSL7.out, ⟨HI7.out, HM7.out⟩, HE2⟩
                case measure => simp [intOf]
    · obtain rfl : cc = 0 := by omega
      have hEo : E = (o, u) := HE3.out
      subst hEo
      clear HE3
      go_wp2_with fail
      go_ret2
      exact ⟨g, cv, rfl, HI3.out.1⟩
end Go.Proofs.YtpbcomdlboiddaaDoor
namespace Go.Proofs.YtpbcomdlboiddaaDoor
open Go.RowKit

theorem elim_len (l : List Nat) (n : Nat) : (elimd l n).1.length = l.length ∧ (elimd l n).2 ≤ l.length := by
  obtain ⟨p, h⟩ := elimd_spec l n
  exact ⟨h.len, by have := h.le; rwa [h.len] at this⟩
theorem casts_take (l : List Nat) (k : Nat) : casts (l.take k) = (casts l).take k := by simp [casts, List.map_take]
theorem rf_Reduced (l : List Nat) (hl : l.length ≤ 60) (hx : ∀ x ∈ l, x < O40) (n : Nat) (hn : n ≤ 24) (p : Option Addr) (cap : Nat) (w : World) (h : Ints w p (casts l)) (hp : p = none → cap = 0) :
    Calls Tryd.prog 70 #[.slice p l.length cap, .int .i64 (n : Int)] w (Lists (redR l n) w) := by
  have HE := Lib.hid (rf_eliminated l hl hx n hn p cap w h hp)
  obtain ⟨h1, h2⟩ := elim_len l n
  have HT : Hid (redR l n = (elimd l n).1.take (elimd l n).2) := rfl
  generalize redR l n = R at *
  generalize elimd l n = E at *
  clear h hp hx
  go_enter Tryd.func70, Tryd.ntmps70
  go_wp2_with fail
  refine HE.out.mono ?_
  rintro e w1 ⟨g, c, rfl, hI⟩
  have hc := hI.own.some_.2.2.2.1
  rw [casts_len] at hc
  have hu : (E.2 : Int) ≤ (c : Int) := by omega
  have HI := Lib.hid hI
  have H1 := Lib.hid h1
  clear hI h1 HE
  go_wp2_with fail
  go_ret
  refine ⟨_, rfl, HI.out.bel, ?_⟩
  have := HI.out.own.first (k := E.2) (by rw [casts_len, H1.out]; exact h2)
  rw [HT.out, casts_take]
  exact this
/-- The first k columns are made. -/
def mixT (l : List Nat) (n k : Nat) : List Nat := (List.range k).map (fun k => colM l 0 k 0) ++ List.replicate (n - k) 0
theorem mixT_len {l : List Nat} {n k : Nat} (hk : k ≤ n) : (mixT l n k).length = n := by simp [mixT]; omega
theorem mixT_zero {l : List Nat} {n k : Nat} (hk : k < n) : (mixT l n k)[k]? = some 0 := by
  unfold mixT
  rw [List.getElem?_append_right (by simp), List.length_map, List.length_range, Nat.sub_self, List.getElem?_replicate, if_pos (by omega)]
theorem mixT_next {l : List Nat} {n k : Nat} (hk : k < n) : (mixT l n k).set k (colM l 0 k 0) = mixT l n (k + 1) := by
  unfold mixT
  rw [List.set_append_right _ _ (by simp), List.length_map, List.length_range, Nat.sub_self, show n - k = (n - (k + 1)) + 1 by omega, List.replicate_succ, List.set_cons_zero, List.range_succ, List.map_append, List.append_assoc]
  rfl
theorem mixT_all (l : List Nat) (n : Nat) : mixT l n n = transposedM l n := by simp [mixT, transposedM]
structure InTn (w : World) (rows : List Nat) (wr : World) : Prop where
  bel : Below w.heap.size w wr
  rows : Rows_ wr w.heap.size rows
theorem InTn.set_ {w wr : World} {rows : List Nat} (h : InTn w rows wr) (i x : Nat) : InTn w (rows.set i x) (wr.setCell ⟨w.heap.size, i, none⟩ (.int .i64 (x : Int))) := ⟨h.bel.setCell (Nat.le_refl _) _, h.rows.set_ i x⟩
theorem InTn.drew {w wr : World} {rows : List Nat} (h : InTn w rows wr) : InTn w rows wr.drew := ⟨h.bel.drew, h.rows⟩
set_option maxHeartbeats 2000000 in
theorem rf_Turned (l : List Nat) (hl : l.length < 40) (hx : ∀ x ∈ l, x < R24) (n : Nat) (hn : n ≤ 24) (p : Option Addr) (cap : Nat) (w : World) (h : Ints w p (casts l)) :
    Calls Tryd.prog 85 #[.slice p l.length cap, .int .i64 (n : Int)] w (Lists (transposedM l n) w) := by
  obtain ⟨i0, hi, hz0, hz1, hz2⟩ := info_parts info_int
  obtain ⟨w1, hmk, hown1, hg1⟩ := run_make_full (P := Tryd.prog) w w.heap.size 22 3 i0 (.int .i64 0) 1 und_ints hi hz0 hz1 .i64 .i64 n (by rw [hz2]; omega) (by unfold maxLen; omega) (Nat.le_refl _)
  have hb1 : Below w.heap.size w w1 := (Below.refl _ w).grown hg1 (Nat.le_refl _) (by simp)
  have HI := Lib.hid h
  have hR : Rows_ w1 w.heap.size (List.replicate n 0) := by
    rcases hown1.2 with ⟨h', _⟩ | ⟨g, cap', cur, h1, h2, h3, h4, h5, h6, h7⟩
    · simp at h'
    · simp only [Value.slice.injEq, Option.some.injEq, Addr.mk.injEq, and_true, true_and] at h1
      obtain ⟨rfl, rfl⟩ := h1
      have e1 : cur.toList = vals (List.replicate n 0) := by
        rw [List.take_of_length_le (by rw [Array.length_toList]; omega), show (Value.int IntKind.i64 0).cells = #[.int .i64 0] from rfl] at h7
        rw [h7]
        refine List.ext_getElem? fun i => ?_
        unfold madeCells vals casts
        by_cases hi : i < n
        · simp [hi, Nat.mod_one, iv, List.getElem?_replicate]
        · simp [hi, List.getElem?_replicate]
      unfold Rows_
      rw [h3, ← e1]
  have HT : Hid (InTn w (mixT l n 0) w1) := ⟨hb1, by unfold mixT; simpa using hR⟩
  clear h hown1 hg1 hi hz0 hz1 hz2 hb1 hR
  go_enter Tryd.func85, Tryd.ntmps85
  obtain ⟨R, hR⟩ : ∃ R, transposedM l n = R := ⟨_, rfl⟩
  have HR : Hid (mixT l n n = R) := by rw [mixT_all]; exact hR
  rw [hR]
  clear hR
  go_wp2_with fail
  clear hmk
  go_loopw [13] (fun i wr => ∃ (k : Nat), k ≤ n ∧ i = .int .i64 k ∧ Hid (InTn w (mixT l n k) wr)) (fun i _ => n - (intOf i).toNat)
  case atStart => exact ⟨0, by omega, rfl, HT⟩
  case round =>
    obtain ⟨k, hk, rfl, HK⟩ := hrel
    clear HT
    by_cases hlt : k < n
    · have hk0 := mixT_zero (l := l) hlt
      have HM : Hid ((mixT l n k).length = n) := mixT_len (by omega)
      have HC0 : Hid (colM l 0 k 0 = colM (l.drop 0) 0 k 0) := rfl
      have HS0 : Hid (InTn w ((mixT l n k).set k 0) wr) := by
        have e : (mixT l n k).set k 0 = mixT l n k := List.ext_getElem? fun i => by
          by_cases e : k = i
          · subst e; rw [List.getElem?_set_self (by rw [HM.out]; exact hlt), hk0]
          · rw [List.getElem?_set_ne e]
        rw [e]; exact HK.out
      have HNX := Lib.hid (mixT_next (l := l) hlt)
      clear hk0 HK
      generalize mixT l n k = M at *
      go_wp2_with fail
      go_loopw [18] (fun i wx => ∃ (j cc : Nat), j ≤ l.length ∧ i = .int .i64 j ∧ cc < O40 ∧ Hid (InTn w (M.set k cc) wx) ∧ Hid (colM l 0 k 0 = colM (l.drop j) j k cc)) (fun i _ => l.length - (intOf i).toNat)
      case atStart => exact ⟨0, 0, by omega, rfl, by decide, HS0, HC0⟩
      case round =>
        obtain ⟨j, cc, hj, rfl, hcc, HJ, HC⟩ := hrel
        clear HS0 HC0
        by_cases hlj : j < l.length
        · obtain ⟨x, hxj⟩ : ∃ x, l[j]? = some x := ⟨_, List.getElem?_eq_getElem hlj⟩
          obtain ⟨b, off, rfl, hb, hcx⟩ := (HI.out.below HJ.out.bel).at_ (casts_at hxj)
          have hx24 := hx x (List.mem_of_getElem? hxj)
          have hb40 := bit40 x k (show j < 40 by omega)
          have HC2 := Lib.hid (HC.out.trans (colM_drop hxj k cc))
          have hc2 := or40 hcc hb40
          have hkM : k < M.length := by rw [HM.out]; exact hlt
          have hck := HJ.out.rows.cell (List.getElem?_set_self hkM)
          have hfk := HJ.out.rows.free k
          have hrl := HJ.out.rows.lt
          have HN : Hid (∀ c2 : Nat, InTn w (M.set k c2) (wr.setCell ⟨w.heap.size, k, none⟩ (.int .i64 (c2 : Int)))) := fun c2 => by
            have := HJ.out.set_ k c2
            rwa [List.set_set] at this
          have hdv : (x : Int) / 2 ^ k = ((x >>> k : Nat) : Int) := by rw [Nat.shiftRight_eq_div_pow]; simp
          have hq : x >>> k < R24 := Nat.lt_of_le_of_lt (Nat.shiftRight_le _ _) hx24
          have hand : Go.bits .and .i64 ((x >>> k : Nat) : Int) 1 = ((x >>> k &&& 1 : Nat) : Int) := i64_and_nat (x >>> k) 1 (Nat.lt_of_lt_of_le hq (by decide)) (by decide)
          have hor : Go.bits .or .i64 (cc : Int) (((x >>> k &&& 1) <<< j : Nat) : Int) = ((cc ||| (x >>> k &&& 1) <<< j : Nat) : Int) := i64_or_nat cc _ (Nat.lt_of_lt_of_le hcc (by decide)) (Nat.lt_of_lt_of_le hb40 (by decide))
          have hshl : wrap64 (((x >>> k &&& 1 : Nat) : Int) * 2 ^ j) = (((x >>> k &&& 1) <<< j : Nat) : Int) := by
            have e : (((x >>> k &&& 1 : Nat) : Int) * 2 ^ j) = (((x >>> k &&& 1) <<< j : Nat) : Int) := by rw [Nat.shiftLeft_eq]; simp
            have hb := hb40
            unfold O40 at hb
            rw [e]
            generalize (x >>> k &&& 1) <<< j = s at hb ⊢
            exact IntWalk.wrap64_in (s : Int) ⟨by omega, by omega⟩
          have hki : (k : Int) < n := by omega
          have HE1 : Hid (Go.bits .or .i64 (cc : Int) (wrap64 (((x >>> k &&& 1 : Nat) : Int) * 2 ^ j)) = ((cc ||| (x >>> k &&& 1) <<< j : Nat) : Int)) := by rw [hshl]; exact hor
          generalize cc ||| (x >>> k &&& 1) <<< j = c2 at *
          generalize (x >>> k &&& 1) <<< j = s2 at *
          generalize x >>> k &&& 1 = a2 at *
          generalize x >>> k = q at *
          have HN2 := Lib.hid (HN.out c2)
          clear hxj HJ HC hx24 hkM HN
          go_wp2_with fail
          go_region_with fail
          all_goals
            go_wp2_with fail
            rw [HE1.out]
            go_roundw
            case rel => first | exact ⟨j + 1, c2, by omega, by go_num, hc2, HN2.out, HC2⟩ | exact ⟨j + 1, c2, by omega, by go_num, hc2, HN2.out.drew, HC2⟩
            case measure => simp [intOf]; omega
        · obtain rfl : j = l.length := by omega
          have hce : colM l 0 k 0 = cc := by
            rw [HC.out, List.drop_eq_nil_of_le (by omega)]; rfl
          have HK2 : Hid (InTn w (mixT l n (k + 1)) wr) := by rw [← HNX.out, hce]; exact HJ.out
          clear hce HJ HC HNX
          go_wp2_with fail
          go_roundw
          case rel => exact ⟨k + 1, by omega, by go_num, HK2⟩
          case measure => simp [intOf]; omega
    · obtain rfl : k = n := by omega
      have HK3 : Hid (InTn w R wr) := by rw [← HR.out]; exact HK.out
      have hRl : R.length = k := by rw [← HR.out]; exact mixT_len (by omega)
      have HRl := Lib.hid hRl
      clear hRl HK
      go_wp2_with fail
      go_ret
      refine ⟨.slice (some ⟨w.heap.size, 0, none⟩) k k, rfl, HK3.out.bel, by simp [casts], .inr ⟨w.heap.size, k, (vals R).toArray, by rw [casts_len, HRl.out], Nat.le_refl _, HK3.out.rows, by rw [casts_len, HRl.out]; exact Nat.le_refl _, by unfold maxLen; omega, by simp [vals_len, HRl.out], ?_⟩⟩
      rw [List.take_of_length_le (by simp [vals_len, casts_len])]
      rfl
end Go.Proofs.YtpbcomdlboiddaaDoor
namespace Go.Proofs.YtpbcomdlboiddaaDoor
open Go.RowKit

theorem foldl_drop {α β : Type} (f : β → α → β) {l : List α} {k : Nat} {x : α} (h : l[k]? = some x) (s : β) : (l.drop k).foldl f s = (l.drop (k + 1)).foldl f (f s x) := by
  obtain ⟨hk, rfl⟩ := List.getElem?_eq_some_iff.1 h
  rw [List.drop_eq_getElem_cons hk]
  rfl
/-- The rows of the free columns below k. -/
def outK (R : List Nat) (k : Nat) : List Nat := ((List.range k).filter fun c => !(leadsM R).testBit c).map (xcM R)
theorem outK_next {R : List Nat} {k : Nat} : outK R (k + 1) = if (leadsM R).testBit k then outK R k else outK R k ++ [xcM R k] := by
  unfold outK
  rw [List.range_succ, List.filter_append, List.map_append]
  cases h : (leadsM R).testBit k <;> simp [h]
theorem outK_len (R : List Nat) (k : Nat) : (outK R k).length ≤ k := by
  unfold outK
  rw [List.length_map]
  exact Nat.le_trans (List.length_filter_le _ _) (by simp)
theorem rf_Lead_of (r : Nat) (h0 : r ≠ 0) (h : r < R24) (w : World) : Calls Tryd.prog 71 #[.int .i64 (r : Int)] w (Gives (.int .i64 (r.log2 : Nat)) w) := by
  have := rf_Lead r (Nat.lt_of_lt_of_le h (by decide)) w
  have e : ((bitLen r : Int) - 1) = (r.log2 : Int) := by unfold bitLen; rw [if_neg h0]; omega
  rwa [e] at this
theorem log24 {r : Nat} (h0 : r ≠ 0) (h : r < R24) : r.log2 < 24 := log_lt h0 (by simpa [R24] using h)
set_option maxHeartbeats 4000000 in
theorem rf_Orthogonal (l : List Nat) (hl : l.length ≤ 60) (n : Nat) (hx : ∀ x ∈ l, x < 2 ^ n) (hn : n ≤ 24) (p : Option Addr) (cap : Nat) (w : World) (h : Ints w p (casts l)) (hp : p = none → cap = 0) :
    Calls Tryd.prog 72 #[.slice p l.length cap, .int .i64 (n : Int)] w (Lists (orthR l n) w) := by
  have HR := Lib.hid (rf_Reduced l hl (fun x hx' => Nat.lt_of_lt_of_le (red24 hn hx x hx') (by decide)) n hn p cap w h hp)
  obtain ⟨r1, r2⟩ := redR_spec hx
  have hlt := redR_lt hx
  have hout : ∀ x ∈ outM (redR l n) n, x < 2 ^ n := fun x hx => ((out_span r1 hlt x).1 (.of_mem hx)).1
  have HR2 : Hid (∀ v w', Mine w' w.heap.size v (casts (outK (redR l n) n)) → ∃ p c, v = .slice p (outK (redR l n) n).length c ∧ Calls Tryd.prog 70 #[.slice p (outK (redR l n) n).length c, .int .i64 (n : Int)] w' (Lists (orthR l n) w')) := fun v w' hm => by
    obtain ⟨p, c, hv, hi⟩ := hm.ints
    rw [casts_len] at hv
    refine ⟨p, c, hv, rf_Reduced (outK (redR l n) n) (Nat.le_trans (outK_len _ _) (by omega)) (fun x hx' => Nat.lt_of_lt_of_le (red24 hn hout x hx') (by decide)) n hn p c w' hi (fun hp => ?_)⟩
    subst hp
    subst hv
    obtain ⟨_, hh | ⟨g', c', cur, h1, _⟩⟩ := hm
    · have := hh.1; injection this
    · cases h1
  have hR24 : ∀ r ∈ redR l n, r < R24 := red24 hn hlt
  have HLd : Hid (∀ r w', r ∈ redR l n → Calls Tryd.prog 71 #[.int .i64 (r : Int)] w' (Gives (.int .i64 (r.log2 : Nat)) w')) := fun r w' hr => rf_Lead_of r (r1.nz r hr) (hR24 r hr) w'
  have HLg : Hid (∀ r ∈ redR l n, r.log2 < 24) := fun r hr => log24 (r1.nz r hr) (hR24 r hr)
  have HR24 := Lib.hid hR24
  have hRl : (redR l n).length ≤ 60 := by unfold redR; rw [List.length_take]; have := elim_len l n; omega
  have HLM : Hid (leadsM (redR l n) = ((redR l n).drop 0).foldl (fun x r => x ||| 2 ^ r.log2) 0) := rfl
  generalize redR l n = R at *
  generalize orthR l n = T at *
  clear h hp hx hout r1 r2 hlt hR24
  go_enter Tryd.func72, Tryd.ntmps72
  go_wp2_with fail
  refine HR.out.mono ?_
  rintro e w1 ⟨v, rfl, hI⟩
  obtain ⟨pv, cv, rfl, hvi⟩ := hI.own.ints
  have HV := Lib.hid hvi
  have hb1 := hI.bel
  have hlen : (casts R).length = R.length := casts_len R
  rw [hlen]
  clear hI hvi hlen HR
  go_wp2_with fail
  go_loopw [6, 19] (fun vx i wr => ∃ (k x : Nat), k ≤ R.length ∧ vx = .int .i64 x ∧ i = .int .i64 k ∧ x < O40 ∧ Hid (Below w1.heap.size w1 wr) ∧ Hid (leadsM R = (R.drop k).foldl (fun x r => x ||| 2 ^ r.log2) x)) (fun _ i _ => R.length - (intOf i).toNat)
  case atStart => exact ⟨0, 0, by omega, rfl, rfl, by decide, Below.refl _ _, HLM.out⟩
  case round =>
    obtain ⟨k, x, hk, rfl, rfl, hx, HB, HF⟩ := hrel
    clear HLM
    by_cases hlk : k < R.length
    · obtain ⟨r, hrk⟩ : ∃ r, R[k]? = some r := ⟨_, List.getElem?_eq_getElem hlk⟩
      have hrm := List.mem_of_getElem? hrk
      obtain ⟨b, off, rfl, hb, hcx⟩ := (HV.out.below HB.out).at_ (casts_at hrk)
      have HD := Lib.hid (HF.out.trans (foldl_drop _ hrk x))
      have hg24 := HLg.out r hrm
      have hpw := pow_wrap (show r.log2 < 40 by omega)
      have hp40 := pow40 (show r.log2 < 40 by omega)
      have hor := i64_or_nat x (2 ^ r.log2) (Nat.lt_of_lt_of_le hx (by decide)) (Nat.lt_of_lt_of_le hp40 (by decide))
      have ho40 := or40 hx hp40
      have HC := Lib.hid (fun w' => HLd.out r w' hrm)
      generalize (x ||| 2 ^ r.log2) = x2 at *
      generalize 2 ^ r.log2 = q at *
      generalize r.log2 = lg at *
      clear hrk HF hrm
      go_wp2_with fail
      refine (HC.out _).mono ?_
      rintro e w2 ⟨rfl, hb2⟩
      have HB2 := Lib.hid (below_via hb2 HB.out)
      clear hb2 HC HB
      go_wp2_with fail
      go_roundw
      case rel => exact ⟨k + 1, x2, by omega, rfl, by go_num, ho40, HB2.out, HD.out⟩
      case measure => simp [intOf]; omega
    · have hxe : x = leadsM R := by rw [HF.out, List.drop_eq_nil_of_le (by omega)]; rfl
      have HG0 : Hid (Grow w1 (.slice none 0 0) (outK R 0) wr) := ⟨HB.out, Mine.nil _ _⟩
      clear HF HB
      subst hxe
      have HLT := Lib.hid hx
      generalize hL : leadsM R = L at *
      have HL := Lib.hid hL
      clear hL
      go_wp2_with fail
      go_loopw [9, 10] (fun vo vc wx => ∃ (c : Nat) (v : Value), c ≤ n ∧ vo = v ∧ vc = .int .i64 c ∧ Hid (Grow w1 v (outK R c) wx)) (fun _ vc _ => n - (intOf vc).toNat)
      case atStart => exact ⟨0, _, by omega, rfl, rfl, HG0⟩
      case round =>
        obtain ⟨c, v, hc, rfl, rfl, HG⟩ := hrel
        clear HG0
        by_cases hcn : c < n
        · have hv := bt_has_val L c (Nat.lt_of_lt_of_le hx (by decide))
          have hnx := outK_next (R := R) (k := c)
          rw [HL.out] at hnx
          cases hb : L.testBit c
          · rw [hb] at hv hnx
            rw [if_neg (by decide)] at hnx
            have HNX := Lib.hid hnx
            have hpw := pow_wrap (show c < 40 by omega)
            have hp40 := pow40 (show c < 40 by omega)
            have HX0 : Hid (xcM R c = (R.drop 0).foldl (fun x r => if r.testBit c then x ||| 2 ^ r.log2 else x) (2 ^ c)) := rfl
            generalize 2 ^ c = q at *
            clear hb hnx
            go_wp2_with fail
            rw [hpw]
            go_loopw [11, 43] (fun vx i wx => ∃ (k x : Nat), k ≤ R.length ∧ vx = .int .i64 x ∧ i = .int .i64 k ∧ x < O40 ∧ Hid (Grow w1 u9 (outK R c) wx) ∧ Hid (xcM R c = (R.drop k).foldl (fun x r => if r.testBit c then x ||| 2 ^ r.log2 else x) x)) (fun _ i _ => R.length - (intOf i).toNat)
            case atStart => exact ⟨0, q, by omega, rfl, rfl, hp40, HG.out, HX0.out⟩
            case round =>
              obtain ⟨k, x, hk, rfl, rfl, hx, HB, HF⟩ := hrel
              clear HX0 HG hpw hp40
              by_cases hlk : k < R.length
              · obtain ⟨r, hrk⟩ : ∃ r, R[k]? = some r := ⟨_, List.getElem?_eq_getElem hlk⟩
                have hrm := List.mem_of_getElem? hrk
                obtain ⟨b, off, rfl, hb, hcx⟩ := (HV.out.below HB.out.bel).at_ (casts_at hrk)
                have hd := HF.out.trans (foldl_drop _ hrk x)
                have hr24 := HR24.out r hrm
                have hv2 := bt_has_val r c (Nat.lt_of_lt_of_le hr24 (by decide))
                cases hbr : r.testBit c
                · rw [hbr, if_neg (by decide)] at hd
                  rw [hbr] at hv2
                  have HD := Lib.hid hd
                  clear hd hbr hrk HF hrm
                  go_wp2_with fail
                  go_roundw
                  case rel => exact ⟨k + 1, x, by omega, rfl, by go_num, hx, HB.out, HD.out⟩
                  case measure => simp [intOf]; omega
                · rw [hbr, if_pos rfl] at hd
                  rw [hbr] at hv2
                  have HD := Lib.hid hd
                  have hg24 := HLg.out r hrm
                  have hpw := pow_wrap (show r.log2 < 40 by omega)
                  have hp40 := pow40 (show r.log2 < 40 by omega)
                  have hor := i64_or_nat x (2 ^ r.log2) (Nat.lt_of_lt_of_le hx (by decide)) (Nat.lt_of_lt_of_le hp40 (by decide))
                  have ho40 := or40 hx hp40
                  have HC := Lib.hid (fun w' => HLd.out r w' hrm)
                  clear hd hbr hrk HF hrm
                  generalize (x ||| 2 ^ r.log2) = x2 at *
                  generalize 2 ^ r.log2 = q2 at *
                  generalize r.log2 = lg at *
                  go_wp2_with fail
                  refine (HC.out _).mono ?_
                  rintro e w2 ⟨rfl, hb2⟩
                  have HB2 := Lib.hid (HB.out.call hb2)
                  clear hb2 HC HB
                  go_wp2_with fail
                  go_roundw
                  case rel => exact ⟨k + 1, x2, by omega, rfl, by go_num, ho40, HB2.out, HD.out⟩
                  case measure => simp [intOf]; omega
              · have hxe : xcM R c = x := by rw [HF.out, List.drop_eq_nil_of_le (by omega)]; rfl
                have hn2 : outK R (c + 1) = outK R c ++ [x] := by rw [HNX.out, hxe]
                have HN2 := Lib.hid hn2
                clear hn2
                have HO := Lib.hid (HB.out.own.al (.cells #[.int .i64 (x : Int)] 3))
                have HC1 := Lib.hid (cell1_new wr (x : Int) 3)
                have hBB : w1.heap.size ≤ (wr.alloc (.cells #[.int .i64 (x : Int)] 3)).heap.size := by rw [World.size_alloc]; have := HB.out.bel.size; omega
                have hLL : (casts (outK R c)).length ≤ 1000000 := by rw [casts_len]; have := outK_len R c; omega
                have HBB := Lib.hid hBB
                have HLL := Lib.hid hLL
                have HG5 := Lib.hid HB.out
                clear hBB hLL HB HNX HF hxe
                generalize outK R c = O at *
                go_wp2_with (at_builtin; refine wpList_app rfl (.tmp 58) (.tmp 60) rfl w1.heap.size _ (casts O) rfl HO.out HBB.out HLL.out wr.heap.size 1 (x : Int) rfl HC1.out ?_; intro g4 cap4 w4 hm4 hg4 hat4 hlt4)
                have HG6 := Lib.hid ((HG5.out.al _).put hm4 hg4)
                rw [← HN2.out] at HG6
                clear hm4 hg4 hat4 HO HBB HLL HG5 HC1 HN2
                go_wp2_with fail
                go_roundw
                case rel => exact ⟨c + 1, _, by omega, rfl, by go_num, HG6.out⟩
                case measure => simp [intOf]; omega
          · rw [hb] at hv hnx
            rw [if_pos rfl] at hnx
            have HG2 : Hid (Grow w1 u9 (outK R (c + 1)) wr) := by rw [hnx]; exact HG.out
            clear hb hnx HG
            go_wp2_with fail
            go_roundw
            case rel => exact ⟨c + 1, _, by omega, rfl, by go_num, HG2⟩
            case measure => simp [intOf]; omega
        · obtain rfl : c = n := by omega
          obtain ⟨p2, c2, rfl, hC⟩ := HR2.out _ _ (HG.out.own.low hb1.size)
          have HC := Lib.hid hC
          have HG2 := Lib.hid (below_via HG.out.bel hb1)
          generalize outK R c = O at *
          clear HG hC
          go_wp2_with fail
          refine HC.out.mono ?_
          rintro e w3 ⟨v3, rfl, h3⟩
          have HG3 := Lib.hid (below_via h3.bel HG2.out)
          have HO3 := Lib.hid (h3.own.low HG2.out.size)
          clear h3 HC
          go_wp2_with fail
          go_ret
          exact ⟨_, rfl, HG3.out, HO3.out⟩
end Go.Proofs.YtpbcomdlboiddaaDoor
namespace Go.Proofs.YtpbcomdlboiddaaDoor
open Go.RowKit

def solV : Option Nat → Value
  | some x => .tuple #[.int .i64 (x : Int), .bool true]
  | none => .tuple #[.int .i64 0, .bool false]
theorem both_next {l : List Nat} {n b k r : Nat} (h : l[k]? = some r) : (bothM l 0 n b).take (k + 1) = (bothM l 0 n b).take k ++ [r ||| ((b >>> k &&& 1) <<< n)] := by
  have hk : k < l.length := (List.getElem?_eq_some_iff.1 h).1
  have hg := bothM_getD l 0 n b k hk
  have hr : l.getD k 0 = r := by rw [List.getD_eq_getElem?_getD, h]; rfl
  rw [hr, Nat.zero_add] at hg
  have hl : k < (bothM l 0 n b).length := by rw [bothM_len]; exact hk
  rw [List.take_succ_eq_append_getElem hl]
  have e : (bothM l 0 n b)[k] = (bothM l 0 n b).getD k 0 := by rw [List.getD_eq_getElem?_getD, List.getElem?_eq_getElem hl]; rfl
  rw [e, hg]
theorem InEl.call {w wr wx : World} {g c : Nat} {o : List Nat} (h : InEl w g c o wr) (hb : Below wr.heap.size wr wx) : InEl w g c o wx := ⟨below_via hb h.bel, h.own.call hb⟩
theorem Mine.nil_cap {w : World} {B : Nat} {n c : Nat} {xs : List Int} (h : Mine w B (.slice none n c) xs) : c = 0 := by
  obtain ⟨_, hh | ⟨g', c', cur, h1, _⟩⟩ := h
  · have := hh.1; injection this
  · cases h1
theorem solLoop_drop {o : List Nat} {k r : Nat} (h : o[k]? = some r) (u n x : Nat) : solLoop (o.drop k) k u n x = if r.testBit n then (if u ≤ k then none else solLoop (o.drop (k + 1)) (k + 1) u n (x ||| 2 ^ (r % 2 ^ n).log2)) else solLoop (o.drop (k + 1)) (k + 1) u n x := by
  obtain ⟨hk, rfl⟩ := List.getElem?_eq_some_iff.1 h
  rw [List.drop_eq_getElem_cons hk]
  rfl
theorem lessL_drop {o : List Nat} {k r : Nat} (h : o[k]? = some r) (x : Nat) : lessL (o.drop k) x = lessL (o.drop (k + 1)) (if x.testBit r.log2 then x ^^^ r else x) := by
  obtain ⟨hk, rfl⟩ := List.getElem?_eq_some_iff.1 h
  rw [List.drop_eq_getElem_cons hk]
  rfl
theorem elim_low {l : List Nat} {n k r : Nat} (hk : k < (elimd l n).2) (h : (elimd l n).1[k]? = some r) : r % 2 ^ n ≠ 0 := by
  obtain ⟨p, hE⟩ := elimd_spec l n
  have hr : (elimd l n).1.getD k 0 = r := by rw [List.getD_eq_getElem?_getD, h]; rfl
  obtain ⟨_, h2, h3, _⟩ := hE.lead k hk
  rw [hr] at h3
  intro h0
  have : (r % 2 ^ n).testBit (p k) = true := by rw [Nat.testBit_mod_two_pow, h3]; simp [h2]
  rw [h0] at this
  simp at this
theorem bt_zero_val (r k : Nat) (hr : r < 4611686018427387904) : (Go.bits .and .i64 ((r : Int) / 2 ^ k) 1 == 0) = !r.testBit k := by
  have h1 : ((r : Int) / 2 ^ k) = ((r / 2 ^ k : Nat) : Int) := by simp
  have h2 : r / 2 ^ k < 4611686018427387904 := Nat.lt_of_le_of_lt (Nat.div_le_self _ _) hr
  rw [h1, show (1 : Int) = ((1 : Nat) : Int) from rfl, i64_and_nat _ 1 h2 (by omega), Nat.testBit, Nat.shiftRight_eq_div_pow, Nat.and_comm 1]
  have h3 : r / 2 ^ k &&& 1 = r / 2 ^ k % 2 := Nat.and_one_is_mod _
  rw [h3]
  rcases Nat.mod_two_eq_zero_or_one (r / 2 ^ k) with h | h <;> rw [h] <;> rfl
theorem and_mask (r n : Nat) (hr : r < 4611686018427387904) (hn : n < 40) : Go.bits .and .i64 (r : Int) (((2 ^ n : Nat) : Int) - 1) = ((r % 2 ^ n : Nat) : Int) := by
  have h1 := Nat.two_pow_pos n
  have h2 := pow40 hn
  have e : (((2 ^ n : Nat) : Int) - 1) = ((2 ^ n - 1 : Nat) : Int) := by omega
  rw [e, i64_and_nat r _ hr (by unfold O40 at h2; omega), Nat.and_two_pow_sub_one_eq_mod]
set_option maxHeartbeats 4000000 in
theorem rf_Solution (l : List Nat) (hl : l.length ≤ 24) (n : Nat) (hx : ∀ x ∈ l, x < 2 ^ n) (hn : n ≤ 24) (b : Nat) (hb : b < R24) (p : Option Addr) (cap : Nat) (w : World) (h : Ints w p (casts l)) (hp : p = none → cap = 0) :
    Calls Tryd.prog 84 #[.slice p l.length cap, .int .i64 (n : Int), .int .i64 (b : Int)] w (Gives (solV (solR l n b)) w) := by
  have HI := Lib.hid h
  have hX24 : ∀ x ∈ l, x < R24 := red24 hn hx
  have HO : Hid (∀ w', Below w.heap.size w w' → Calls Tryd.prog 72 #[.slice p l.length cap, .int .i64 (n : Int)] w' (Lists (orthR l n) w')) := fun w' hb => rf_Orthogonal l (by omega) n hx hn p cap w' (h.below hb) hp
  have hbl := both_lt hx b
  have hb25 : ∀ x ∈ bothM l 0 n b, x < O40 := fun x hx' => by
    have h1 : 2 ^ (n + 1) ≤ 2 ^ 25 := Nat.pow_le_pow_right (by omega) (by omega)
    have h2 := hbl x hx'
    unfold O40; omega
  have HE : Hid (∀ v w', Mine w' w.heap.size v (casts (bothM l 0 n b)) → ∃ p c, v = .slice p l.length c ∧ Calls Tryd.prog 109 #[.slice p l.length c, .int .i64 (n : Int)] w' (ElPost l.length w' (elimd (bothM l 0 n b) n))) := fun v w' hm => by
    obtain ⟨p, c, hv, hi⟩ := hm.ints
    rw [casts_len, bothM_len] at hv
    have := rf_eliminated (bothM l 0 n b) (by rw [bothM_len]; omega) hb25 n hn p c w' hi (fun hp => by subst hp; subst hv; exact hm.nil_cap)
    rw [bothM_len] at this
    exact ⟨p, c, hv, this⟩
  have hEl := elim_len (bothM l 0 n b) n
  rw [bothM_len] at hEl
  have hElow : ∀ k r, k < (elimd (bothM l 0 n b) n).2 → (elimd (bothM l 0 n b) n).1[k]? = some r → r % 2 ^ n ≠ 0 := fun k r => elim_low
  have hEm : ∀ r ∈ (elimd (bothM l 0 n b) n).1, r < O40 := fun r hr => by
    obtain ⟨p, hE⟩ := elimd_spec (bothM l 0 n b) n
    have h1 : 2 ^ (n + 1) ≤ 2 ^ 25 := Nat.pow_le_pow_right (by omega) (by omega)
    have h2 := span_lt hbl hE.span r hr
    unfold O40; omega
  obtain ⟨o1, o2⟩ := orthR_spec hx
  have hO24 : ∀ r ∈ orthR l n, r ≠ 0 ∧ r < R24 := fun r hr => ⟨o1.nz r hr, by
    have h1 := ((o2 r).1 (.of_mem hr)).1
    have h2 : 2 ^ n ≤ 2 ^ 24 := Nat.pow_le_pow_right (by omega) hn
    unfold R24; omega⟩
  have hOl : (orthR l n).length ≤ 24 := by
    rw [← null_eq hx hl (by omega)]
    unfold nullM
    rw [List.length_reverse]
    have := (null_inv hl (show n ≤ 40 by omega)).cnt
    rw [trans_len] at this
    omega
  have hBl := bothM_len l 0 n b
  have hBn : ∀ k r, l[k]? = some r → (bothM l 0 n b).take (k + 1) = (bothM l 0 n b).take k ++ [r ||| ((b >>> k &&& 1) <<< n)] := fun k r => both_next
  obtain ⟨S, hS⟩ : ∃ S, solR l n b = S := ⟨_, rfl⟩
  have hS2 : S = (solLoop ((elimd (bothM l 0 n b) n).1.drop 0) 0 (elimd (bothM l 0 n b) n).2 n 0).map (lessL ((orthR l n).drop 0)) := hS.symm
  rw [hS]
  have HS := Lib.hid hS2
  clear hS hS2 hbl hb25 o1 o2
  obtain ⟨o, u, hou⟩ : ∃ o u, elimd (bothM l 0 n b) n = (o, u) := ⟨_, _, rfl⟩
  rw [hou] at HE hEl hElow hEm HS
  clear hou
  dsimp only at hEl hElow hEm HS
  generalize bothM l 0 n b = BB at *
  generalize orthR l n = T at *
  have HEl := Lib.hid hEl
  have HElow := Lib.hid hElow
  have HEm := Lib.hid hEm
  have HO24 := Lib.hid hO24
  have HBl := Lib.hid hBl
  have HBn := Lib.hid hBn
  have HX24 := Lib.hid hX24
  have hpn := pow_wrap (show n < 40 by omega)
  have hpn40 := pow40 (show n < 40 by omega)
  have hq0 := Nat.two_pow_pos n
  have HQ : Hid (∃ q, q = 2 ^ n) := ⟨_, rfl⟩
  clear hEl hElow hEm hO24 hBl hBn hX24 h hp hx
  have HG0 : Hid (Grow w (.slice none 0 0) (BB.take 0) w) := ⟨Below.refl _ _, Mine.nil _ _⟩
  go_enter Tryd.func84, Tryd.ntmps84
  go_wp2_with fail
  go_loopw [8, 20] (fun vo i wr => ∃ (k : Nat) (v : Value), k ≤ l.length ∧ vo = v ∧ i = .int .i64 k ∧ Hid (Grow w v (BB.take k) wr)) (fun _ i _ => l.length - (intOf i).toNat)
  case atStart => exact ⟨0, _, by omega, rfl, rfl, HG0.out⟩
  case round =>
    obtain ⟨k, v, hk, rfl, rfl, HG⟩ := hrel
    clear HG0
    by_cases hlk : k < l.length
    · obtain ⟨r, hrk⟩ : ∃ r, l[k]? = some r := ⟨_, List.getElem?_eq_getElem hlk⟩
      obtain ⟨bk, off, rfl, hbb, hcx⟩ := (HI.out.below HG.out.bel).at_ (casts_at hrk)
      have hr24 := HX24.out r (List.mem_of_getElem? hrk)
      have HN := Lib.hid (HBn.out k r hrk)
      have hdv : (b : Int) / 2 ^ k = ((b >>> k : Nat) : Int) := by rw [Nat.shiftRight_eq_div_pow]; simp
      have hbk : b >>> k < R24 := Nat.lt_of_le_of_lt (Nat.shiftRight_le _ _) hb
      have hand : Go.bits .and .i64 ((b >>> k : Nat) : Int) 1 = ((b >>> k &&& 1 : Nat) : Int) := i64_and_nat (b >>> k) 1 (Nat.lt_of_lt_of_le hbk (by decide)) (by decide)
      have hb40 := bit40 b k (show n < 40 by omega)
      have hor : Go.bits .or .i64 (r : Int) (((b >>> k &&& 1) <<< n : Nat) : Int) = ((r ||| (b >>> k &&& 1) <<< n : Nat) : Int) := i64_or_nat r _ (Nat.lt_of_lt_of_le hr24 (by decide)) (Nat.lt_of_lt_of_le hb40 (by decide))
      have hshl : wrap64 (((b >>> k &&& 1 : Nat) : Int) * 2 ^ n) = (((b >>> k &&& 1) <<< n : Nat) : Int) := by
        have e : (((b >>> k &&& 1 : Nat) : Int) * 2 ^ n) = (((b >>> k &&& 1) <<< n : Nat) : Int) := by rw [Nat.shiftLeft_eq]; simp
        have hb := hb40
        unfold O40 at hb
        rw [e]
        generalize (b >>> k &&& 1) <<< n = s at hb ⊢
        exact IntWalk.wrap64_in (s : Int) ⟨by omega, by omega⟩
      have HE1 : Hid (Go.bits .or .i64 (r : Int) (wrap64 (((b >>> k &&& 1 : Nat) : Int) * 2 ^ n)) = ((r ||| (b >>> k &&& 1) <<< n : Nat) : Int)) := by rw [hshl]; exact hor
      generalize (r ||| (b >>> k &&& 1) <<< n) = y at *
      generalize (b >>> k &&& 1) <<< n = s2 at *
      generalize (b >>> k &&& 1) = a2 at *
      generalize b >>> k = bb at *
      have HO5 := Lib.hid (HG.out.own.al (.cells #[.int .i64 (y : Int)] 3))
      have HC1 := Lib.hid (cell1_new wr (y : Int) 3)
      have hBB : w.heap.size ≤ (wr.alloc (.cells #[.int .i64 (y : Int)] 3)).heap.size := by rw [World.size_alloc]; have := HG.out.bel.size; omega
      have hLL : (casts (BB.take k)).length ≤ 1000000 := by rw [casts_len, List.length_take]; omega
      have HBB := Lib.hid hBB
      have HLL := Lib.hid hLL
      have HG5 := Lib.hid HG.out
      clear hBB hLL HG hrk
      generalize BB.take k = O at *
      go_wp2_with (at_builtin; (try rw [HE1.out]); refine wpList_app rfl (.tmp 25) (.tmp 34) rfl w.heap.size _ (casts O) rfl HO5.out HBB.out HLL.out wr.heap.size 1 (y : Int) rfl HC1.out ?_; intro g4 cap4 w4 hm4 hg4 hat4 hlt4)
      have HG6 := Lib.hid ((HG5.out.al _).put hm4 hg4)
      rw [← HN.out] at HG6
      clear hm4 hg4 hat4 HO5 HBB HLL HG5 HC1 HN
      go_wp2_with fail
      go_roundw
      case rel => exact ⟨k + 1, _, by omega, rfl, by go_num, HG6.out⟩
      case measure => simp [intOf]; omega
    · have hall : BB.take k = BB := List.take_of_length_le (by rw [HBl.out]; omega)
      have hg := HG.out
      rw [hall] at hg
      have hbel := hg.bel
      obtain ⟨p2, c2, hv, hC⟩ := HE.out _ _ hg.own
      have HC := Lib.hid hC
      clear HG hall hg hC
      subst hv
      go_wp2_with fail
      refine HC.out.mono ?_
      rintro e w2 ⟨g, cv, rfl, hI2⟩
      have HI2 := Lib.hid hI2
      have hel := HEl.out
      have hE2 : u ≤ l.length := hel.2
      have HEL := Lib.hid hel.1
      dsimp only at HI2
      clear hI2 HC hel HEl
      have HP0 : Hid (InEl wr g cv o w2) := HI2.out
      have HR0 : Hid (solLoop (o.drop 0) 0 u n 0 = solLoop (o.drop 0) 0 u n 0 ∧ True) := ⟨rfl, trivial⟩
      obtain ⟨F, hF⟩ : ∃ F, F = solLoop (o.drop 0) 0 u n 0 := ⟨_, rfl⟩
      have HF := Lib.hid hF
      rw [← hF] at HS
      clear hF HR0 HI2
      go_wp2_with fail
      go_loopw [13, 45] (fun vx i wx => ∃ (k x : Nat), k ≤ l.length ∧ vx = .int .i64 x ∧ i = .int .i64 k ∧ x < O40 ∧ Hid (InEl wr g cv o wx) ∧ Hid (F = solLoop (o.drop k) k u n x)) (fun _ i _ => l.length - (intOf i).toNat)
      case atStart => exact ⟨0, 0, by omega, rfl, rfl, by decide, HP0.out, HF.out⟩
      case round =>
        obtain ⟨k2, x, hk2, rfl, rfl, hx, HP, HF2⟩ := hrel
        clear HP0 HF
        by_cases hlk2 : k2 < l.length
        · obtain ⟨r, hrk⟩ : ∃ r, o[k2]? = some r := ⟨_, List.getElem?_eq_getElem (by rw [HEL.out]; exact hlk2)⟩
          have hcx := HP.out.own.cell (casts_at hrk)
          have hgl := HP.out.own.some_.2.2.1
          have hr40 := HEm.out r (List.mem_of_getElem? hrk)
          have hv := bt_zero_val r n (Nat.lt_of_lt_of_le hr40 (by decide))
          have hst := HF2.out.trans (solLoop_drop hrk u n x)
          cases hbr : r.testBit n
          · rw [hbr] at hst hv
            rw [Bool.not_false] at hv
            rw [if_neg (by decide)] at hst
            have HD := Lib.hid hst
            clear hbr hst HF2 hrk
            go_wp2_with fail
            go_roundw
            case rel => exact ⟨k2 + 1, x, by omega, rfl, by go_num, hx, HP.out, HD.out⟩
            case measure => simp [intOf]; omega
          · rw [hbr] at hst hv
            rw [Bool.not_true] at hv
            rw [if_pos rfl] at hst
            by_cases huk : u ≤ k2
            · rw [if_pos huk] at hst
              have hSn : S = none := by rw [HS.out, hst]; rfl
              subst hSn
              have HB := Lib.hid (below_via HP.out.bel hbel)
              clear hbr hst HF2 hrk HS HP
              go_wp2_with fail
              go_ret2
              exact ⟨rfl, HB.out⟩
            · rw [if_neg huk] at hst
              have hne := HElow.out k2 r (by omega) hrk
              have hmr : r % 2 ^ n < R24 := Nat.lt_of_lt_of_le (Nat.mod_lt _ (Nat.two_pow_pos n)) (pow16 hn)
              have hlg := log24 hne hmr
              have hmk := and_mask r n (Nat.lt_of_lt_of_le hr40 (by decide)) (by omega)
              have HLd := Lib.hid (fun w' => rf_Lead_of (r % 2 ^ n) hne hmr w')
              have hpw := pow_wrap (show (r % 2 ^ n).log2 < 40 by omega)
              have hp40 := pow40 (show (r % 2 ^ n).log2 < 40 by omega)
              have hor := i64_or_nat x (2 ^ (r % 2 ^ n).log2) (Nat.lt_of_lt_of_le hx (by decide)) (Nat.lt_of_lt_of_le hp40 (by decide))
              have ho40 := or40 hx hp40
              have HD := Lib.hid hst
              have hmq : wrap64 (((2 ^ n : Nat) : Int) - 1) = ((2 ^ n : Nat) : Int) - 1 := by
                unfold O40 at hpn40
                generalize 2 ^ n = q at hpn40 hq0 ⊢
                exact IntWalk.wrap64_in _ ⟨by omega, by omega⟩
              generalize (x ||| 2 ^ (r % 2 ^ n).log2) = x2 at *
              generalize 2 ^ (r % 2 ^ n).log2 = q3 at *
              generalize (r % 2 ^ n).log2 = lg at *
              generalize r % 2 ^ n = rm at *
              have HHE := Lib.hid HElow.out
              clear hbr hst HF2 hrk hne hmr HElow
              generalize ((2 ^ n : Nat) : Int) = q at *
              go_wp2_with fail
              (try rw [hmq, hmk])
              refine (HLd.out _).mono ?_
              rintro e w3 ⟨rfl, hb3⟩
              have HP3 := Lib.hid (HP.out.call hb3)
              clear hb3 HP HLd
              go_wp2_with fail
              go_roundw
              case rel => exact ⟨k2 + 1, x2, by omega, rfl, by go_num, ho40, HP3.out, HD.out⟩
              case measure => simp [intOf]; omega
        · have hFs : F = some x := by rw [HF2.out, List.drop_eq_nil_of_le (by rw [HEL.out]; omega)]; rfl
          have hSs : S = some (lessL (T.drop 0) x) := by rw [HS.out, hFs]; rfl
          have HB := Lib.hid (below_via HP.out.bel hbel)
          obtain ⟨Z, hZ⟩ : ∃ Z, Z = lessL (T.drop 0) x := ⟨_, rfl⟩
          rw [← hZ] at hSs
          have HZ := Lib.hid hZ
          subst hSs
          clear hFs HF2 HS HP hZ
          go_wp2_with fail
          refine (HO.out _ HB.out).mono ?_
          rintro e w4 ⟨v4, rfl, h4⟩
          obtain ⟨p4, c4, hv4, hi4⟩ := h4.own.ints
          rw [casts_len] at hv4
          have HI4 := Lib.hid hi4
          have HB4 := Lib.hid (below_via h4.bel HB.out)
          subst hv4
          clear h4 hi4 HB
          go_wp2_with fail
          go_loopw [13, 72] (fun vx i wx => ∃ (k x : Nat), k ≤ T.length ∧ vx = .int .i64 x ∧ i = .int .i64 k ∧ x < O40 ∧ Hid (Below w4.heap.size w4 wx) ∧ Hid (Z = lessL (T.drop k) x)) (fun _ i _ => T.length - (intOf i).toNat)
          case atStart => exact ⟨0, x, by omega, rfl, rfl, hx, Below.refl _ _, HZ.out⟩
          case round =>
            obtain ⟨k5, x5, hk5, rfl, rfl, hx5, HB5, HZ5⟩ := hrel
            clear HZ
            by_cases hlk5 : k5 < T.length
            · obtain ⟨r, hrk⟩ : ∃ r, T[k5]? = some r := ⟨_, List.getElem?_eq_getElem hlk5⟩
              obtain ⟨b5, off5, rfl, hb5, hcx5⟩ := (HI4.out.below HB5.out).at_ (casts_at hrk)
              obtain ⟨hr0, hr24⟩ := HO24.out r (List.mem_of_getElem? hrk)
              have HLd := Lib.hid (fun w' => rf_Lead_of r hr0 hr24 w')
              have hst := HZ5.out.trans (lessL_drop hrk x5)
              have hv5 := bt_has_val x5 r.log2 (Nat.lt_of_lt_of_le hx5 (by decide))
              have hxo := i64_xor_nat x5 r (Nat.lt_of_lt_of_le hx5 (by decide)) (Nat.lt_of_lt_of_le hr24 (by decide))
              have hlg := log24 hr0 hr24
              have hx6 := xor40 hx5 (Nat.lt_of_lt_of_le hr24 (by decide))
              generalize r.log2 = lg at *
              generalize x5 ^^^ r = x6 at *
              clear hrk HZ5 hr0
              cases hb6 : x5.testBit lg
              · rw [hb6] at hst hv5
                rw [if_neg (by decide)] at hst
                have HD := Lib.hid hst
                clear hst hb6 hxo hx6
                go_wp2_with fail
                refine (HLd.out _).mono ?_
                rintro e w6 ⟨rfl, hb7⟩
                have HB7 := Lib.hid (below_via hb7 HB5.out)
                clear hb7 HB5 HLd
                go_wp2_with fail
                go_roundw
                case rel => exact ⟨k5 + 1, x5, by omega, rfl, by go_num, hx5, HB7.out, HD.out⟩
                case measure => simp [intOf]; omega
              · rw [hb6] at hst hv5
                rw [if_pos rfl] at hst
                have HD := Lib.hid hst
                clear hst hb6
                go_wp2_with fail
                refine (HLd.out _).mono ?_
                rintro e w6 ⟨rfl, hb7⟩
                have HB7 := Lib.hid (below_via hb7 HB5.out)
                clear hb7 HB5 HLd
                go_wp2_with fail
                go_roundw
                case rel => exact ⟨k5 + 1, x6, by omega, rfl, by go_num, hx6, HB7.out, HD.out⟩
                case measure => simp [intOf]; omega
            · have hze : Z = x5 := by rw [HZ5.out, List.drop_eq_nil_of_le (by omega)]; rfl
              subst hze
              have HB6 := Lib.hid (below_via HB5.out HB4.out)
              clear HZ5 HB5 HB4
              go_wp2_with fail
              go_ret2
              exact ⟨rfl, HB6.out⟩
end Go.Proofs.YtpbcomdlboiddaaDoor
