/- Rows of bits: the columns as rows. -/
import Derived.Test.YtpnancidgobehaaDoorVh
import Derived.Laws.CopyOwn
import Derived.Laws.OwnMore
set_option linter.all false
set_option maxRecDepth 100000
namespace Go.Proofs.YtpnancidgobehaaDoor
open Go.RowKit

theorem casts_append (a b : List Nat) : casts (a ++ b) = casts a ++ casts b := by simp [casts]
theorem cell1_new (w : World) (x : Int) (T : Nat) : (w.alloc (.cells #[.int .i64 x] T)).cell? ⟨w.heap.size, 0, none⟩ = some (.int .i64 x) := cell_of_row _ _ 0 _ _ _ (heap_alloc_new w _)
/-- What lies in memory while a list of the call's own grows. -/
structure Grow (w : World) (v : Value) (out : List Nat) (wr : World) : Prop where
  bel : Below w.heap.size w wr
  own : Mine wr w.heap.size v (casts out)
theorem Grow.start (w : World) : Grow w (.slice none 0 0) [] w := ⟨Below.refl _ _, Mine.nil _ _⟩
theorem Grow.call {w wr wx : World} {v : Value} {out : List Nat} (h : Grow w v out wr) (hb : Below wr.heap.size wr wx) : Grow w v out wx := ⟨below_via hb h.bel, h.own.call hb⟩
theorem Grow.al {w wr : World} {v : Value} {out : List Nat} (h : Grow w v out wr) (o : Obj) : Grow w v out (wr.alloc o) := h.call ((Below.refl _ wr).alloc (Nat.le_refl _) o)
theorem Grow.put {w wr wx : World} {v nv : Value} {out : List Nat} {x : Nat} (h : Grow w v out wr) (hm : Mine wx w.heap.size nv (casts out ++ [(x : Int)])) (hg : wr.grownBy wx v.ownBlock) : Grow w nv (out ++ [x]) wx :=
  ⟨below_grown h.bel h.own hg (Nat.le_refl _) h.bel.size, by rw [casts_append]; exact hm⟩
/-- The result is a list of the call's own. -/
def Lists (out : List Nat) (w : World) (e : Ending) (w' : World) : Prop := ∃ v, e = .returned v ∧ Grow w v out w'
theorem chosen_drop {l : List Nat} {k x : Nat} (h : l[k]? = some x) (which : Nat) : chosenM (l.drop k) k which = if which.testBit k then x :: chosenM (l.drop (k + 1)) (k + 1) which else chosenM (l.drop (k + 1)) (k + 1) which := by
  obtain ⟨hk, rfl⟩ := List.getElem?_eq_some_iff.1 h
  rw [List.drop_eq_getElem_cons hk]
  rfl
set_option maxHeartbeats 2000000 in
theorem bt_chosen (l : List Nat) (hl : l.length ≤ 60) (which : Nat) (hw : which < 4611686018427387904) (p : Option Addr) (cap : Nat) (w : World) (h : Ints w p (casts l)) :
    Calls Tryd.prog 63 #[.slice p l.length cap, .int .i64 (which : Int)] w (Lists (chosenM l 0 which) w) := by
  have HH : Hid (∀ (k : Nat) w, k < 64 → Calls Tryd.prog 73 #[.int .i64 (which : Int), .int .i64 (k : Int)] w (Gives (.bool (which.testBit k)) w)) := fun k w hk => bt_has which k w hw hk
  obtain ⟨R, hR⟩ : ∃ R, chosenM l 0 which = R := ⟨_, rfl⟩
  rw [hR]
  have HR : Hid (R = [] ++ chosenM (l.drop 0) 0 which) := hR.symm
  have HI := Lib.hid h
  unfold Lists
  clear hR h
  go_enter Tryd.func63, Tryd.ntmps63
  go_wp2_with fail
  go_loopw [5, 10] (fun v i wr => ∃ (k : Nat) (out : List Nat), k ≤ l.length ∧ out.length ≤ k ∧ i = .int .i64 k ∧ Hid (Grow w v out wr) ∧ Hid (R = out ++ chosenM (l.drop k) k which)) (fun _ i _ => l.length - (intOf i).toNat)
  case atStart => exact ⟨0, [], by omega, by simp, rfl, Grow.start w, HR⟩
  case round =>
    obtain ⟨k, out, hk, hol, rfl, HG, HK⟩ := hrel
    by_cases hlt : k < l.length
    · obtain ⟨x, hxk⟩ : ∃ x, l[k]? = some x := ⟨_, List.getElem?_eq_getElem hlt⟩
      obtain ⟨b, off, rfl, hb, hc⟩ := (HI.out.below HG.out.bel).at_ (casts_at hxk)
      have hd := HK.out
      rw [chosen_drop hxk] at hd
      clear hxk HK
      go_wp2_with fail
      refine (HH.out _ _ (by omega)).mono ?_
      rintro e w1 ⟨rfl, hb1⟩
      have HG1 := Lib.hid (HG.out.call hb1)
      clear HG hb1 hc
      cases hbit : which.testBit k
      · rw [hbit] at hd
        have HD := Lib.hid hd
        clear hd hbit
        go_wp2_with fail
        go_roundw
        case rel => exact ⟨k + 1, out, by omega, by omega, by go_num, HG1, HD⟩
        case measure => simp [intOf]; omega
      · rw [hbit] at hd
        have hd2 : R = (out ++ [x]) ++ chosenM (l.drop (k + 1)) (k + 1) which := by
          rw [hd]; simp
        have HD := Lib.hid hd2
        clear hd2
        have hs1 := HG1.out.bel.size
        have HO := Lib.hid (HG1.out.own.al (.cells #[.int .i64 (x : Int)] 3))
        have HC := Lib.hid (cell1_new w1 (x : Int) 3)
        have hB : w.heap.size ≤ (w1.alloc (.cells #[.int .i64 (x : Int)] 3)).heap.size := by rw [World.size_alloc]; omega
        have hL : (casts out).length ≤ 1000000 := by rw [casts_len]; omega
        have HB := Lib.hid hB
        have HL := Lib.hid hL
        clear hB hL
        clear hd hbit
        go_wp2_with (at_builtin; refine wpList_app rfl (.tmp 18) (.tmp 20) rfl w.heap.size _ (casts out) rfl HO.out HB.out HL.out w1.heap.size 1 (x : Int) rfl HC.out ?_; intro g4 cap4 w4 hm4 hg4 hat4 hlt4)
        have HG4 := Lib.hid ((HG1.out.al _).put hm4 hg4)
        clear hm4 hg4 hat4 HG1
        go_wp2_with fail
        go_roundw
        case rel => exact ⟨k + 1, out ++ [x], by omega, by rw [List.length_append]; show out.length + 1 ≤ k + 1; omega, by go_num, HG4, HD⟩
        case measure => simp [intOf]; omega
    · have hRo : R = out := by
        rw [HK.out, List.drop_eq_nil_of_le (by omega)]
        simp [chosenM]
      subst hRo
      clear HK
      go_wp2_with fail
      go_ret
      exact ⟨_, rfl, HG.out⟩
end Go.Proofs.YtpnancidgobehaaDoor
namespace Go.Proofs.YtpnancidgobehaaDoor
open Go.RowKit

def vals (xs : List Nat) : List Value := (casts xs).map iv
/-- Rows in a block of the call's own, known whole. -/
def Rows_ (w : World) (g : Nat) (xs : List Nat) : Prop := w.heap[g]? = some (.cells (vals xs).toArray 3 (0, 0))
theorem vals_at {xs : List Nat} {i x : Nat} (h : xs[i]? = some x) : (vals xs)[i]? = some (.int .i64 (x : Int)) := by simp [vals, casts, iv, h]
theorem vals_len (xs : List Nat) : (vals xs).length = xs.length := by simp [vals, casts]
theorem vals_set (xs : List Nat) (i x : Nat) : (vals xs).set i (.int .i64 (x : Int)) = vals (xs.set i x) := by simp [vals, casts, iv, List.map_set]
theorem Rows_.lt {w : World} {g : Nat} {xs : List Nat} (h : Rows_ w g xs) : g < w.heap.size := (Array.getElem?_eq_some_iff.1 h).1
theorem Rows_.cell {w : World} {g i x : Nat} {xs : List Nat} (h : Rows_ w g xs) (hx : xs[i]? = some x) : w.cell? ⟨g, i, none⟩ = some (.int .i64 (x : Int)) := by
  rw [cell_of_row w g i _ _ _ h]
  simpa using vals_at hx
theorem Rows_.free {w : World} {g : Nat} {xs : List Nat} (h : Rows_ w g xs) (i : Nat) : w.frozen? ⟨g, i, none⟩ = false := by
  unfold Rows_ at h
  simp [World.frozen?, h]
theorem Rows_.call {w w' : World} {g : Nat} {xs : List Nat} (h : Rows_ w g xs) (hb : Below w.heap.size w w') : Rows_ w' g xs := (hb.block g h.lt).trans h
theorem Rows_.set_ {w : World} {g : Nat} {xs : List Nat} (h : Rows_ w g xs) (i x : Nat) : Rows_ (w.setCell ⟨g, i, none⟩ (.int .i64 (x : Int))) g (xs.set i x) := by
  unfold Rows_ at h ⊢
  rw [← vals_set]
  simp [World.setCell, Array.getElem?_modify, h]
def mixR (l : List Nat) (k i : Nat) : List Nat := (l.take i).map (· >>> (k + 1)) ++ (l.drop i).map (· >>> k)
theorem mixR_at {l : List Nat} {k i x : Nat} (h : l[i]? = some x) : (mixR l k i)[i]? = some (x >>> k) := by
  obtain ⟨hi, rfl⟩ := List.getElem?_eq_some_iff.1 h
  unfold mixR
  rw [List.getElem?_append_right (by simp; omega)]
  have : i - ((l.take i).map (· >>> (k + 1))).length = 0 := by simp; omega
  rw [this, List.drop_eq_getElem_cons hi]
  rfl
theorem mixR_next {l : List Nat} {k i x : Nat} (h : l[i]? = some x) : (mixR l k i).set i (x >>> (k + 1)) = mixR l k (i + 1) := by
  obtain ⟨hi, rfl⟩ := List.getElem?_eq_some_iff.1 h
  have h1 : l.drop i = l[i] :: l.drop (i + 1) := List.drop_eq_getElem_cons hi
  have h2 : l.take (i + 1) = l.take i ++ [l[i]] := List.take_succ_eq_append_getElem hi
  have h3 : i - ((l.take i).map (· >>> (k + 1))).length = 0 := by simp only [List.length_map, List.length_take]; omega
  unfold mixR
  rw [h2, List.set_append_right _ _ (by simp only [List.length_map, List.length_take]; omega), h3, h1]
  simp only [List.map_append, List.map_cons, List.map_nil, List.set_cons_zero, List.append_assoc, List.singleton_append]
theorem mixR_zero (l : List Nat) (k : Nat) : mixR l k 0 = l.map (· >>> k) := by simp [mixR]
theorem mixR_end (l : List Nat) (k : Nat) : mixR l k l.length = l.map (· >>> (k + 1)) := by simp [mixR]
theorem colM_drop {l : List Nat} {i x : Nat} (h : l[i]? = some x) (k c : Nat) : colM (l.drop i) i k c = colM (l.drop (i + 1)) (i + 1) k (c ||| ((x >>> k &&& 1) <<< i)) := by
  obtain ⟨hk, rfl⟩ := List.getElem?_eq_some_iff.1 h
  rw [List.drop_eq_getElem_cons hk]
  rfl
theorem or40 {a b : Nat} (ha : a < O40) (hb : b < O40) : a ||| b < O40 := Nat.or_lt_two_pow (n := 40) (by simpa [O40] using ha) (by simpa [O40] using hb)
theorem bit40 (x k : Nat) {i : Nat} (hi : i < 40) : (x >>> k &&& 1) <<< i < O40 := by
  have h1 : x >>> k &&& 1 ≤ 1 := Nat.and_le_right
  have h2 := pow40 hi
  rw [Nat.shiftLeft_eq]
  rcases (by omega : x >>> k &&& 1 = 0 ∨ x >>> k &&& 1 = 1) with h | h <;> rw [h] <;> unfold O40 at * <;> omega
/-- What lies in memory while columns are made. -/
structure InTr (w : World) (v : Value) (out rows : List Nat) (wr : World) : Prop where
  bel : Below w.heap.size w wr
  rows : Rows_ wr w.heap.size rows
  own : Mine wr (w.heap.size + 1) v (casts out)
theorem InTr.al {w wr : World} {v : Value} {out rows : List Nat} (h : InTr w v out rows wr) (o : Obj) : InTr w v out rows (wr.alloc o) :=
  ⟨below_al h.bel o, h.rows.call ((Below.refl _ wr).alloc (Nat.le_refl _) o), h.own.al o⟩
theorem InTr.set_ {w wr : World} {v : Value} {out rows : List Nat} (h : InTr w v out rows wr) (i x : Nat) : InTr w v out (rows.set i x) (wr.setCell ⟨w.heap.size, i, none⟩ (.int .i64 (x : Int))) :=
  ⟨h.bel.setCell (Nat.le_refl _) _, h.rows.set_ i x, h.own.other (by omega)⟩
theorem InTr.put {w wr wx : World} {v nv : Value} {out rows : List Nat} {x : Nat} (h : InTr w v out rows wr) (hm : Mine wx (w.heap.size + 1) nv (casts out ++ [(x : Int)])) (hg : wr.grownBy wx v.ownBlock) : InTr w nv (out ++ [x]) rows wx :=
  ⟨below_grown h.bel h.own hg (by omega) h.bel.size, (hg.block _ h.rows.lt (fun e => by have := (h.own.lt e.symm).1; omega)).trans h.rows, by rw [casts_append]; exact hm⟩
set_option maxHeartbeats 4000000 in
theorem bt_transposed (l : List Nat) (hl : l.length < 40) (hx : ∀ x ∈ l, x < R24) (n : Nat) (hn : n ≤ 16) (p : Option Addr) (cap : Nat) (w : World) (h : Ints w p (casts l)) :
    Calls Tryd.prog 60 #[.slice p l.length cap, .int .i64 (n : Int)] w (fun e w' => ∃ v, e = .returned v ∧ Mine w' (w.heap.size + 1) v (casts (transposedM l n)) ∧ Below w.heap.size w w') := by
  obtain ⟨i0, hi, hz0, hz1, hz2⟩ := info_parts info_int
  obtain ⟨w1, hmk, hown1, hg1⟩ := run_make_full (P := Tryd.prog) w w.heap.size 25 3 i0 (.int .i64 0) 1 und_ints hi hz0 hz1 .i64 .i64 l.length (by rw [hz2]; omega) (by unfold maxLen; omega) (Nat.le_refl _)
  have hb1 : Below w.heap.size w w1 := (Below.refl _ w).grown hg1 (Nat.le_refl _) (by simp)
  obtain ⟨cur, hcl, hR1⟩ : ∃ cur : List Value, cur.length = l.length ∧ w1.heap[w.heap.size]? = some (.cells cur.toArray 3 (0, 0)) := by
    rcases hown1.2 with ⟨h', _⟩ | ⟨g, cap', cur, h1, h2, h3, h4, h5, h6, h7⟩
    · simp at h'
    · simp only [Value.slice.injEq, Option.some.injEq, Addr.mk.injEq, and_true, true_and] at h1
      obtain ⟨rfl, rfl⟩ := h1
      exact ⟨cur.toList, by simpa using h6, by simpa using h3⟩
  have hspl : splice cur 0 (vals l) = vals l := by unfold splice; rw [List.drop_eq_nil_of_le (by rw [vals_len]; omega)]; simp
  have HPOS : Hid (0 < (vals l).length → (some ⟨w.heap.size, 0, none⟩ : Option Addr) = some ⟨w.heap.size, 0, none⟩ ∧ ∃ ad, p = some ad ∧ ∀ (j : Nat) v, (vals l)[j]? = some v → w1.cell? (ad.add j) = some v) := by
    intro hp
    refine ⟨rfl, ?_⟩
    rcases h with h | ⟨b, off, rfl, hb, hc⟩
    · have : l = [] := by simpa [casts] using h
      subst this; simp [vals, casts] at hp
    · refine ⟨_, rfl, fun j v hv => ?_⟩
      rw [vals, List.getElem?_map, Option.map_eq_some_iff] at hv
      obtain ⟨x, hx', rfl⟩ := hv
      have ha : (⟨b, off, none⟩ : Addr).add j = ⟨b, off + j, none⟩ := by unfold Addr.add; split <;> simp_all
      rw [ha, (bcell hb1).1 _ _ hb]
      exact hc j x hx'
  have HI := Lib.hid h
  have HR1 := Lib.hid hR1
  have HSP := Lib.hid hspl
  have HOC : Hid (∀ v ∈ vals l, v.oneCell' = true) := by
    intro v hv
    simp only [vals, List.mem_map] at hv
    obtain ⟨x, _, rfl⟩ := hv
    rfl
  have hfit : 0 + (vals l).length ≤ cur.length := by rw [vals_len]; omega
  have hmin : (vals l).length = Nat.min l.length l.length := by rw [vals_len]; exact (Nat.min_self _).symm
  have hsz1 : (Tryd.prog.info? 3).map (·.size) = some 1 := by rw [hi]; simp [hz1]
  have HF := Lib.hid (And.intro hfit (And.intro hmin hsz1))
  clear h hR1 hspl hfit hmin hsz1 hown1 hg1
  obtain ⟨R, hR⟩ : ∃ R, transposedM l n = R := ⟨_, rfl⟩
  rw [hR]
  have HRR := Lib.hid hR
  clear hR
  go_enter Tryd.func60, Tryd.ntmps60
  go_wp2_with ((with_reducible refine wpList_copy_splice rfl (.tmp 12) (.tmp 13) 25 25 rfl 3 und_ints HF.out.2.2 _ _ _ _ _ _ rfl rfl w.heap.size 0 cur 3 HR1.out (vals l) HF.out.2.1 HPOS.out HF.out.1 HOC.out w.heap.size w hb1 (Nat.le_refl _) ?_); intro w2 HR2 hb2)
  have HT : Hid (InTr w (.slice none 0 0) [] (l.map (· >>> 0)) w2) := by
    refine ⟨hb2, ?_, Mine.nil _ _⟩
    have h := HR2.out
    rw [HSP.out] at h
    have e : l.map (· >>> 0) = l := by simp
    rw [e]
    exact h
  clear hmk hb1 hcl HR1 HSP HOC HF HR2 hb2 HPOS
  go_loopw [6, 16] (fun v i wr => ∃ (k : Nat), k ≤ n ∧ i = .int .i64 k ∧ Hid (InTr w v ((List.range k).map fun k => colM l 0 k 0) (l.map (· >>> k)) wr)) (fun _ i _ => n - (intOf i).toNat)
  case atStart => exact ⟨0, by omega, rfl, HT⟩
  case round =>
    obtain ⟨k, hk, rfl, HT⟩ := hrel
    have hl0 : ((List.range k).map fun k => colM l 0 k 0).length = k := by simp
    generalize hout : (List.range k).map (fun k => colM l 0 k 0) = out at *
    by_cases hlt : k < n
    · go_wp2_with fail
      obtain ⟨wo, hwo⟩ : ∃ wo, wo = wr := ⟨_, rfl⟩
      rw [← hwo] at HT ⊢
      clear hwo
      have HTm : Hid (InTr w u6 out (mixR l k 0) wo) := by rw [mixR_zero]; exact HT.out
      have HC0 : Hid (colM l 0 k 0 = colM (l.drop 0) 0 k 0) := rfl
      go_loopw [7, 20] (fun c i wx => ∃ (j cc : Nat), j ≤ l.length ∧ c = .int .i64 cc ∧ i = .int .i64 j ∧ cc < O40 ∧ Hid (InTr w u6 out (mixR l k j) wx) ∧ Hid (colM l 0 k 0 = colM (l.drop j) j k cc)) (fun _ i _ => l.length - (intOf i).toNat)
      case atStart => exact ⟨0, 0, by omega, rfl, rfl, by unfold O40; omega, HTm, HC0⟩
      case round =>
        obtain ⟨j, cc, hj, rfl, rfl, hcc, HTj, HC⟩ := hrel
        by_cases hlj : j < l.length
        · obtain ⟨x, hxj⟩ : ∃ x, l[j]? = some x := ⟨_, List.getElem?_eq_getElem hlj⟩
          have c0 := HTj.out.rows.cell (mixR_at (k := k) hxj)
          have f0 := HTj.out.rows.free j
          have hrl := HTj.out.rows.lt
          have hx24 := hx x (List.mem_of_getElem? hxj)
          have hq : x >>> k < R24 := Nat.lt_of_le_of_lt (Nat.shiftRight_le _ _) hx24
          have hb40 := bit40 x k (show j < 40 by omega)
          have HC2 := Lib.hid (HC.out.trans (colM_drop hxj k cc))
          have hc2 := or40 hcc hb40
          have HN : Hid (∀ w', InTr w u6 out (mixR l k j) w' → InTr w u6 out (mixR l k (j + 1)) (w'.setCell ⟨w.heap.size, j, none⟩ (.int .i64 ((x >>> (k + 1) : Nat) : Int)))) := fun w' h' => by
            rw [← mixR_next hxj]
            exact h'.set_ j _
          have hdv : ((x >>> k : Nat) : Int) / 2 = ((x >>> (k + 1) : Nat) : Int) := by rw [Nat.shiftRight_succ]; simp
          have hand : Go.bits .and .i64 ((x >>> k : Nat) : Int) 1 = ((x >>> k &&& 1 : Nat) : Int) := i64_and_nat (x >>> k) 1 (by unfold R24 at hq; omega) (by omega)
          have hor : Go.bits .or .i64 (cc : Int) (((x >>> k &&& 1) <<< j : Nat) : Int) = ((cc ||| (x >>> k &&& 1) <<< j : Nat) : Int) := i64_or_nat cc _ (by unfold O40 at hcc; omega) (by unfold O40 at hb40; omega)
          have hshl : wrap64 (((x >>> k &&& 1 : Nat) : Int) * 2 ^ j) = (((x >>> k &&& 1) <<< j : Nat) : Int) := by
            have e : (((x >>> k &&& 1 : Nat) : Int) * 2 ^ j) = (((x >>> k &&& 1) <<< j : Nat) : Int) := by rw [Nat.shiftLeft_eq]; simp
            have hb := hb40
            unfold O40 at hb
            rw [e]
            generalize (x >>> k &&& 1) <<< j = s at hb ⊢
            exact IntWalk.wrap64_in (s : Int) ⟨by omega, by omega⟩
          generalize x >>> (k + 1) = q2 at *
          generalize cc ||| (x >>> k &&& 1) <<< j = c2 at *
          generalize (x >>> k &&& 1) <<< j = s2 at *
          generalize x >>> k &&& 1 = a2 at *
          generalize x >>> k = q at *
          have HTj2 := Lib.hid HTj.out
          clear hxj HTj HC hx24
          go_wp2_with fail
          go_roundw
          case rel => exact ⟨j + 1, c2, by omega, rfl, by go_num, hc2, HN.out wr HTj2.out, HC2⟩
          case measure => simp [intOf]; omega
        · obtain rfl : j = l.length := by omega
          have hce : colM l 0 k 0 = cc := by
            rw [HC.out, List.drop_eq_nil_of_le (by omega)]; rfl
          have hRe := HTj.out
          rw [mixR_end] at hRe
          have hrl := hRe.rows.lt
          have HO := Lib.hid (hRe.own.al (.cells #[.int .i64 (cc : Int)] 3))
          have HC1 := Lib.hid (cell1_new wr (cc : Int) 3)
          have hB : w.heap.size + 1 ≤ (wr.alloc (.cells #[.int .i64 (cc : Int)] 3)).heap.size := by rw [World.size_alloc]; omega
          have hL : (casts out).length ≤ 1000000 := by rw [casts_len]; omega
          have HB := Lib.hid hB
          have HL := Lib.hid hL
          have HRe := Lib.hid hRe
          have HOUT : Hid (out ++ [cc] = (List.range (k + 1)).map fun k => colM l 0 k 0) := by
            show out ++ [cc] = _
            rw [List.range_succ, List.map_append, hout, ← hce]; rfl
          clear hB hL hRe HTj HC hce hout hl0
          go_wp2_with (at_builtin; refine wpList_app rfl (.tmp 39) (.tmp 41) rfl (w.heap.size + 1) _ (casts out) rfl HO.out HB.out HL.out wr.heap.size 1 (cc : Int) rfl HC1.out ?_; intro g4 cap4 w4 hm4 hg4 hat4 hlt4)
          have HT4 := Lib.hid ((HRe.out.al _).put hm4 hg4)
          rw [HOUT.out] at HT4
          clear hm4 hg4 hat4 HO HB HL HRe HC1 HOUT
          go_wp2_with fail
          go_roundw
          case rel => exact ⟨k + 1, by omega, by go_num, HT4⟩
          case measure => simp [intOf]; omega
    · obtain rfl : k = n := by omega
      have hfin : R = out := by rw [← HRR.out]; exact hout
      subst hfin
      clear hout
      go_wp2_with fail
      go_ret
      exact ⟨_, rfl, HT.out.own, HT.out.bel⟩
end Go.Proofs.YtpnancidgobehaaDoor
