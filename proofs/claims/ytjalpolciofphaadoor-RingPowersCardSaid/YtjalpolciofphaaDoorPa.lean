
/- The number of a text. -/
import Derived.Test.YtjalpolciofphaaDoorRt
import Derived.Test.YtjalpolciofphaaDoorPr
set_option linter.all false
set_option maxRecDepth 100000
namespace Go.Proofs.YtjalpolciofphaaDoor
open Go.RowKit Go.Shelf
attribute [local go_sem] run_field_num

def parseR (l : List UInt8) : Nm := ⟨(readT (rootT l) c40).1.A, (readT (rootT l) c40).1.B, (readT (rootT l) c40).1.C, (readT (rootT l) c40).1.D, rootK l⟩
def parseO (s : ByteArray) : Bool := rootO s.data.toList && (readT (rootT s.data.toList) c40).2 && decide ((parseR s.data.toList).chk = 0) && ((printT (parseR s.data.toList).least).toList == s.toList)
def parseV (s : ByteArray) : Value := if parseO s = true then .tuple #[(parseR s.data.toList).v, .int .i64 0] else .tuple #[nul.v, .int .i64 4]
theorem rootT_len (l : List UInt8) : (rootT l).length ≤ l.length := by
  unfold rootT
  split
  · exact Nat.le_trans (cut_len _ _).1 (trim_len _ _)
  · exact Nat.le_refl _
theorem parse_no {s : ByteArray} (h : parseO s = false) : parseV s = .tuple #[nul.v, .int .i64 4] := by
  unfold parseV; rw [h]; rfl
theorem parse_yes {s : ByteArray} (h : parseO s = true) : parseV s = .tuple #[(parseR s.data.toList).v, .int .i64 0] := by
  unfold parseV; rw [h]; rfl

set_option maxHeartbeats 4000000 in
theorem Parse_any (s : ByteArray) (w : World) (hs : s.size < 4294967281) (hN : NamesAre w) (hV : CutVar w) (htab : Lib.TabIs Tryd.prog w "internal/strconv.uint64pow10" .u64 Lib.pow10Tab) :
    Calls Tryd.prog 34 #[.string s] w (Gives (parseV s) w) := by
  have hsl : s.size = s.data.toList.length := Lib.size_eq s
  have hrl := rootT_len s.data.toList
  have HC : Hid (∀ w', Below w.heap.size w w' → Calls Tryd.prog 75 #[.string s] w' (Gives (.tuple #[.string ⟨(rootT s.data.toList).toArray⟩, .int .i64 (rootK s.data.toList), .bool (rootO s.data.toList)]) w')) :=
    fun w' hb => cutRoot_any s w' hs (hV.below hb)
  have HT : Hid (∀ w', Below w.heap.size w w' → Calls Tryd.prog 76 #[.string ⟨(rootT s.data.toList).toArray⟩] w' (Gives (.tuple #[(readT (rootT s.data.toList) c40).1.v, .bool (readT (rootT s.data.toList) c40).2]) w')) :=
    fun w' hb => readTerms_any _ w' (by rw [size_mk]; omega) (hN.below hb)
  have HP : Hid (∀ w', Below w.heap.size w w' → Calls Tryd.prog 33 #[(parseR s.data.toList).v] w' (Gives (.tuple #[.string (if (parseR s.data.toList).chk = 0 then printT (parseR s.data.toList).least else { data := #[] }), .int .i64 (parseR s.data.toList).chk]) w')) :=
    fun w' hb => Print_any _ _ _ _ _ w' (hN.below hb) (Lib.tabBelow_of_tabIs htab w' hb)
  have hR : parseR s.data.toList = ⟨(readT (rootT s.data.toList) c40).1.A, (readT (rootT s.data.toList) c40).1.B, (readT (rootT s.data.toList) c40).1.C, (readT (rootT s.data.toList) c40).1.D, rootK s.data.toList⟩ := rfl
  have hO : parseO s = (rootO s.data.toList && (readT (rootT s.data.toList) c40).2 && decide ((parseR s.data.toList).chk = 0) && ((printT (parseR s.data.toList).least).toList == s.toList)) := rfl
  have hy := @parse_yes s
  have hn := @parse_no s
  clear hN hV htab hsl hrl
  generalize parseR s.data.toList = r at *
  generalize (⟨(rootT s.data.toList).toArray⟩ : ByteArray) = T at *
  generalize readT (rootT s.data.toList) c40 = cc at *
  generalize rootK s.data.toList = k at *
  generalize rootO s.data.toList = o at *
  generalize parseO s = po at *
  generalize parseV s = pv at *
  subst hR
  obtain ⟨⟨A, B, C, D⟩, ok⟩ := cc
  dsimp only at *
  cases o with
  | false =>
    rw [hn (by rw [hO]; rfl)]
    clear hy hn hO
    go_enter Tryd.func34, Tryd.ntmps34
    go_wp2_with fail
    refine (HC.out _ (by repeat (first | with_reducible exact Below.refl _ _ | with_reducible refine below_al ?_ _ | with_reducible refine below_dN ?_ _ | with_reducible refine Below.drew ?_ | (with_reducible refine Below.setCell ?_ (by simp <;> omega) _) | (with_reducible refine below_via (by assumption) ?_)))).mono ?_
    rintro e w1 ⟨rfl, hb⟩
    obtain ⟨hc, hf⟩ := bcell hb
    go_wp2_with fail
    exact bodyPost_ret (v := .tuple #[nul.v, .int .i64 4]) (by simp [results, Tryd.results34, go_sem, hc, hf]) rfl ⟨rfl, (by repeat (first | with_reducible exact Below.refl _ _ | with_reducible refine below_al ?_ _ | with_reducible refine below_dN ?_ _ | with_reducible refine Below.drew ?_ | (with_reducible refine Below.setCell ?_ (by simp <;> omega) _) | (with_reducible refine below_via (by assumption) ?_)))⟩
  | true =>
    cases ok with
    | false =>
      rw [hn (by rw [hO]; rfl)]
      clear hy hn hO
      go_enter Tryd.func34, Tryd.ntmps34
      go_wp2_with fail
      refine (HC.out _ (by repeat (first | with_reducible exact Below.refl _ _ | with_reducible refine below_al ?_ _ | with_reducible refine below_dN ?_ _ | with_reducible refine Below.drew ?_ | (with_reducible refine Below.setCell ?_ (by simp <;> omega) _) | (with_reducible refine below_via (by assumption) ?_)))).mono ?_
      rintro e w1 ⟨rfl, hb⟩
      have hw1 : Below w.heap.size w w1 := (by repeat (first | with_reducible exact Below.refl _ _ | with_reducible refine below_al ?_ _ | with_reducible refine below_dN ?_ _ | with_reducible refine Below.drew ?_ | (with_reducible refine Below.setCell ?_ (by simp <;> omega) _) | (with_reducible refine below_via (by assumption) ?_)))
      have hbx0 : Box w1 w.heap.size 23 nul := by
        have h := box_new w 0 0 0 0 0 23
        exact h.below hb (by simp)
      have HBX := Lib.hid hbx0
      clear hbx0
      go_wp2_with fail
      refine (HT.out _ hw1).mono ?_
      rintro e w2 ⟨rfl, hb2⟩
      have hw2 : Below w.heap.size w w2 := below_via hb2 hw1
      have hbx2 := HBX.out.below hb2 HBX.out.lt
      obtain ⟨z0, z1, z2, z3, z4⟩ := hbx2.cell
      obtain ⟨f0, f1, f2, f3, f4⟩ := hbx2.free
      have hlt := hbx2.lt
      clear hbx2
      dsimp only at z0 z1 z2 z3 z4
      go_wp2_with fail
      exact bodyPost_ret (v := .tuple #[nul.v, .int .i64 4]) (by simp [results, Tryd.results34, go_sem, z0, z1, z2, z3, z4, hlt]) rfl ⟨rfl, (by repeat (first | with_reducible exact Below.refl _ _ | with_reducible refine below_al ?_ _ | with_reducible refine below_dN ?_ _ | with_reducible refine Below.drew ?_ | (with_reducible refine Below.setCell ?_ (by simp <;> omega) _) | (with_reducible refine below_via (by assumption) ?_)))⟩
    | true =>
      have hck : Nm.chk ⟨A, B, C, D, k⟩ = chk A B C D k := rfl
      rw [hck] at hO HP
      generalize chk A B C D k = q at *
      clear hck
      by_cases hq : q = 0
      · subst hq
        rw [if_pos rfl] at HP
        generalize printT (Nm.least ⟨A, B, C, D, k⟩) = pt at *
        cases ht : (pt.toList == s.toList) with
        | true =>
          rw [ht] at hO
          rw [hy (by rw [hO]; rfl)]
          have ht2 : (pt.toList != s.toList) = false := by simp [bne, ht]
          clear hy hn hO
          have hend : True := trivial
          go_enter Tryd.func34, Tryd.ntmps34
          go_wp2_with fail
          refine (HC.out _ (by repeat (first | with_reducible exact Below.refl _ _ | with_reducible refine below_al ?_ _ | with_reducible refine below_dN ?_ _ | with_reducible refine Below.drew ?_ | (with_reducible refine Below.setCell ?_ (by simp <;> omega) _) | (with_reducible refine below_via (by assumption) ?_)))).mono ?_
          rintro e w1 ⟨rfl, hb⟩
          have hw1 : Below w.heap.size w w1 := (by repeat (first | with_reducible exact Below.refl _ _ | with_reducible refine below_al ?_ _ | with_reducible refine below_dN ?_ _ | with_reducible refine Below.drew ?_ | (with_reducible refine Below.setCell ?_ (by simp <;> omega) _) | (with_reducible refine below_via (by assumption) ?_)))
          have hbx0 : Box w1 w.heap.size 23 nul := by
            have h := box_new w 0 0 0 0 0 23
            exact h.below hb (by simp)
          have HBX := Lib.hid hbx0
          clear hbx0
          go_wp2_with fail
          refine (HT.out _ hw1).mono ?_
          rintro e w2 ⟨rfl, hb2⟩
          have hw2 : Below w.heap.size w w2 := below_via hb2 hw1
          have HBX2 := Lib.hid (HBX.out.below hb2 HBX.out.lt)
          go_wp2_with fail
          refine (over_any _ _ _ _ _ _).mono ?_
          rintro e w3 ⟨rfl, hb3⟩
          have hw3 : Below w.heap.size w w3 := below_via hb3 (below_al hw2 _)
          have HBX3 : Hid (Box w3 w.heap.size 23 nul) := (box_al HBX2.out _).below hb3 (by simp; have := HBX2.out.lt; omega)
          go_wp2_with fail
          obtain ⟨V, hV⟩ : ∃ V, w3.alloc (Obj.cells #[.int .i64 A, .int .i64 B, .int .i64 C, .int .i64 D, .int .i64 k] 23) = V := ⟨_, rfl⟩
          have hVw : Below w.heap.size w V := by rw [← hV]; exact below_al hw3 _
          have hVx : Box V w3.heap.size 23 ⟨A, B, C, D, k⟩ := by rw [← hV]; exact heap_alloc_new w3 _
          have HBX4 : Hid (Box V w.heap.size 23 nul) := by rw [← hV]; exact box_al HBX3.out _
          rw [hV]
          clear hV
          refine (HP.out _ hVw).mono ?_
          rintro e w5 ⟨rfl, hb5⟩
          have hw5 : Below w.heap.size w w5 := below_via hb5 hVw
          have hx5 := hVx.below hb5 hVx.lt
          have hz5 := HBX4.out.below hb5 HBX4.out.lt
          obtain ⟨x0, x1, x2, x3, x4⟩ := hx5.cell
          obtain ⟨z0, z1, z2, z3, z4⟩ := hz5.cell
          obtain ⟨f0, f1, f2, f3, f4⟩ := hz5.free
          have hlt := hz5.lt
          have hlt2 := hx5.lt
          dsimp only at x0 x1 x2 x3 x4 z0 z1 z2 z3 z4
          clear hx5 hz5 hVx
          go_wp2_with fail
          exact bodyPost_ret (v := .tuple #[nv A B C D k, .int .i64 0]) (by simp [results, Tryd.results34, go_sem, z0, z1, z2, z3, z4, hlt]) rfl ⟨rfl, (by repeat (first | with_reducible exact Below.refl _ _ | with_reducible refine below_al ?_ _ | with_reducible refine below_dN ?_ _ | with_reducible refine Below.drew ?_ | (with_reducible refine Below.setCell ?_ (by simp <;> omega) _) | (with_reducible refine below_via (by assumption) ?_)))⟩
        | false =>
          rw [ht] at hO
          rw [hn (by rw [hO]; rfl)]
          have ht2 : (pt.toList != s.toList) = true := by simp [bne, ht]
          clear hy hn hO
          have hend : True := trivial
          go_enter Tryd.func34, Tryd.ntmps34
          go_wp2_with fail
          refine (HC.out _ (by repeat (first | with_reducible exact Below.refl _ _ | with_reducible refine below_al ?_ _ | with_reducible refine below_dN ?_ _ | with_reducible refine Below.drew ?_ | (with_reducible refine Below.setCell ?_ (by simp <;> omega) _) | (with_reducible refine below_via (by assumption) ?_)))).mono ?_
          rintro e w1 ⟨rfl, hb⟩
          have hw1 : Below w.heap.size w w1 := (by repeat (first | with_reducible exact Below.refl _ _ | with_reducible refine below_al ?_ _ | with_reducible refine below_dN ?_ _ | with_reducible refine Below.drew ?_ | (with_reducible refine Below.setCell ?_ (by simp <;> omega) _) | (with_reducible refine below_via (by assumption) ?_)))
          have hbx0 : Box w1 w.heap.size 23 nul := by
            have h := box_new w 0 0 0 0 0 23
            exact h.below hb (by simp)
          have HBX := Lib.hid hbx0
          clear hbx0
          go_wp2_with fail
          refine (HT.out _ hw1).mono ?_
          rintro e w2 ⟨rfl, hb2⟩
          have hw2 : Below w.heap.size w w2 := below_via hb2 hw1
          have HBX2 := Lib.hid (HBX.out.below hb2 HBX.out.lt)
          go_wp2_with fail
          refine (over_any _ _ _ _ _ _).mono ?_
          rintro e w3 ⟨rfl, hb3⟩
          have hw3 : Below w.heap.size w w3 := below_via hb3 (below_al hw2 _)
          have HBX3 : Hid (Box w3 w.heap.size 23 nul) := (box_al HBX2.out _).below hb3 (by simp; have := HBX2.out.lt; omega)
          go_wp2_with fail
          obtain ⟨V, hV⟩ : ∃ V, w3.alloc (Obj.cells #[.int .i64 A, .int .i64 B, .int .i64 C, .int .i64 D, .int .i64 k] 23) = V := ⟨_, rfl⟩
          have hVw : Below w.heap.size w V := by rw [← hV]; exact below_al hw3 _
          have hVx : Box V w3.heap.size 23 ⟨A, B, C, D, k⟩ := by rw [← hV]; exact heap_alloc_new w3 _
          have HBX4 : Hid (Box V w.heap.size 23 nul) := by rw [← hV]; exact box_al HBX3.out _
          rw [hV]
          clear hV
          refine (HP.out _ hVw).mono ?_
          rintro e w5 ⟨rfl, hb5⟩
          have hw5 : Below w.heap.size w w5 := below_via hb5 hVw
          have hx5 := hVx.below hb5 hVx.lt
          have hz5 := HBX4.out.below hb5 HBX4.out.lt
          obtain ⟨x0, x1, x2, x3, x4⟩ := hx5.cell
          obtain ⟨z0, z1, z2, z3, z4⟩ := hz5.cell
          obtain ⟨f0, f1, f2, f3, f4⟩ := hz5.free
          have hlt := hz5.lt
          have hlt2 := hx5.lt
          dsimp only at x0 x1 x2 x3 x4 z0 z1 z2 z3 z4
          clear hx5 hz5 hVx
          go_wp2_with fail
          exact bodyPost_ret (v := .tuple #[nul.v, .int .i64 4]) (by simp [results, Tryd.results34, go_sem, z0, z1, z2, z3, z4, hlt]) rfl ⟨rfl, (by repeat (first | with_reducible exact Below.refl _ _ | with_reducible refine below_al ?_ _ | with_reducible refine below_dN ?_ _ | with_reducible refine Below.drew ?_ | (with_reducible refine Below.setCell ?_ (by simp <;> omega) _) | (with_reducible refine below_via (by assumption) ?_)))⟩
      · rw [if_neg hq] at HP
        have hq2 : (q != 0) = true := bne_iff_ne.2 hq
        rw [hn (by rw [hO]; simp [hq])]
        clear hy hn hO
        have hend : True := trivial
        go_enter Tryd.func34, Tryd.ntmps34
        go_wp2_with fail
        refine (HC.out _ (by repeat (first | with_reducible exact Below.refl _ _ | with_reducible refine below_al ?_ _ | with_reducible refine below_dN ?_ _ | with_reducible refine Below.drew ?_ | (with_reducible refine Below.setCell ?_ (by simp <;> omega) _) | (with_reducible refine below_via (by assumption) ?_)))).mono ?_
        rintro e w1 ⟨rfl, hb⟩
        have hw1 : Below w.heap.size w w1 := (by repeat (first | with_reducible exact Below.refl _ _ | with_reducible refine below_al ?_ _ | with_reducible refine below_dN ?_ _ | with_reducible refine Below.drew ?_ | (with_reducible refine Below.setCell ?_ (by simp <;> omega) _) | (with_reducible refine below_via (by assumption) ?_)))
        have hbx0 : Box w1 w.heap.size 23 nul := by
          have h := box_new w 0 0 0 0 0 23
          exact h.below hb (by simp)
        have HBX := Lib.hid hbx0
        clear hbx0
        go_wp2_with fail
        refine (HT.out _ hw1).mono ?_
        rintro e w2 ⟨rfl, hb2⟩
        have hw2 : Below w.heap.size w w2 := below_via hb2 hw1
        have HBX2 := Lib.hid (HBX.out.below hb2 HBX.out.lt)
        go_wp2_with fail
        refine (over_any _ _ _ _ _ _).mono ?_
        rintro e w3 ⟨rfl, hb3⟩
        have hw3 : Below w.heap.size w w3 := below_via hb3 (below_al hw2 _)
        have HBX3 : Hid (Box w3 w.heap.size 23 nul) := (box_al HBX2.out _).below hb3 (by simp; have := HBX2.out.lt; omega)
        go_wp2_with fail
        obtain ⟨V, hV⟩ : ∃ V, w3.alloc (Obj.cells #[.int .i64 A, .int .i64 B, .int .i64 C, .int .i64 D, .int .i64 k] 23) = V := ⟨_, rfl⟩
        have hVw : Below w.heap.size w V := by rw [← hV]; exact below_al hw3 _
        have hVx : Box V w3.heap.size 23 ⟨A, B, C, D, k⟩ := by rw [← hV]; exact heap_alloc_new w3 _
        have HBX4 : Hid (Box V w.heap.size 23 nul) := by rw [← hV]; exact box_al HBX3.out _
        rw [hV]
        clear hV
        refine (HP.out _ hVw).mono ?_
        rintro e w5 ⟨rfl, hb5⟩
        have hw5 : Below w.heap.size w w5 := below_via hb5 hVw
        have hx5 := hVx.below hb5 hVx.lt
        have hz5 := HBX4.out.below hb5 HBX4.out.lt
        obtain ⟨x0, x1, x2, x3, x4⟩ := hx5.cell
        obtain ⟨z0, z1, z2, z3, z4⟩ := hz5.cell
        obtain ⟨f0, f1, f2, f3, f4⟩ := hz5.free
        have hlt := hz5.lt
        have hlt2 := hx5.lt
        dsimp only at x0 x1 x2 x3 x4 z0 z1 z2 z3 z4
        clear hx5 hz5 hVx
        go_wp2_with fail
        exact bodyPost_ret (v := .tuple #[nul.v, .int .i64 4]) (by simp [results, Tryd.results34, go_sem, z0, z1, z2, z3, z4, hlt]) rfl ⟨rfl, (by repeat (first | with_reducible exact Below.refl _ _ | with_reducible refine below_al ?_ _ | with_reducible refine below_dN ?_ _ | with_reducible refine Below.drew ?_ | (with_reducible refine Below.setCell ?_ (by simp <;> omega) _) | (with_reducible refine below_via (by assumption) ?_)))⟩
end Go.Proofs.YtjalpolciofphaaDoor
