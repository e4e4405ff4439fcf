
/- The reading of all terms. -/
import Derived.Test.YtjalpolciofphaaDoorCr
set_option linter.all false
set_option maxRecDepth 100000
namespace Go.Proofs.YtjalpolciofphaaDoor
open Go.RowKit Go.Shelf

structure C4 where
  A : Int
  B : Int
  C : Int
  D : Int
abbrev C4.v (c : C4) : Value := .agg #[.int .i64 c.A, .int .i64 c.B, .int .i64 c.C, .int .i64 c.D]
def C4.set (c : C4) (i : Nat) (n : Int) : C4 := if i = 0 then { c with A := n } else if i = 1 then { c with B := n } else if i = 2 then { c with C := n } else { c with D := n }
abbrev c40 : C4 := ⟨0, 0, 0, 0⟩
def nextT (l : List UInt8) : List UInt8 := selR (tmB l)
def rts : Nat → List UInt8 → C4 → C4 × Bool
  | 0, _, c => (c, true)
  | f + 1, l, c => if l.isEmpty = true then (c, true) else if (nextT l).length = l.length then (c40, false) else rts f (nextT l) (c.set (selI (tmB l)) (tmN l))
theorem nextT_len (l : List UInt8) : (nextT l).length ≤ l.length := by
  have h1 := selR_len (tmB l)
  have h2 := tmRest_len l
  have h3 : (tmB l).length = (tmRest l).length - (tmD l).2 := by unfold tmB; exact List.length_drop
  unfold nextT
  omega
theorem rts_fuel : ∀ (f g : Nat) (l : List UInt8) (c : C4), l.length ≤ f → l.length ≤ g → rts f l c = rts g l c
  | 0, 0, _, _, _, _ => rfl
  | 0, g + 1, l, c, h, _ => by
    have : l = [] := List.eq_nil_of_length_eq_zero (by omega)
    subst this
    simp [rts]
  | f + 1, 0, l, c, _, h => by
    have : l = [] := List.eq_nil_of_length_eq_zero (by omega)
    subst this
    simp [rts]
  | f + 1, g + 1, l, c, h1, h2 => by
    simp only [rts]
    split
    · rfl
    · split
      · rfl
      · rename_i hn
        have := nextT_len l
        exact rts_fuel f g _ _ (by omega) (by omega)
def readT (l : List UInt8) (c : C4) : C4 × Bool := rts l.length l c
theorem readT_nil {l : List UInt8} (c : C4) (h : l.isEmpty = true) : readT l c = (c, true) := by
  have : l = [] := List.isEmpty_iff.1 h
  subst this
  rfl
theorem readT_bad {l : List UInt8} (c : C4) (h : l.isEmpty = false) (hl : (nextT l).length = l.length) : readT l c = (c40, false) := by
  cases l with
  | nil => simp at h
  | cons a t =>
    show rts (t.length + 1) (a :: t) c = _
    rw [rts, if_neg (by simp), if_pos hl]
theorem readT_step {l : List UInt8} (c : C4) (h : l.isEmpty = false) (hl : ¬ (nextT l).length = l.length) : readT l c = readT (nextT l) (c.set (selI (tmB l)) (tmN l)) := by
  cases l with
  | nil => simp at h
  | cons a t =>
    have h3 := nextT_len (a :: t)
    show rts (t.length + 1) (a :: t) c = _
    rw [rts, if_neg (by simp), if_neg hl]
    simp only [List.length_cons] at hl h3
    exact rts_fuel _ _ _ _ (by omega) (Nat.le_refl _)

def Quad (w : World) (b T : Nat) (c : C4) : Prop := w.heap[b]? = some (.cells #[.int .i64 c.A, .int .i64 c.B, .int .i64 c.C, .int .i64 c.D] T (0, 0))
theorem Quad.cell {w : World} {b T : Nat} {c : C4} (h : Quad w b T c) :
    w.cell? ⟨b, 0, none⟩ = some (.int .i64 c.A) ∧ w.cell? ⟨b, 1, none⟩ = some (.int .i64 c.B) ∧ w.cell? ⟨b, 2, none⟩ = some (.int .i64 c.C) ∧ w.cell? ⟨b, 3, none⟩ = some (.int .i64 c.D) := by
  unfold Quad at h
  simp [World.cell?, h]
theorem Quad.free {w : World} {b T : Nat} {c : C4} (h : Quad w b T c) :
    w.frozen? ⟨b, 0, none⟩ = false ∧ w.frozen? ⟨b, 1, none⟩ = false ∧ w.frozen? ⟨b, 2, none⟩ = false ∧ w.frozen? ⟨b, 3, none⟩ = false := by
  unfold Quad at h
  simp [World.frozen?, h]
theorem Quad.below {w w' : World} {b B T : Nat} {c : C4} (h : Quad w b T c) (ho : Below B w w') (hn : b < B) : Quad w' b T c := by
  unfold Quad; rw [ho.block b hn]; exact h
theorem Quad.setOther {w : World} {b b' o T : Nat} {c : C4} {v : Value} (h : Quad w b T c) (hn : b ≠ b') : Quad (w.setCell ⟨b', o, none⟩ v) b T c := by
  unfold Quad; rw [Below.heap_setCell _ _ _ _ hn]; exact h
theorem Quad.put {w : World} {b T : Nat} {c : C4} (h : Quad w b T c) (i : Nat) (hi : i ≤ 3) (n : Int) : Quad (w.setCell ⟨b, i, none⟩ (.int .i64 n)) b T (c.set i n) := by
  have h1 := heap_set (o := i) (v := .int .i64 n) h
  have hk : i = 0 ∨ i = 1 ∨ i = 2 ∨ i = 3 := by omega
  rcases hk with rfl | rfl | rfl | rfl <;> exact h1
theorem Quad.lt {w : World} {b T : Nat} {c : C4} (h : Quad w b T c) : b < w.heap.size := by
  rcases Nat.lt_or_ge b w.heap.size with h' | h'
  · exact h'
  · simp [Quad, Array.getElem?_eq_none h'] at h

set_option maxHeartbeats 4000000 in
theorem readTerms_any (s : ByteArray) (w : World) (hs : s.size < 4294967281) (hN : NamesAre w) :
    Calls Tryd.prog 76 #[.string s] w (Gives (.tuple #[(readT s.data.toList c40).1.v, .bool (readT s.data.toList c40).2]) w) := by
  obtain ⟨R, hR⟩ : ∃ R, R = readT s.data.toList c40 := ⟨_, rfl⟩
  have HR := Lib.hid hR
  rw [← hR]
  clear hR
  have HNN := Lib.hid hN
  clear hN
  go_enter Tryd.func76, Tryd.ntmps76
  go_wp2_with fail
  go_loopw [0] (fun t wr => ∃ (X : ByteArray) (c : C4), t = .string X ∧ X.size ≤ s.size ∧ Below w.heap.size w wr ∧ Quad wr w.heap.size 60 c40 ∧ Quad wr (w.heap.size + 1) 60 c ∧ Hid (R = readT X.data.toList c)) (fun t _ => match t with | .string X => X.size | _ => 0)
  case atStart =>
    have hb1 : Quad (w.alloc (.cells #[.int .i64 0, .int .i64 0, .int .i64 0, .int .i64 0] 60)) w.heap.size 60 c40 := heap_alloc_new w _
    have hb2 := heap_alloc_new (w.alloc (.cells #[.int .i64 0, .int .i64 0, .int .i64 0, .int .i64 0] 60)) (.cells #[.int .i64 0, .int .i64 0, .int .i64 0, .int .i64 0] 60)
    rw [World.size_alloc] at hb2
    exact ⟨s, c40, rfl, Nat.le_refl _, (by repeat (first | with_reducible exact Below.refl _ _ | with_reducible refine below_al ?_ _ | with_reducible refine below_dN ?_ _ | with_reducible refine Below.drew ?_ | (with_reducible refine Below.setCell ?_ (by simp <;> omega) _) | (with_reducible refine below_via (by assumption) ?_))), by unfold Quad; rw [← hb1]; exact heap_alloc_old _ _ (by simp), hb2, HR⟩
  case round =>
    obtain ⟨X, c, rfl, hX, hwr, hB2, hB4, HK⟩ := hrel
    have hXl : X.size = X.data.toList.length := Lib.size_eq X
    have htl : X.toList.isEmpty = X.data.toList.isEmpty := by rw [Lib.toList_data]
    cases he : X.data.toList.isEmpty with
    | true =>
      rw [he] at htl
      have hre := HK.out.trans (readT_nil c he)
      have HRE := Lib.hid hre
      clear hre HK he hXl
      obtain ⟨c0, c1, c2, c3⟩ := hB4.cell
      obtain ⟨d0, d1, d2, d3⟩ := hB2.cell
      obtain ⟨f0, f1, f2, f3⟩ := hB2.free
      have hlt := hB4.lt
      go_wp2_with fail
      exact bodyPost_ret (v := .tuple #[c.v, .bool true]) (by simp [results, Tryd.results76, go_sem, d0, d1, d2, d3, f0, f1, f2, f3]) rfl ⟨by rw [HRE.out], (by repeat (first | with_reducible exact Below.refl _ _ | with_reducible refine below_al ?_ _ | with_reducible refine below_dN ?_ _ | with_reducible refine Below.drew ?_ | (with_reducible refine Below.setCell ?_ (by simp <;> omega) _) | (with_reducible refine below_via (by assumption) ?_)))⟩
    | false =>
      rw [he] at htl
      have HT : Hid (∀ w', Below w.heap.size w w' → Calls Tryd.prog 90 #[.string X] w' (Gives (.tuple #[.int .i64 (selI (tmB X.data.toList)), .int .i64 (tmN X.data.toList), .string ⟨(nextT X.data.toList).toArray⟩]) w')) :=
        fun w' hb => readTerm_any X w' (by omega) (HNN.out.below hb)
      have hnl := nextT_len X.data.toList
      have hnn := tm_num X.data.toList
      have hsz := size_mk (nextT X.data.toList)
      have hid : (⟨(nextT X.data.toList).toArray⟩ : ByteArray).data.toList = nextT X.data.toList := rfl
      by_cases hl : (nextT X.data.toList).length = X.data.toList.length
      · have hre := HK.out.trans (readT_bad c he hl)
        have HRE := Lib.hid hre
        generalize (⟨(nextT X.data.toList).toArray⟩ : ByteArray) = Y at *
        have hq : ((Y.size : Int) == (X.size : Int)) = true := by rw [beq_iff_eq]; omega
        generalize selI (tmB X.data.toList) = i at *
        generalize tmN X.data.toList = n at *
        clear hre HK he hXl hl hnl hid hsz
        go_wp2_with fail
        refine (HT.out _ hwr).mono ?_
        rintro e w2 ⟨rfl, hb⟩
        have hw2 : Below w.heap.size w w2 := below_via hb hwr
        have hB22 := hB2.below hb (by have := hB2.lt; omega)
        obtain ⟨d0, d1, d2, d3⟩ := hB22.cell
        obtain ⟨f0, f1, f2, f3⟩ := hB22.free
        have hlt := hB22.lt
        go_wp2_with fail
        exact bodyPost_ret (v := .tuple #[c40.v, .bool false]) (by simp [results, Tryd.results76, go_sem, d0, d1, d2, d3, f0, f1, f2, f3]) rfl ⟨by rw [HRE.out], (by repeat (first | with_reducible exact Below.refl _ _ | with_reducible refine below_al ?_ _ | with_reducible refine below_dN ?_ _ | with_reducible refine Below.drew ?_ | (with_reducible refine Below.setCell ?_ (by simp <;> omega) _) | (with_reducible refine below_via (by assumption) ?_)))⟩
      · have hre := HK.out.trans (readT_step c he hl)
        have hi := selI_le (tmB X.data.toList)
        generalize (⟨(nextT X.data.toList).toArray⟩ : ByteArray) = Y at *
        rw [← hid] at hre
        have hq : ((Y.size : Int) == (X.size : Int)) = false := by rw [beq_eq_false_iff_ne]; omega
        have hlt : Y.size < X.size := by omega
        generalize selI (tmB X.data.toList) = i at *
        generalize tmN X.data.toList = n at *
        have HRE := Lib.hid hre
        clear hre HK he hXl hl hnl hid hsz
        have hi4 : i = 0 ∨ i = 1 ∨ i = 2 ∨ i = 3 := by omega
        rcases hi4 with rfl | rfl | rfl | rfl
        · go_wp2_with fail
          refine (HT.out _ hwr).mono ?_
          rintro e w2 ⟨rfl, hb⟩
          have hw2 : Below w.heap.size w w2 := below_via hb hwr
          have hB22 := hB2.below hb (by have := hB2.lt; omega)
          have hB42 := hB4.below hb (by have := hB4.lt; omega)
          obtain ⟨d0, d1, d2, d3⟩ := hB42.cell
          obtain ⟨f0, f1, f2, f3⟩ := hB42.free
          have hlt4 := hB42.lt
          go_wp2_with fail
          go_roundw
          case rel => exact ⟨Y, c.set 0 n, rfl, by omega, (by repeat (first | with_reducible exact Below.refl _ _ | with_reducible refine below_al ?_ _ | with_reducible refine below_dN ?_ _ | with_reducible refine Below.drew ?_ | (with_reducible refine Below.setCell ?_ (by simp <;> omega) _) | (with_reducible refine below_via (by assumption) ?_))), hB22.setOther (by omega), hB42.put 0 (by omega) n, HRE⟩
          case measure => exact hlt
        · go_wp2_with fail
          refine (HT.out _ hwr).mono ?_
          rintro e w2 ⟨rfl, hb⟩
          have hw2 : Below w.heap.size w w2 := below_via hb hwr
          have hB22 := hB2.below hb (by have := hB2.lt; omega)
          have hB42 := hB4.below hb (by have := hB4.lt; omega)
          obtain ⟨d0, d1, d2, d3⟩ := hB42.cell
          obtain ⟨f0, f1, f2, f3⟩ := hB42.free
          have hlt4 := hB42.lt
          go_wp2_with fail
          go_roundw
          case rel => exact ⟨Y, c.set 1 n, rfl, by omega, (by repeat (first | with_reducible exact Below.refl _ _ | with_reducible refine below_al ?_ _ | with_reducible refine below_dN ?_ _ | with_reducible refine Below.drew ?_ | (with_reducible refine Below.setCell ?_ (by simp <;> omega) _) | (with_reducible refine below_via (by assumption) ?_))), hB22.setOther (by omega), hB42.put 1 (by omega) n, HRE⟩
          case measure => exact hlt
        · go_wp2_with fail
          refine (HT.out _ hwr).mono ?_
          rintro e w2 ⟨rfl, hb⟩
          have hw2 : Below w.heap.size w w2 := below_via hb hwr
          have hB22 := hB2.below hb (by have := hB2.lt; omega)
          have hB42 := hB4.below hb (by have := hB4.lt; omega)
          obtain ⟨d0, d1, d2, d3⟩ := hB42.cell
          obtain ⟨f0, f1, f2, f3⟩ := hB42.free
          have hlt4 := hB42.lt
          go_wp2_with fail
          go_roundw
          case rel => exact ⟨Y, c.set 2 n, rfl, by omega, (by repeat (first | with_reducible exact Below.refl _ _ | with_reducible refine below_al ?_ _ | with_reducible refine below_dN ?_ _ | with_reducible refine Below.drew ?_ | (with_reducible refine Below.setCell ?_ (by simp <;> omega) _) | (with_reducible refine below_via (by assumption) ?_))), hB22.setOther (by omega), hB42.put 2 (by omega) n, HRE⟩
          case measure => exact hlt
        · go_wp2_with fail
          refine (HT.out _ hwr).mono ?_
          rintro e w2 ⟨rfl, hb⟩
          have hw2 : Below w.heap.size w w2 := below_via hb hwr
          have hB22 := hB2.below hb (by have := hB2.lt; omega)
          have hB42 := hB4.below hb (by have := hB4.lt; omega)
          obtain ⟨d0, d1, d2, d3⟩ := hB42.cell
          obtain ⟨f0, f1, f2, f3⟩ := hB42.free
          have hlt4 := hB42.lt
          go_wp2_with fail
          go_roundw
          case rel => exact ⟨Y, c.set 3 n, rfl, by omega, (by repeat (first | with_reducible exact Below.refl _ _ | with_reducible refine below_al ?_ _ | with_reducible refine below_dN ?_ _ | with_reducible refine Below.drew ?_ | (with_reducible refine Below.setCell ?_ (by simp <;> omega) _) | (with_reducible refine below_via (by assumption) ?_))), hB22.setOther (by omega), hB42.put 3 (by omega) n, HRE⟩
          case measure => exact hlt
end Go.Proofs.YtjalpolciofphaaDoor
