
/- The reference's least form. -/
import Derived.Test.YtjalpolciofphaaDoorRa
import Derived.Test.YtjalpolciofphaaDoorWg
set_option linter.all false
set_option maxRecDepth 100000
namespace Go.Proofs.YtjalpolciofphaaDoor
open Go.RowKit

/-- The K of the number in block b, as far as it is above 0. -/
def kAt (w : World) (b : Nat) : Nat := match w.cell? ⟨b, 4, none⟩ with
  | some (.int _ n) => n.toNat
  | _ => 0
theorem kAt_box {w : World} {b T : Nat} {x : Nm} (h : Box w b T x) : kAt w b = x.K.toNat := by
  unfold kAt; rw [h.cell.2.2.2.2]
theorem form_stop {x : Nm} (h : x.K ≤ 0 ∨ x.even = false) : form x.K.toNat x = x := by
  rcases h with h | h
  · rw [show x.K.toNat = 0 by omega]; rfl
  · cases x.K.toNat with
    | zero => rfl
    | succ n => rw [form, h]; rfl
theorem form_next {x : Nm} (h : 0 < x.K) (he : x.even = true) : form x.K.toNat x = form x.half.K.toNat x.half := by
  have hk : x.K.toNat = x.half.K.toNat + 1 := by show _ = (x.K - 1).toNat + 1; omega
  rw [hk, form, if_pos he]
theorem Box.other {w : World} {b b' o T : Nat} {x : Nm} {v : Value} (h : Box w b T x) (hn : b ≠ b') : Box (w.setCell ⟨b', o, none⟩ v) b T x := by
  unfold Box; rw [Below.heap_setCell _ _ _ _ hn]; exact h
theorem box_cells {w : World} {b T : Nat} {x : Nm} (h : Box w b T x) (y : Nm) :
    Box (((((w.setCell ⟨b, 0, none⟩ (.int .i64 y.A)).setCell ⟨b, 1, none⟩ (.int .i64 y.B)).setCell ⟨b, 2, none⟩ (.int .i64 y.C)).setCell ⟨b, 3, none⟩ (.int .i64 y.D)).setCell ⟨b, 4, none⟩ (.int .i64 y.K)) b T y :=
  heap_set (heap_set (heap_set (heap_set (heap_set h))))

set_option maxHeartbeats 4000000 in
theorem r_form (x : Nm) (w : World) (hx : x.wide) (hK : -1000 ≤ x.K ∧ x.K ≤ 1000) :
    Calls Tryd.prog 36 #[x.v] w (Gives x.least.v w) := by
  have HZ : Hid (∀ w, Calls Tryd.prog 57 #[x.v] w (Gives (.bool x.zero) w)) := fun w => r_zero x.A x.B x.C x.D x.K w
  have hl : x.least = if x.zero = true then nul else form x.K.toNat x := rfl
  cases hz : x.zero with
  | true =>
    rw [hl, hz, if_pos rfl]
    rw [hz] at HZ
    clear hl hz hx hK
    obtain ⟨A, B, C, D, K⟩ := x
    go_enter Tryd.func36, Tryd.ntmps36
    go_wp2_with fail
    refine (HZ.out _).mono ?_
    rintro e w1 ⟨rfl, hb⟩
    obtain ⟨hc, hf⟩ := bcell hb
    go_wp2_with fail
    exact bodyPost_ret (v := nul.v) (by simp [results, Tryd.results36, go_sem, hc, hf]) rfl ⟨rfl, (by repeat (first | with_reducible exact Below.refl _ _ | with_reducible refine below_al ?_ _ | with_reducible refine below_dN ?_ _ | with_reducible refine Below.drew ?_ | (with_reducible refine Below.setCell ?_ (by simp <;> omega) _) | (with_reducible refine below_via (by assumption) ?_)))⟩
  | false =>
    rw [hl, hz, if_neg (by simp)]
    rw [hz] at HZ
    obtain ⟨R, hR⟩ : ∃ R, R = form x.K.toNat x := ⟨_, rfl⟩
    rw [← hR]
    have HR := Lib.hid hR
    have HX := Lib.hid hx
    have HK := Lib.hid hK
    clear hl hz hx hK hR
    obtain ⟨A, B, C, D, K⟩ := x
    go_enter Tryd.func36, Tryd.ntmps36
    go_wp2_with fail
    refine (HZ.out _).mono ?_
    rintro e w1 ⟨rfl, hb⟩
    have bx : Box w1 w.heap.size 23 ⟨A, B, C, D, K⟩ := (box_al (box_new w _ _ _ _ _ _) _).below hb (by simp <;> omega)
    have b2 : Box w1 (w.heap.size + 1) 23 nul := by
      have h := box_new (w.alloc (.cells #[.int .i64 A, .int .i64 B, .int .i64 C, .int .i64 D, .int .i64 K] 23)) 0 0 0 0 0 23
      rw [World.size_alloc] at h
      exact h.below hb (by simp <;> omega)
    have hw1 : Below w.heap.size w w1 := (by repeat (first | with_reducible exact Below.refl _ _ | with_reducible refine below_al ?_ _ | with_reducible refine below_dN ?_ _ | with_reducible refine Below.drew ?_ | (with_reducible refine Below.setCell ?_ (by simp <;> omega) _) | (with_reducible refine below_via (by assumption) ?_)))
    have HB1 := Lib.hid bx
    have HB2 := Lib.hid b2
    clear bx b2
    go_wp2_with fail
    go_loopw [12] (fun _ wr => ∃ y : Nm, Hid (Box wr w.heap.size 23 y) ∧ Hid (Box wr (w.heap.size + 1) 23 nul) ∧ Hid y.wide ∧ Hid (-1000 ≤ y.K ∧ y.K ≤ 1000) ∧ Below w.heap.size w wr ∧ Hid (R = form y.K.toNat y)) (fun _ wr => kAt wr w.heap.size)
    case atStart => exact ⟨⟨A, B, C, D, K⟩, HB1, HB2, HX, HK, hw1, HR⟩
    case round =>
      obtain ⟨y, HY, HN, HYW, HYK, hwr, HF⟩ := hrel
      clear HB1 HB2 HX HK HR HZ
      have HYB := HY.out
      have HYB := Lib.hid HYB
      obtain ⟨a, b, c, d, k⟩ := y
      obtain ⟨c0, c1, c2, c3, c4⟩ := HY.out.cell
      obtain ⟨f0, f1, f2, f3, f4⟩ := HY.out.free
      obtain ⟨z0, z1, z2, z3, z4⟩ := HN.out.cell
      obtain ⟨g0, g1, g2, g3, g4⟩ := HN.out.free
      have hlt := HN.out.lt
      dsimp only at c0 c1 c2 c3 c4 z0 z1 z2 z3 z4
      by_cases hk : 0 < k
      · have HE : Hid (∀ w, Calls Tryd.prog 59 #[nv a b c d k] w (Gives (.bool (Nm.even ⟨a, b, c, d, k⟩)) w)) := fun w => r_even a b c d k w
        cases he : Nm.even ⟨a, b, c, d, k⟩ with
        | true =>
          have HH : Hid (∀ w, Calls Tryd.prog 60 #[nv a b c d k] w (Gives (halfK ⟨a, b, c, d, k⟩).v w)) := fun w => r_halved a b c d k w HYW.out
          rw [he] at HE
          go_wp2_with fail
          refine (HE.out _).mono ?_
          rintro e w2 ⟨rfl, hb2⟩
          have hw2 : Below w.heap.size w w2 := below_via hb2 hwr
          have HY2 := Lib.hid (HY.out.below hb2 HY.out.lt)
          have HN2 := Lib.hid (HN.out.below hb2 HN.out.lt)
          clear c0 c1 c2 c3 c4 f0 f1 f2 f3 f4 z0 z1 z2 z3 z4 g0 g1 g2 g3 g4 HY HN hlt
          obtain ⟨c0, c1, c2, c3, c4⟩ := HY2.out.cell
          dsimp only at c0 c1 c2 c3 c4
          go_wp2_with fail
          refine (HH.out _).mono ?_
          rintro e w3 ⟨rfl, hb3⟩
          have hw3 : Below w.heap.size w w3 := below_via hb3 hw2
          have HY3 := Lib.hid (HY2.out.below hb3 HY2.out.lt)
          have HN3 := Lib.hid (HN2.out.below hb3 HN2.out.lt)
          clear c0 c1 c2 c3 c4 HY2 HN2
          obtain ⟨c0, c1, c2, c3, c4⟩ := HY3.out.cell
          obtain ⟨f0, f1, f2, f3, f4⟩ := HY3.out.free
          have hlt := HY3.out.lt
          (try dsimp only at c0 c1 c2 c3 c4)
          obtain ⟨hk1, hk2⟩ := HYK.out
          (try dsimp only at hk1 hk2)
          have hh1 : (halfK ⟨a, b, c, d, k⟩).K = k := rfl
          have hh2 : Nm.half ⟨a, b, c, d, k⟩ = ⟨(halfK ⟨a, b, c, d, k⟩).A, (halfK ⟨a, b, c, d, k⟩).B, (halfK ⟨a, b, c, d, k⟩).C, (halfK ⟨a, b, c, d, k⟩).D, (halfK ⟨a, b, c, d, k⟩).K - 1⟩ := rfl
          have hww := Nm.wide_half HYW.out he
          have hnx := HF.out.trans (form_next hk he)
          rw [hh2] at hww hnx
          generalize halfK ⟨a, b, c, d, k⟩ = h at *
          have HH1 := Lib.hid hh1
          have HWW := Lib.hid hww
          have HNX := Lib.hid hnx
          have hk3 : -1000 ≤ h.K := by omega
          have hk4 : h.K ≤ 1000 := by omega
          clear hh1 hh2 hww hnx he
          go_wp2_with fail
          have hbox := box_cells HY3.out h
          have hbox2 : Box ((((((w3.setCell ⟨w.heap.size, 0, none⟩ (.int .i64 h.A)).setCell ⟨w.heap.size, 1, none⟩ (.int .i64 h.B)).setCell ⟨w.heap.size, 2, none⟩ (.int .i64 h.C)).setCell ⟨w.heap.size, 3, none⟩ (.int .i64 h.D)).setCell ⟨w.heap.size, 4, none⟩ (.int .i64 h.K)).setCell ⟨w.heap.size, 4, none⟩ (.int .i64 (h.K - 1))) w.heap.size 23 ⟨h.A, h.B, h.C, h.D, h.K - 1⟩ := heap_set hbox
          have hkm := kAt_box hbox2
          dsimp only at hkm
          go_roundw
          case rel => exact ⟨⟨h.A, h.B, h.C, h.D, h.K - 1⟩, hbox2, (((((HN3.out.other (by omega)).other (by omega)).other (by omega)).other (by omega)).other (by omega)).other (by omega), HWW.out, (by show -1000 ≤ h.K - 1 ∧ h.K - 1 ≤ 1000; have := HH1.out; omega), (by repeat (first | with_reducible exact Below.refl _ _ | with_reducible refine below_al ?_ _ | with_reducible refine below_dN ?_ _ | with_reducible refine Below.drew ?_ | (with_reducible refine Below.setCell ?_ (by simp <;> omega) _) | (with_reducible refine below_via (by assumption) ?_))), HNX.out⟩
          case measure =>
            rw [hkm, kAt_box HYB.out]
            have := HH1.out
            dsimp only
            omega
        | false =>
          rw [he] at HE
          have hre : R = ⟨a, b, c, d, k⟩ := HF.out.trans (form_stop (.inr he))
          have HRE := Lib.hid hre
          clear hre he
          go_wp2_with fail
          refine (HE.out _).mono ?_
          rintro e w2 ⟨rfl, hb2⟩
          have hw2 : Below w.heap.size w w2 := below_via hb2 hwr
          have HY2 := Lib.hid (HY.out.below hb2 HY.out.lt)
          have HN2 := Lib.hid (HN.out.below hb2 HN.out.lt)
          clear c0 c1 c2 c3 c4 f0 f1 f2 f3 f4 z0 z1 z2 z3 z4 g0 g1 g2 g3 g4 HY HN hlt
          obtain ⟨c0, c1, c2, c3, c4⟩ := HY2.out.cell
          obtain ⟨z0, z1, z2, z3, z4⟩ := HN2.out.cell
          obtain ⟨g0, g1, g2, g3, g4⟩ := HN2.out.free
          have hlt := HN2.out.lt
          dsimp only at c0 c1 c2 c3 c4 z0 z1 z2 z3 z4
          go_wp2_with fail
          rw [HRE.out]
          exact bodyPost_ret (v := nv a b c d k) (by simp [results, Tryd.results36, go_sem, z0, z1, z2, z3, z4]) rfl ⟨rfl, (by repeat (first | with_reducible exact Below.refl _ _ | with_reducible refine below_al ?_ _ | with_reducible refine below_dN ?_ _ | with_reducible refine Below.drew ?_ | (with_reducible refine Below.setCell ?_ (by simp <;> omega) _) | (with_reducible refine below_via (by assumption) ?_)))⟩
      · have hre : R = ⟨a, b, c, d, k⟩ := HF.out.trans (form_stop (.inl (by dsimp only; omega)))
        have HRE := Lib.hid hre
        clear hre
        go_wp2_with fail
        rw [HRE.out]
        exact bodyPost_ret (v := nv a b c d k) (by simp [results, Tryd.results36, go_sem, z0, z1, z2, z3, z4]) rfl ⟨rfl, (by repeat (first | with_reducible exact Below.refl _ _ | with_reducible refine below_al ?_ _ | with_reducible refine below_dN ?_ _ | with_reducible refine Below.drew ?_ | (with_reducible refine Below.setCell ?_ (by simp <;> omega) _) | (with_reducible refine below_via (by assumption) ?_)))⟩
end Go.Proofs.YtjalpolciofphaaDoor
