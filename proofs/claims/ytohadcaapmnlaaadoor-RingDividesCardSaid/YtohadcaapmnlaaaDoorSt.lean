
/- The contract of settle for K below 0 (what a division gives). -/
import Derived.Test.YtohadcaapmnlaaaDoorWo
import Derived.Test.YtohadcaapmnlaaaDoorAd
import Derived.Test.YtohadcaapmnlaaaDoorDm
set_option linter.all false
set_option maxRecDepth 100000
namespace Go.Proofs.YtohadcaapmnlaaaDoor
open Go.RowKit

set_option maxHeartbeats 4000000 in
theorem settle_out (A B C D K : Int) (w : World) (hK : K < 0) (hin : inb A B C D 1073741824 = false) :
    Calls Tryd.prog 48 #[nv A B C D K] w (Gives (.tuple #[nul.v, .int .i64 8]) w) := by
  go_enter Tryd.func48, Tryd.ntmps48
  go_wp2_with fail
  refine (within_any _ _ _ _ _ _ _ (by omega) (by omega)).mono ?_
  rw [hin]
  rintro e w1 ⟨rfl, hb⟩
  obtain ⟨hc, hf⟩ := bcell hb
  have hz0 : w.heap.size < w1.heap.size := by have := hb.size; simp at this; omega
  have hz1 : w.heap.size + 1 < w1.heap.size := by have := hb.size; simp at this; omega
  go_wp2
  exact bodyPost_ret (v := (.tuple #[nul.v, .int .i64 8])) (by simp [results, Tryd.results48, go_sem, hc, hz0, hz1]) rfl ⟨rfl, (by repeat (first | with_reducible exact Below.refl _ _ | with_reducible refine below_al ?_ _ | with_reducible refine below_dN ?_ _ | with_reducible refine Below.drew ?_ | (with_reducible refine Below.setCell ?_ (by simp <;> omega) _) | (with_reducible refine below_via (by assumption) ?_)))⟩

set_option maxHeartbeats 8000000 in
theorem settle_low (A B C D K : Int) (r l : Nm) (q : Int) (v : Nm) (w : World) (hK : K < 0) (hin : inb A B C D 1073741824 = true)
    (HLx : Hid (∀ (w : World) (b T : Nat), Box w b T ⟨A, B, C, D, K⟩ → Calls Tryd.prog 75 #[.pointer (some ⟨b, 0, none⟩), .int .i64 0] w (Lifted r b T w)))
    (HL : Hid (∀ w, Calls Tryd.prog 45 #[nv r.A r.B r.C r.D r.K] w (Gives l.v w)))
    (HQ : (chk l.A l.B l.C l.D l.K = 0 ∧ v = l ∧ q = 0) ∨ ((chk l.A l.B l.C l.D l.K != 0) = true ∧ v = nul ∧ q = 8)) :
    Calls Tryd.prog 48 #[nv A B C D K] w (Gives (.tuple #[v.v, .int .i64 q]) w) := by
  rcases HQ with ⟨hc0, rfl, rfl⟩ | ⟨hc0, rfl, rfl⟩
  · have HC := Lib.hid hc0
    clear hc0
    go_enter Tryd.func48, Tryd.ntmps48
    go_wp2_with fail
    refine (within_any _ _ _ _ _ _ _ (by omega) (by omega)).mono ?_
    rw [hin]
    rintro e w1 ⟨rfl, hb⟩
    have b0 : Box w1 w.heap.size 62 ⟨A, B, C, D, K⟩ := (box_al (box_new w _ _ _ _ _ _) _).below hb (by simp; omega)
    have b1 : Box w1 (w.heap.size + 1) 23 nul := by
      have h := box_new (w.alloc (.cells #[.int .i64 A, .int .i64 B, .int .i64 C, .int .i64 D, .int .i64 K] 62)) 0 0 0 0 0 23
      simp only [World.size_alloc] at h
      exact h.below hb (by simp)
    have hw1 : Below w.heap.size w w1 := (by repeat (first | with_reducible exact Below.refl _ _ | with_reducible refine below_al ?_ _ | with_reducible refine below_dN ?_ _ | with_reducible refine Below.drew ?_ | (with_reducible refine Below.setCell ?_ (by simp <;> omega) _) | (with_reducible refine below_via (by assumption) ?_)))
    have hz0 : w.heap.size + 1 < w1.heap.size := by have := hb.size; simp at this; omega
    have HB0 := Lib.hid b0
    have HB1 := Lib.hid b1
    clear hb b0 b1
    go_wp2_with fail
    refine (HLx.out _ _ _ HB0.out).mono ?_
    rintro e w2 ⟨rfl, ho2, hb2⟩
    have hd1 := HB1.out.only ho2 (by omega)
    have hw2 : Below w.heap.size w w2 := hw1.trans (ho2.below (Nat.le_refl _))
    have hlt2 := hb2.lt
    have hlt3 := hd1.lt
    obtain ⟨c0, c1, c2, c3, c4⟩ := hb2.cell
    obtain ⟨d0, d1, d2, d3, d4⟩ := hd1.cell
    obtain ⟨f0, f1, f2, f3, f4⟩ := hd1.free
    dsimp only at d0 d1 d2 d3 d4
    clear hb2 hd1 ho2
    go_wp2_with fail
    refine (HL.out _).mono ?_
    rintro e w3 ⟨rfl, hb3⟩
    obtain ⟨hc3, hf3⟩ := bcell hb3
    have hw3 : Below w.heap.size w w3 := hw2.trans (hb3.mono hw2.size)
    have hz3 : w.heap.size < w3.heap.size := by have := hb3.size; omega
    have hz31 : w.heap.size + 1 < w3.heap.size := by have := hb3.size; omega
    go_wp2_with fail
    refine (check_any _ _ _ _ _ _).mono ?_
    rw [HC.out]
    rintro e w4 ⟨rfl, hb4⟩
    obtain ⟨hc4, hf4⟩ := bcell hb4
    have hw4 : Below w.heap.size w w4 := hw3.trans ((below_via hb4 (below_al (Below.refl _ _) _)).mono hw3.size)
    go_wp2_with fail
    exact bodyPost_ret (v := (.tuple #[v.v, .int .i64 0])) (by simp [results, Tryd.results48, go_sem, hc4, hc3, d0, d1, d2, d3, d4, hz3, hz31, hlt2, hlt3]) rfl ⟨rfl, by first | exact hw4 | exact ((((hw4.setCell (by simp <;> omega) _).setCell (by simp <;> omega) _).setCell (by simp <;> omega) _).setCell (by simp <;> omega) _).setCell (by simp <;> omega) _⟩
  · go_enter Tryd.func48, Tryd.ntmps48
    go_wp2_with fail
    refine (within_any _ _ _ _ _ _ _ (by omega) (by omega)).mono ?_
    rw [hin]
    rintro e w1 ⟨rfl, hb⟩
    have b0 : Box w1 w.heap.size 62 ⟨A, B, C, D, K⟩ := (box_al (box_new w _ _ _ _ _ _) _).below hb (by simp; omega)
    have b1 : Box w1 (w.heap.size + 1) 23 nul := by
      have h := box_new (w.alloc (.cells #[.int .i64 A, .int .i64 B, .int .i64 C, .int .i64 D, .int .i64 K] 62)) 0 0 0 0 0 23
      simp only [World.size_alloc] at h
      exact h.below hb (by simp)
    have hw1 : Below w.heap.size w w1 := (by repeat (first | with_reducible exact Below.refl _ _ | with_reducible refine below_al ?_ _ | with_reducible refine below_dN ?_ _ | with_reducible refine Below.drew ?_ | (with_reducible refine Below.setCell ?_ (by simp <;> omega) _) | (with_reducible refine below_via (by assumption) ?_)))
    have hz0 : w.heap.size + 1 < w1.heap.size := by have := hb.size; simp at this; omega
    have HB0 := Lib.hid b0
    have HB1 := Lib.hid b1
    clear hb b0 b1
    go_wp2_with fail
    refine (HLx.out _ _ _ HB0.out).mono ?_
    rintro e w2 ⟨rfl, ho2, hb2⟩
    have hd1 := HB1.out.only ho2 (by omega)
    have hw2 : Below w.heap.size w w2 := hw1.trans (ho2.below (Nat.le_refl _))
    have hlt2 := hb2.lt
    have hlt3 := hd1.lt
    obtain ⟨c0, c1, c2, c3, c4⟩ := hb2.cell
    obtain ⟨d0, d1, d2, d3, d4⟩ := hd1.cell
    obtain ⟨f0, f1, f2, f3, f4⟩ := hd1.free
    dsimp only at d0 d1 d2 d3 d4
    clear hb2 hd1 ho2
    go_wp2_with fail
    refine (HL.out _).mono ?_
    rintro e w3 ⟨rfl, hb3⟩
    obtain ⟨hc3, hf3⟩ := bcell hb3
    have hw3 : Below w.heap.size w w3 := hw2.trans (hb3.mono hw2.size)
    have hz3 : w.heap.size < w3.heap.size := by have := hb3.size; omega
    have hz31 : w.heap.size + 1 < w3.heap.size := by have := hb3.size; omega
    go_wp2_with fail
    refine (check_any _ _ _ _ _ _).mono ?_
    rintro e w4 ⟨rfl, hb4⟩
    obtain ⟨hc4, hf4⟩ := bcell hb4
    have hw4 : Below w.heap.size w w4 := hw3.trans ((below_via hb4 (below_al (Below.refl _ _) _)).mono hw3.size)
    go_wp2_with fail
    exact bodyPost_ret (v := (.tuple #[nul.v, .int .i64 8])) (by simp [results, Tryd.results48, go_sem, hc4, hc3, d0, d1, d2, d3, d4, hz3, hz31, hlt2, hlt3]) rfl ⟨rfl, by first | exact hw4 | exact ((((hw4.setCell (by simp <;> omega) _).setCell (by simp <;> omega) _).setCell (by simp <;> omega) _).setCell (by simp <;> omega) _).setCell (by simp <;> omega) _⟩

theorem least_any' (r : Nm) (w : World) (hx : r.wide) (hK : 0 ≤ r.K ∧ r.K ≤ 1000) :
    Calls Tryd.prog 45 #[nv r.A r.B r.C r.D r.K] w (Gives r.least.v w) := by
  obtain ⟨A, B, C, D, K⟩ := r
  exact least_any A B C D K w hx hK

theorem settle_all (x : Nm) (w : World) (hx : x.wide) (hK : -60 ≤ x.K ∧ x.K ≤ 1000) :
    Calls Tryd.prog 48 #[nv x.A x.B x.C x.D x.K] w (Gives (.tuple #[(settN x).v, .int .i64 (settE x)]) w) := by
  by_cases h : x.K < 0
  · by_cases hi : x.inb 1073741824 = true
    · have hle : x.le 1073741824 := by
        unfold Nm.inb inb at hi
        rw [decide_eq_true_eq] at hi
        unfold Nm.le
        omega
      unfold settN settE
      rw [if_pos h, if_pos h, if_pos hi, if_pos hi]
      have hl := liftN_le (x := x) (k := 0) (by omega) hle
      have hlK : (liftN x 0).K = 0 := by unfold liftN; rw [if_neg (by omega), upN_K]; omega
      refine settle_low x.A x.B x.C x.D x.K (liftN x 0) (liftN x 0).least _ _ w h hi (fun w b T hb => lift_any _ 0 b T w hle (by omega) (by omega) hb (by omega)) (fun w => least_any' _ w ?_ (by omega)) ?_
      · unfold Nm.le at hl; unfold Nm.wide; omega
      · unfold fitN fitE
        by_cases hc : (liftN x 0).least.chk = 0
        · rw [if_pos hc, if_pos hc]
          exact Or.inl ⟨hc, rfl, rfl⟩
        · rw [if_neg hc, if_neg hc]
          exact Or.inr ⟨bne_iff_ne.2 hc, rfl, rfl⟩
    · unfold settN settE
      rw [if_pos h, if_pos h, if_neg hi, if_neg hi]
      exact settle_out _ _ _ _ _ w h (Bool.not_eq_true _ ▸ hi)
  · unfold settN settE
    rw [if_neg h, if_neg h]
    exact settle_any x.A x.B x.C x.D x.K w hx (by omega)
end Go.Proofs.YtohadcaapmnlaaaDoor
