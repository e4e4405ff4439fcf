
/- Contracts of package ring: plus, minus, Add, Sub, by way of what lift does. -/
import Derived.Test.YtohadcaapmnlaaaDoorJa
import Derived.Test.YtohadcaapmnlaaaDoorPq
set_option linter.all false
set_option maxRecDepth 100000
namespace Go.Proofs.YtohadcaapmnlaaaDoor
open Go.RowKit

/-- lift does to x what it should, at k. -/
def Lifts (x : Nm) (k : Int) : Prop := ∀ (w : World) (b T : Nat), Box w b T x → Calls Tryd.prog 75 #[.pointer (some ⟨b, 0, none⟩), .int .i64 k] w (Lifted (liftN x k) b T w)

set_option maxHeartbeats 4000000 in
theorem plus_core (A B C D K a b c d k m : Int) (r s : Nm) (w : World) (hm : m = if K < k then k else K) (hr : r.le 1152921504606846976) (hs : s.le 1152921504606846976)
    (HLx : Hid (∀ (w : World) (b T : Nat), Box w b T ⟨A, B, C, D, K⟩ → Calls Tryd.prog 75 #[.pointer (some ⟨b, 0, none⟩), .int .i64 m] w (Lifted r b T w)))
    (HLy : Hid (∀ (w : World) (e T : Nat), Box w e T ⟨a, b, c, d, k⟩ → Calls Tryd.prog 75 #[.pointer (some ⟨e, 0, none⟩), .int .i64 m] w (Lifted s e T w))) :
    Calls Tryd.prog 52 #[nv A B C D K, nv a b c d k] w (Gives (nv (r.A + s.A) (r.B + s.B) (r.C + s.C) (r.D + s.D) m) w) := by
  obtain ⟨⟨r1, r2⟩, ⟨r3, r4⟩, ⟨r5, r6⟩, ⟨r7, r8⟩⟩ := hr
  obtain ⟨⟨s1, s2⟩, ⟨s3, s4⟩, ⟨s5, s6⟩, ⟨s7, s8⟩⟩ := hs
  have hW : ∃ W, ((w.alloc (.cells #[.int .i64 A, .int .i64 B, .int .i64 C, .int .i64 D, .int .i64 K] 62)).alloc (.cells #[.int .i64 a, .int .i64 b, .int .i64 c, .int .i64 d, .int .i64 k] 62)).alloc (.cells #[.int .i64 0, .int .i64 0, .int .i64 0, .int .i64 0, .int .i64 0] 62) = W := ⟨_, rfl⟩
  obtain ⟨W, hW⟩ := hW
  have b0 : Box W w.heap.size 62 ⟨A, B, C, D, K⟩ := by rw [← hW]; exact box_al (box_al (box_new w _ _ _ _ _ _) _) _
  have b1 : Box W (w.heap.size + 1) 62 ⟨a, b, c, d, k⟩ := by
    rw [← hW]
    have h := box_new (w.alloc (.cells #[.int .i64 A, .int .i64 B, .int .i64 C, .int .i64 D, .int .i64 K] 62)) a b c d k 62
    simp only [World.size_alloc] at h
    exact box_al h _
  have b2 : Box W (w.heap.size + 1 + 1) 62 nul := by
    rw [← hW]
    have h := box_new ((w.alloc (.cells #[.int .i64 A, .int .i64 B, .int .i64 C, .int .i64 D, .int .i64 K] 62)).alloc (.cells #[.int .i64 a, .int .i64 b, .int .i64 c, .int .i64 d, .int .i64 k] 62)) 0 0 0 0 0 62
    simp only [World.size_alloc] at h
    exact h
  have hbW : Below w.heap.size w W := by rw [← hW]; exact (by repeat (first | with_reducible exact Below.refl _ _ | with_reducible refine below_al ?_ _ | with_reducible refine below_dN ?_ _ | with_reducible refine Below.drew ?_ | (with_reducible refine Below.setCell ?_ (by simp <;> omega) _) | (with_reducible refine below_via (by assumption) ?_)))
  have HW := Lib.hid hW
  clear hW
  have HB := Lib.hid b0
  have HB1 := Lib.hid b1
  have HB2 := Lib.hid b2
  clear b0 b1 b2
  by_cases hlt : K < k
  · rw [if_pos hlt] at hm
    subst hm
    go_enter Tryd.func52, Tryd.ntmps52
    go_wp2_with fail
    rw [HW.out]
    refine (HLx.out _ _ _ HB.out).mono ?_
    rintro e w1 ⟨rfl, ho1, hb1⟩
    have HC0 := Lib.hid hb1
    have HC1 := Lib.hid (HB1.out.only ho1 (by omega))
    have HC2 := Lib.hid (HB2.out.only ho1 (by omega))
    clear hb1
    go_wp2_with fail
    refine (HLy.out _ _ _ HC1.out).mono ?_
    rintro e w2 ⟨rfl, ho2, hb2⟩
    have hd0 := HC0.out.only ho2 (by omega)
    have hd2 := HC2.out.only ho2 (by omega)
    obtain ⟨c0, c1, c2, c3, c4⟩ := hd0.cell
    obtain ⟨d0, d1, d2, d3, d4⟩ := hb2.cell
    obtain ⟨z0, z1, z2, z3, z4⟩ := hd2.cell
    obtain ⟨f0, f1, f2, f3, f4⟩ := hd2.free
    have hw2 : Below w.heap.size w w2 := (hbW.trans (ho1.below (Nat.le_refl _))).trans (ho2.below (by omega))
    clear hd0 hd2 hb2
    go_wp2
    exact bodyPost_ret (v := nv (r.A + s.A) (r.B + s.B) (r.C + s.C) (r.D + s.D) _) (by simp [results, Tryd.results52, go_sem, z0, z1, z2, z3, z4]) rfl ⟨rfl, ((((hw2.setCell (by simp <;> omega) _).setCell (by simp <;> omega) _).setCell (by simp <;> omega) _).setCell (by simp <;> omega) _).setCell (by simp <;> omega) _⟩
  · rw [if_neg hlt] at hm
    subst hm
    go_enter Tryd.func52, Tryd.ntmps52
    go_wp2_with fail
    rw [HW.out]
    refine (HLx.out _ _ _ HB.out).mono ?_
    rintro e w1 ⟨rfl, ho1, hb1⟩
    have HC0 := Lib.hid hb1
    have HC1 := Lib.hid (HB1.out.only ho1 (by omega))
    have HC2 := Lib.hid (HB2.out.only ho1 (by omega))
    clear hb1
    go_wp2_with fail
    refine (HLy.out _ _ _ HC1.out).mono ?_
    rintro e w2 ⟨rfl, ho2, hb2⟩
    have hd0 := HC0.out.only ho2 (by omega)
    have hd2 := HC2.out.only ho2 (by omega)
    obtain ⟨c0, c1, c2, c3, c4⟩ := hd0.cell
    obtain ⟨d0, d1, d2, d3, d4⟩ := hb2.cell
    obtain ⟨z0, z1, z2, z3, z4⟩ := hd2.cell
    obtain ⟨f0, f1, f2, f3, f4⟩ := hd2.free
    have hw2 : Below w.heap.size w w2 := (hbW.trans (ho1.below (Nat.le_refl _))).trans (ho2.below (by omega))
    clear hd0 hd2 hb2
    go_wp2
    exact bodyPost_ret (v := nv (r.A + s.A) (r.B + s.B) (r.C + s.C) (r.D + s.D) _) (by simp [results, Tryd.results52, go_sem, z0, z1, z2, z3, z4]) rfl ⟨rfl, ((((hw2.setCell (by simp <;> omega) _).setCell (by simp <;> omega) _).setCell (by simp <;> omega) _).setCell (by simp <;> omega) _).setCell (by simp <;> omega) _⟩

theorem plus_any (A B C D K a b c d k : Int) (w : World) (hx : Nm.le ⟨A, B, C, D, K⟩ 1073741824) (hy : Nm.le ⟨a, b, c, d, k⟩ 1073741824) (hK : 0 ≤ K ∧ K ≤ 60) (hk : 0 ≤ k ∧ k ≤ 60)
    (HLx : Lifts ⟨A, B, C, D, K⟩ (max K k)) (HLy : Lifts ⟨a, b, c, d, k⟩ (max K k)) :
    Calls Tryd.prog 52 #[nv A B C D K, nv a b c d k] w (Gives (addN ⟨A, B, C, D, K⟩ ⟨a, b, c, d, k⟩).v w) := by
  have hm : max K k = if K < k then k else K := by rw [Int.max_def]; split <;> split <;> omega
  exact plus_core A B C D K a b c d k (max K k) _ _ w hm (liftN_le (by dsimp only; omega) hx) (liftN_le (by dsimp only; omega) hy) HLx HLy
end Go.Proofs.YtohadcaapmnlaaaDoor
