
/- Two least forms in one statement, whatever the order; ring.Same. -/
import Derived.Test.YtohadcaapmnlaaaDoorJa
import Derived.Deep.RegionWith
import Derived.Deep.DeepCutAuto
import Derived.Deep.RegionHeld3
set_option linter.all false
set_option maxRecDepth 100000
namespace Go.Proofs.YtohadcaapmnlaaaDoor
open Go.RowKit
attribute [local go_sem] run_eql_arr4 run_field_num

/-- p and q point to two numbers, in memory that is new since w1. -/
def PQ (r s : Nm) (w1 : World) (p q : Value) (wx : World) : Prop :=
  ∃ bp bq, p = .pointer (some ⟨bp, 0, none⟩) ∧ q = .pointer (some ⟨bq, 0, none⟩) ∧ (wx.cell? ⟨bp, 0, none⟩ = some (.int .i64 r.A) ∧ wx.cell? ⟨bp, 1, none⟩ = some (.int .i64 r.B) ∧ wx.cell? ⟨bp, 2, none⟩ = some (.int .i64 r.C) ∧ wx.cell? ⟨bp, 3, none⟩ = some (.int .i64 r.D) ∧ wx.cell? ⟨bp, 4, none⟩ = some (.int .i64 r.K)) ∧
    (wx.cell? ⟨bq, 0, none⟩ = some (.int .i64 s.A) ∧ wx.cell? ⟨bq, 1, none⟩ = some (.int .i64 s.B) ∧ wx.cell? ⟨bq, 2, none⟩ = some (.int .i64 s.C) ∧ wx.cell? ⟨bq, 3, none⟩ = some (.int .i64 s.D) ∧ wx.cell? ⟨bq, 4, none⟩ = some (.int .i64 s.K)) ∧ bp < wx.heap.size ∧ bq < wx.heap.size ∧ Below w1.heap.size w1 wx
theorem below_undrew {W w2 : World} (h : Below W.drew.heap.size W.drew w2) : Below W.heap.size W w2 := ⟨h.os, h.tape, h.output, h.size, h.block⟩

def sameN (r s : Nm) : Bool := (r.K == s.K) && eq4 r.A r.B r.C r.D s.A s.B s.C s.D

set_option maxHeartbeats 8000000 in
theorem Same_ok (A B C D K a b c d k : Int) (r s : Nm) (w : World) (HC : Hid (∀ w, Calls Tryd.prog 44 #[nv A B C D K, nv a b c d k] w (Gives (.int .i64 0) w)))
    (HL1 : Hid (∀ w, Calls Tryd.prog 45 #[nv A B C D K] w (Gives r.v w))) (HL2 : Hid (∀ w, Calls Tryd.prog 45 #[nv a b c d k] w (Gives s.v w))) :
    Calls Tryd.prog 29 #[nv A B C D K, nv a b c d k] w (Gives (.tuple #[.bool (sameN r s), .int .i64 0]) w) := by
  go_enter Tryd.func29, Tryd.ntmps29
  go_wp2_with fail
  refine (HC.out _).mono ?_
  rintro e w1 ⟨rfl, hb⟩
  have hw1 : Below w.heap.size w w1 := (by repeat (first | with_reducible exact Below.refl _ _ | with_reducible refine below_al ?_ _ | with_reducible refine below_dN ?_ _ | with_reducible refine Below.drew ?_ | (with_reducible refine Below.setCell ?_ (by simp <;> omega) _) | (with_reducible refine below_via (by assumption) ?_)))
  have bx : Box w1 w.heap.size 23 ⟨A, B, C, D, K⟩ := by
    have h := box_new w A B C D K 23
    first | exact h.below hb (by simp <;> omega) | exact (box_al h _).below hb (by simp <;> omega) | exact (box_al (box_al h _) _).below hb (by simp <;> omega) | exact (box_al (box_al (box_al h _) _) _).below hb (by simp <;> omega)
  have by_ : Box w1 (w.heap.size + 1) 23 ⟨a, b, c, d, k⟩ := by
    have h := box_new (w.alloc (.cells #[.int .i64 A, .int .i64 B, .int .i64 C, .int .i64 D, .int .i64 K] 23)) a b c d k 23
    simp only [World.size_alloc] at h
    first | exact h.below hb (by simp <;> omega) | exact (box_al h _).below hb (by simp <;> omega) | exact (box_al (box_al h _) _).below hb (by simp <;> omega) | exact (box_al (box_al (box_al h _) _) _).below hb (by simp <;> omega)
  obtain ⟨c0, c1, c2, c3, c4⟩ := bx.cell
  obtain ⟨d0, d1, d2, d3, d4⟩ := by_.cell
  have hlt := by_.lt
  have hlt0 := bx.lt
  have HBX := Lib.hid bx
  have HBY := Lib.hid by_
  clear bx by_
  dsimp only at c0 c1 c2 c3 c4 d0 d1 d2 d3 d4
  go_upto_region 4 with fail
  go_cut [7, 8] (fun p q wx => PQ r s w1 p q wx)
  case first =>
    go_region_held3 (fun w' => Below w1.heap.size w1 w' ∧ (∀ b o, b < w1.heap.size → w'.cell? ⟨b, o, none⟩ = w1.cell? ⟨b, o, none⟩)) ((exact (fun h => ⟨h, (bcell h).1⟩) (by repeat (first | with_reducible exact Below.refl _ _ | with_reducible refine below_al ?_ _ | with_reducible refine below_dN ?_ _ | with_reducible refine Below.drew ?_ | (with_reducible refine Below.setCell ?_ (by simp <;> omega) _) | (with_reducible refine below_via (by assumption) ?_))))) (first | (go_at_call 45; (with_reducible refine (HL1.out _).mono ?_); rintro e w2 ⟨rfl, hb2⟩; (try replace hb2 := below_undrew hb2); obtain ⟨hc2, hf2⟩ := bcell hb2; have hz2 := hb2.size; (try simp at hz2); have hz20 : w.heap.size < w2.heap.size := (by omega); have hz21 : w.heap.size + 1 < w2.heap.size := (by omega); (try have hz2a : w1.heap.size < w2.heap.size := (by omega)); (try have hz2b : w1.heap.size + 1 < w2.heap.size := (by omega))) | (go_at_call 45; (with_reducible refine (HL2.out _).mono ?_); rintro e w3 ⟨rfl, hb3⟩; (try replace hb3 := below_undrew hb3); obtain ⟨hc3, hf3⟩ := bcell hb3; have hz3 := hb3.size; (try simp at hz3); (try have hz3a : w1.heap.size < w3.heap.size := (by omega)); (try have hz3b : w1.heap.size + 1 < w3.heap.size := (by omega)); (try have hz3c : w2.heap.size < w3.heap.size := (by omega)); (try have hz3d : w2.heap.size + 1 < w3.heap.size := (by omega))))
    all_goals
      go_wp2_with fail
      go_meet
      refine ⟨_, _, rfl, rfl, ⟨?_, ?_, ?_, ?_, ?_⟩, ⟨?_, ?_, ?_, ?_, ?_⟩, ?_, ?_, (by repeat (first | with_reducible exact Below.refl _ _ | with_reducible refine below_al ?_ _ | with_reducible refine below_dN ?_ _ | with_reducible refine Below.drew ?_ | (with_reducible refine Below.setCell ?_ (by simp <;> omega) _) | (with_reducible refine below_via (by assumption) ?_)))⟩
    all_goals (try go_simp)
    all_goals (first | omega | (refine World.cell?_setCell_same' _ _ _ ?_; go_simp))
  case rest =>
    obtain ⟨bp, bq, rfl, rfl, ⟨p0, p1, p2, p3, p4⟩, ⟨q0, q1, q2, q3, q4⟩, hbp, hbq, hbx⟩ := hcut
    cases hk : (r.K == s.K)
    · go_wp2_with fail
      go_quiet (fail)
      go_wp2
      go_ret2
      exact ⟨by simp [sameN, hk], (by repeat (first | with_reducible exact Below.refl _ _ | with_reducible refine below_al ?_ _ | with_reducible refine below_dN ?_ _ | with_reducible refine Below.drew ?_ | (with_reducible refine Below.setCell ?_ (by simp <;> omega) _) | (with_reducible refine below_via (by assumption) ?_)))⟩
    · go_wp2_with fail
      go_region_held3 (fun w' => Below wc.heap.size wc w' ∧ (∀ b o, b < wc.heap.size → w'.cell? ⟨b, o, none⟩ = wc.cell? ⟨b, o, none⟩)) ((exact (fun h => ⟨h, (bcell h).1⟩) (by repeat (first | with_reducible exact Below.refl _ _ | with_reducible refine below_al ?_ _ | with_reducible refine below_dN ?_ _ | with_reducible refine Below.drew ?_ | (with_reducible refine Below.setCell ?_ (by simp <;> omega) _) | (with_reducible refine below_via (by assumption) ?_))))) (first | (go_at_call 67; refine (coefs_any _ _ _ _ _ _).mono ?_; rintro e w2 ⟨rfl, hb2⟩; (try replace hb2 := below_undrew hb2); obtain ⟨hc2, hf2⟩ := bcell hb2; have hz2 := hb2.size; (try simp at hz2); (try have hz2a : bp < w2.heap.size := (by omega)); (try have hz2b : bq < w2.heap.size := (by omega))))
      all_goals
        go_wp2
        go_ret2
        exact ⟨by simp [sameN, hk], (by repeat (first | with_reducible exact Below.refl _ _ | with_reducible refine below_al ?_ _ | with_reducible refine below_dN ?_ _ | with_reducible refine Below.drew ?_ | (with_reducible refine Below.setCell ?_ (by simp <;> omega) _) | (with_reducible refine below_via (by assumption) ?_)))⟩

set_option maxHeartbeats 2000000 in
theorem Same_bad (A B C D K a b c d k : Int) (w : World) (hq : (chk2 ⟨A, B, C, D, K⟩ ⟨a, b, c, d, k⟩ != 0) = true) :
    Calls Tryd.prog 29 #[nv A B C D K, nv a b c d k] w (Gives (.tuple #[.bool false, .int .i64 (chk2 ⟨A, B, C, D, K⟩ ⟨a, b, c, d, k⟩)]) w) := by
  have HC2 : Hid (∀ w, Calls Tryd.prog 44 #[nv A B C D K, nv a b c d k] w (Gives (.int .i64 (chk2 ⟨A, B, C, D, K⟩ ⟨a, b, c, d, k⟩)) w)) := fun w => checked_any A B C D K a b c d k w
  generalize chk2 ⟨A, B, C, D, K⟩ ⟨a, b, c, d, k⟩ = q at *
  go_enter Tryd.func29, Tryd.ntmps29
  go_wp2_with fail
  refine (HC2.out _).mono ?_
  rintro e w1 ⟨rfl, hb⟩
  obtain ⟨hc, hf⟩ := bcell hb
  go_wp2_with fail
  go_ret2
  exact ⟨rfl, (by repeat (first | with_reducible exact Below.refl _ _ | with_reducible refine below_al ?_ _ | with_reducible refine below_dN ?_ _ | with_reducible refine Below.drew ?_ | (with_reducible refine Below.setCell ?_ (by simp <;> omega) _) | (with_reducible refine below_via (by assumption) ?_)))⟩

theorem chk2_ok {x y : Nm} (h : chk2 x y = 0) : x.chk = 0 ∧ y.chk = 0 := by
  unfold chk2 at h
  split at h
  · exact ⟨by assumption, h⟩
  · contradiction
theorem right_least {A B C D K : Int} (h : chk A B C D K = 0) : Hid (∀ w, Calls Tryd.prog 45 #[nv A B C D K] w (Gives (Nm.least ⟨A, B, C, D, K⟩).v w)) := by
  have := chk_ok h
  exact fun w => least_any A B C D K w (right_wide h) (by omega)
theorem checked_zero {A B C D K a b c d k : Int} (h : chk2 ⟨A, B, C, D, K⟩ ⟨a, b, c, d, k⟩ = 0) : Hid (∀ w, Calls Tryd.prog 44 #[nv A B C D K, nv a b c d k] w (Gives (.int .i64 0) w)) := by
  intro w
  have h1 := checked_any A B C D K a b c d k w
  have h2 : (if chk A B C D K = 0 then chk a b c d k else chk A B C D K) = 0 := h
  rw [h2] at h1
  exact h1
theorem Same_any (A B C D K a b c d k : Int) (w : World) :
    Calls Tryd.prog 29 #[nv A B C D K, nv a b c d k] w (Gives (.tuple #[.bool (if chk2 ⟨A, B, C, D, K⟩ ⟨a, b, c, d, k⟩ = 0 then sameN (Nm.least ⟨A, B, C, D, K⟩) (Nm.least ⟨a, b, c, d, k⟩) else false), .int .i64 (chk2 ⟨A, B, C, D, K⟩ ⟨a, b, c, d, k⟩)]) w) := by
  by_cases h : chk2 ⟨A, B, C, D, K⟩ ⟨a, b, c, d, k⟩ = 0
  · rw [if_pos h, h]
    obtain ⟨h1, h2⟩ := chk2_ok h
    exact Same_ok A B C D K a b c d k _ _ w (checked_zero h) (right_least h1) (right_least h2)
  · rw [if_neg h]
    exact Same_bad A B C D K a b c d k w (bne_iff_ne.2 h)
end Go.Proofs.YtohadcaapmnlaaaDoor
