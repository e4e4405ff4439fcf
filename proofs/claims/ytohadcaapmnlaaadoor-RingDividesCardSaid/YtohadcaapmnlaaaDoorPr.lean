
/- The text of a number. -/
import Derived.Test.YtohadcaapmnlaaaDoorPt
import Derived.Test.YtohadcaapmnlaaaDoorPh
set_option linter.all false
set_option maxRecDepth 100000
namespace Go.Proofs.YtohadcaapmnlaaaDoor
open Go.RowKit Go.Shelf
attribute [local go_sem] run_field_num

def printT (r : Nm) : ByteArray := if r.K = 0 then termsT r else { data := #[40] } ++ termsT r ++ { data := #[41, 47, 114] } ++ bytesOf r.K
theorem termsT_size (x : Nm) (hx : ∀ k, -9223372036854775808 ≤ coefAt x k ∧ coefAt x k ≤ 9223372036854775807) : (termsT x).size ≤ 96 := by
  have h := textU_size x hx 4
  unfold termsT
  split
  · decide
  · omega

set_option maxHeartbeats 4000000 in
theorem Print_ok (A B C D K : Int) (r : Nm) (w : World) (hx : ∀ k, -9223372036854775808 ≤ coefAt r k ∧ coefAt r k ≤ 9223372036854775807) (hK : 0 ≤ r.K ∧ r.K ≤ 1000) (hN : NamesAre w) (htab : Lib.TabIs Tryd.prog w "internal/strconv.uint64pow10" .u64 Lib.pow10Tab)
    (HC : Hid (∀ w, Calls Tryd.prog 56 #[nv A B C D K] w (Gives (.int .i64 0) w)))
    (HL : Hid (∀ w, Calls Tryd.prog 45 #[nv A B C D K] w (Gives r.v w))) :
    Calls Tryd.prog 31 #[nv A B C D K] w (Gives (.tuple #[.string (printT r), .int .i64 0]) w) := by
  have HT : Hid (∀ w', Below w.heap.size w w' → Calls Tryd.prog 69 #[.agg #[.int .i64 r.A, .int .i64 r.B, .int .i64 r.C, .int .i64 r.D]] w' (Gives (.string (termsT r)) w')) :=
    fun w' hb => printTerms_any r w' hx (hN.below hb) (Lib.tabBelow_of_tabIs htab w' hb)
  have HI : Hid (∀ w', Below w.heap.size w w' → Calls Tryd.prog 70 #[.int .i64 r.K] w' (Gives (.string (bytesOf r.K)) w')) := fun w' hb => by
    refine (Tryd.strconv_Itoa r.K (by omega) (by omega) _ (Lib.tabBelow_of_tabIs htab w' hb)).mono ?_
    rintro e w1 ⟨rfl, k1, os1, hg⟩
    exact ⟨rfl, hg ▸ below_grow _ _ _⟩
  have hs := termsT_size r hx
  have hl := Lib.itoa_length_le r.K (by omega) (by omega)
  have hp : Hid (printT r = if r.K = 0 then termsT r else { data := #[40] } ++ termsT r ++ { data := #[41, 47, 114] } ++ bytesOf r.K) := rfl
  generalize termsT r = t at *
  have o1 : ¬ 9223372036854775807 < 1 + t.size := by omega
  have o2 : ¬ 9223372036854775807 < 1 + t.size + 3 := by omega
  have o3 : ¬ 9223372036854775807 < 1 + t.size + 3 + (Lib.itoa r.K).length := by omega
  clear hx hN htab hs hl
  go_enter Tryd.func31, Tryd.ntmps31
  go_wp2_with fail
  refine (HC.out _).mono ?_
  rintro e w1 ⟨rfl, hb⟩
  have hw1 : Below w.heap.size w w1 := (by repeat (first | with_reducible exact Below.refl _ _ | with_reducible refine below_al ?_ _ | with_reducible refine below_dN ?_ _ | with_reducible refine Below.drew ?_ | (with_reducible refine Below.setCell ?_ (by simp <;> omega) _) | (with_reducible refine below_via (by assumption) ?_)))
  have bx : Box w1 w.heap.size 23 ⟨A, B, C, D, K⟩ := by
    have h := box_new w A B C D K 23
    exact h.below hb (by simp)
  obtain ⟨c0, c1, c2, c3, c4⟩ := bx.cell
  have hlt0 := bx.lt
  clear bx
  go_wp2_with fail
  refine (HL.out _).mono ?_
  rintro e w2 ⟨rfl, hb2⟩
  have hw2 : Below w.heap.size w w2 := below_via hb2 hw1
  go_wp2_with fail
  obtain ⟨V, hV⟩ : ∃ V, w2.alloc (Obj.cells #[.int .i64 r.A, .int .i64 r.B, .int .i64 r.C, .int .i64 r.D, .int .i64 r.K] 62) = V := ⟨_, rfl⟩
  have hVw : Below w.heap.size w V := by rw [← hV]; exact (by repeat (first | with_reducible exact Below.refl _ _ | with_reducible refine below_al ?_ _ | with_reducible refine below_dN ?_ _ | with_reducible refine Below.drew ?_ | (with_reducible refine Below.setCell ?_ (by simp <;> omega) _) | (with_reducible refine below_via (by assumption) ?_)))
  have hVb : Box V w2.heap.size 62 r := by rw [← hV]; exact heap_alloc_new w2 _
  rw [hV]
  clear hV
  refine (coefs_any _ _ _ _ _ _).mono ?_
  rintro e w3 ⟨rfl, hb3⟩
  have hw3 : Below w.heap.size w w3 := below_via hb3 hVw
  have hVb3 := hVb.below hb3 hVb.lt
  go_wp2_with fail
  refine (HT.out _ hw3).mono ?_
  rintro e w4 ⟨rfl, hb4⟩
  have hw4 : Below w.heap.size w w4 := below_via hb4 hw3
  have hVb4 := hVb3.below hb4 hVb3.lt
  obtain ⟨k0, k1, k2, k3, k4⟩ := hVb4.cell
  by_cases hk : r.K = 0
  · have hkb : (r.K == 0) = true := by simp [hk]
    rw [if_pos hk] at hp
    go_wp2_with fail
    go_ret2
    rw [hp.out]
    exact ⟨rfl, hw4⟩
  · have hkb : (r.K == 0) = false := by simp [hk]
    rw [if_neg hk] at hp
    go_wp2_with (go_at_call 70; (with_reducible refine (HI.out _ hw4).mono ?_); rintro e w5 ⟨rfl, hb5⟩)
    go_ret2
    rw [hp.out]
    exact ⟨rfl, below_via hb5 hw4⟩

set_option maxHeartbeats 2000000 in
theorem Print_bad (A B C D K : Int) (w : World) (hq : (chk A B C D K != 0) = true) :
    Calls Tryd.prog 31 #[nv A B C D K] w (Gives (.tuple #[.string { data := #[] }, .int .i64 (chk A B C D K)]) w) := by
  have HC2 : Hid (∀ w, Calls Tryd.prog 56 #[nv A B C D K] w (Gives (.int .i64 (chk A B C D K)) w)) := fun w => check_any A B C D K w
  generalize chk A B C D K = q at *
  go_enter Tryd.func31, Tryd.ntmps31
  go_wp2_with fail
  refine (HC2.out _).mono ?_
  rintro e w1 ⟨rfl, hb⟩
  obtain ⟨hc, hf⟩ := bcell hb
  go_wp2_with fail
  go_ret2
  exact ⟨rfl, (by repeat (first | with_reducible exact Below.refl _ _ | with_reducible refine below_al ?_ _ | with_reducible refine below_dN ?_ _ | with_reducible refine Below.drew ?_ | (with_reducible refine Below.setCell ?_ (by simp <;> omega) _) | (with_reducible refine below_via (by assumption) ?_)))⟩
theorem inb_coefs {r : Nm} (h : r.inb 1073741824 = true) : ∀ k, -9223372036854775808 ≤ coefAt r k ∧ coefAt r k ≤ 9223372036854775807 := by
  simp [Nm.inb, inb] at h
  intro k
  unfold coefAt
  split <;> omega
theorem Print_any (A B C D K : Int) (w : World) (hN : NamesAre w) (htab : Lib.TabIs Tryd.prog w "internal/strconv.uint64pow10" .u64 Lib.pow10Tab) :
    Calls Tryd.prog 31 #[nv A B C D K] w (Gives (.tuple #[.string (if chk A B C D K = 0 then printT (Nm.least ⟨A, B, C, D, K⟩) else { data := #[] }), .int .i64 (chk A B C D K)]) w) := by
  by_cases h : chk A B C D K = 0
  · rw [if_pos h, h]
    have hk := chk_ok h
    have hin : (Nm.least ⟨A, B, C, D, K⟩).inb 1073741824 = true := least_inb (by omega) (by simp [Nm.inb, inb]; omega)
    have hK := least_K (x := ⟨A, B, C, D, K⟩) (by show 0 ≤ K; omega)
    have hK2 : (Nm.least ⟨A, B, C, D, K⟩).K ≤ K := hK.2
    exact Print_ok A B C D K _ w (inb_coefs hin) (by omega) hN htab (fun w => by have h1 := check_any A B C D K w; rw [h] at h1; exact h1) (right_least h)
  · rw [if_neg h]
    exact Print_bad A B C D K w (bne_iff_ne.2 h)
end Go.Proofs.YtohadcaapmnlaaaDoor
