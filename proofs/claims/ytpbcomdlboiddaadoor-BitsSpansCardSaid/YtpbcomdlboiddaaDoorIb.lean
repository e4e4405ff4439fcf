
/- BitsMembers: for all lists of rows, columns and rows. -/
import Derived.Test.YtpbcomdlboiddaaDoorGk
import Derived.Test.YtpbcomdlboiddaaDoorGi
set_option linter.all false
set_option maxRecDepth 100000
namespace Go.Proofs.YtpbcomdlboiddaaDoor
open Go.RowKit

theorem bt_great (xs : List Int) (p : Option Addr) (c : Nat) (w : World) : Calls Tryd.prog 16 #[.slice p xs.length c] w (Gives (.bool (decide (40 < xs.length))) w) := by
  by_cases h : 40 < xs.length
  · have h2 : (40 : Int) < xs.length := by omega
    rw [decide_eq_true h]
    clear h
    go_enter Tryd.func16, Tryd.ntmps16
    go_wp2
    go_ret
    exact ⟨rfl, Below.refl _ _⟩
  · have h2 : ¬ (40 : Int) < xs.length := by omega
    rw [decide_eq_false h]
    clear h
    go_enter Tryd.func16, Tryd.ntmps16
    go_wp2
    go_ret
    exact ⟨rfl, Below.refl _ _⟩
theorem bt_Equal_self (xs : List Int) (p q : Option Addr) (ca cb : Nat) (w : World) (h : Ints w p xs) (hy : Ints w q xs) (hm : xs.length ≤ 9223372036854775807) :
    Calls Tryd.prog 30 #[.slice p xs.length ca, .slice q xs.length cb] w (Gives (.bool true) w) := by
  have := bt_Equal xs xs p q ca cb w h hy hm hm
  simpa using this
set_option maxHeartbeats 8000000 in
theorem BitsMembers_any (xs ys : List Int) (n row : Int) (p q : Option Addr) (ca cb : Nat) (w : World) (h : Ints w p xs) (hy : Ints w q ys) (hp : p = none → ca = 0) (hq : q = none → cb = 0) (hT : Tabbed w) :
    Calls Tryd.prog 4 #[.slice p xs.length ca, .slice q ys.length cb, .int .i64 n, .int .i64 row] w (Gives (.bool true) w) := by
  have HT := Lib.hid hT
  have HG1 := Lib.hid (fun w' => bt_great xs p ca w')
  have HG2 := Lib.hid (fun w' => bt_great ys q cb w')
  have HA : Hid (∀ w', Below w.heap.size w w' → Calls Tryd.prog 17 #[] w' (Gives (.bool true) w')) := fun w' hb => bt_awake w' (HT.out.below hb)
  have HL : Hid (Has w [(p, xs), (q, ys)]) := Has.cons (Has.cons (fun _ h => by cases h) hy) h
  clear h hy hT
  by_cases h1 : 40 < xs.length
  · rw [decide_eq_true h1] at HG1
    clear h1
    go_enter Tryd.func4, Tryd.ntmps4
    go_wp2_with fail
    refine (HG1.out _).mono ?_
    rintro e w1 ⟨rfl, hb1⟩
    go_wp2_with fail
    refine (HA.out _ hb1).mono ?_
    rintro e w3 ⟨rfl, hb3⟩
    have hw3 := below_via hb3 hb1
    clear hb3 hb1
    go_wp2_with fail
    go_ret
    exact ⟨rfl, hw3⟩
  · rw [decide_eq_false h1] at HG1
    by_cases h2 : 40 < ys.length
    · rw [decide_eq_true h2] at HG2
      clear h2
      go_enter Tryd.func4, Tryd.ntmps4
      go_wp2_with fail
      refine (HG1.out _).mono ?_
      rintro e w1 ⟨rfl, hb1⟩
      go_wp2_with fail
      refine (HG2.out _).mono ?_
      rintro e w2 ⟨rfl, hb2⟩
      have hw2 := below_via hb2 hb1
      clear hb2 hb1
      go_wp2_with fail
      refine (HA.out _ hw2).mono ?_
      rintro e w3 ⟨rfl, hb3⟩
      have hw3 := below_via hb3 hw2
      clear hb3 hw2
      go_wp2_with fail
      go_ret
      exact ⟨rfl, hw3⟩
    · rw [decide_eq_false h2] at HG2
      have hxl : xs.length ≤ 40 := by omega
      have hyl : ys.length ≤ 40 := by omega
      clear h1 h2
      have HP := Lib.hid hp
      have HQ := Lib.hid hq
      clear hp hq
      go_enter Tryd.func4, Tryd.ntmps4
      go_wp2_with fail
      refine (HG1.out _).mono ?_
      rintro e w1 ⟨rfl, hb1⟩
      go_wp2_with fail
      refine (HG2.out _).mono ?_
      rintro e w2 ⟨rfl, hb2⟩
      have hw2 := below_via hb2 hb1
      have HL2 := Lib.hid (HL.out.below hw2)
      clear hb2 hb1 HL HG1 HG2
      go_wp2_with fail
      refine (bt_Clone xs p ca _ (HL2.out.get (by simp)) (by omega)).mono ?_
      rintro e w3 ⟨vc, rfl, hm, hb⟩
      obtain ⟨pc, cc, rfl, hi⟩ := hm.ints
      have hw3 : Below w.heap.size w w3 := below_via hb hw2
      have HL3 := Lib.hid ((HL2.out.below hb).cons hi)
      clear hm hb hi hw2 HL2
      go_wp2_with fail
      refine (bt_Clone ys q cb _ (HL3.out.get (by simp)) (by omega)).mono ?_
      rintro e w4 ⟨vd, rfl, hm, hb⟩
      obtain ⟨pd, cd, rfl, hi⟩ := hm.ints
      have hw4 : Below w.heap.size w w4 := below_via hb hw3
      have HL4 := Lib.hid ((HL3.out.below hb).cons hi)
      clear hm hb hi hw3 HL3
      go_wp2_with fail
      refine (rf_Same xs ys n p q ca cb _ (HL4.out.get (by simp)) (HL4.out.get (by simp)) HP.out HQ.out (by omega) (by omega)).mono ?_
      rintro e w5 ⟨rfl, hb⟩
      have hw5 : Below w.heap.size w w5 := below_via hb hw4
      have HL5 := Lib.hid (HL4.out.below hb)
      clear hb hw4 HL4
      go_wp2_with fail
      refine (rf_Member xs n row p ca _ (HL5.out.get (by simp)) HP.out (by omega)).mono ?_
      rintro e w6 ⟨rfl, hb⟩
      have hw6 : Below w.heap.size w w6 := below_via hb hw5
      have HL6 := Lib.hid (HL5.out.below hb)
      clear hb hw5 HL5
      go_wp2_with fail
      refine (rf_Which xs n row p ca _ (HL6.out.get (by simp)) HP.out (by omega)).mono ?_
      rintro e w7 ⟨rfl, hb⟩
      have hw7 : Below w.heap.size w w7 := below_via hb hw6
      have HL7 := Lib.hid (HL6.out.below hb)
      clear hb hw6 HL6
      go_wp2_with fail
      refine (rf_Meet xs ys n p q ca cb _ (HL7.out.get (by simp)) (HL7.out.get (by simp)) HP.out HQ.out (by omega) (by omega)).mono ?_
      rintro e w8 ⟨vm, rfl, hb, hm⟩
      obtain ⟨pm, cm, rfl, hi⟩ := hm.ints
      have hw8 : Below w.heap.size w w8 := below_via hb hw7
      have HL8 := Lib.hid ((HL7.out.below hb).cons hi)
      rw [casts_len]
      clear hb hm hi hw7 HL7
      go_wp2_with fail
      refine (bt_Same xs ys n pc pd cc cd _ (HL8.out.get (by simp)) (HL8.out.get (by simp)) (by omega) (by omega)).mono ?_
      rintro e w9 ⟨rfl, hb⟩
      have hw9 : Below w.heap.size w w9 := below_via hb hw8
      have HL9 := Lib.hid (HL8.out.below hb)
      clear hb hw8 HL8
      go_wp2_with fail
      refine (bt_Member xs n pc cc _ (HL9.out.get (by simp)) (by omega) row).mono ?_
      rintro e w10 ⟨rfl, hb⟩
      have hw10 : Below w.heap.size w w10 := below_via hb hw9
      have HL10 := Lib.hid (HL9.out.below hb)
      clear hb hw9 HL9
      go_wp2_with fail
      refine (bt_Which xs n pc cc _ (HL10.out.get (by simp)) (by omega) row).mono ?_
      rintro e w11 ⟨rfl, hb⟩
      have hw11 : Below w.heap.size w w11 := below_via hb hw10
      have HL11 := Lib.hid (HL10.out.below hb)
      clear hb hw10 HL10
      go_wp2_with fail
      refine (bt_Meet xs ys n pc pd cc cd _ (HL11.out.get (by simp)) (HL11.out.get (by simp)) (by omega) (by omega)).mono ?_
      rintro e w12 ⟨vz, rfl, hb, hm⟩
      have hw12 : Below w.heap.size w w12 := below_via hb hw11
      have HM := Lib.hid hm
      have HB := Lib.hid hb
      have hml : (MeetM xs ys n).length ≤ 24 := by
        unfold MeetM
        split
        · rename_i h0
          obtain ⟨hx0, hy0⟩ := checkedM_ok h0
          have R := right_of hx0
          refine Nat.le_trans (nullM_len ?_ R.h16) (by have := R.h16; omega)
          exact reducedM_len (spanned_ok (by
            intro x hx
            rcases List.mem_append.1 hx with hx | hx
            · exact Nat.lt_of_lt_of_le (nullM_lt x hx) (pow16 (by have := R.h16; omega))
            · exact Nat.lt_of_lt_of_le (nullM_lt x hx) (pow16 (by have := R.h16; omega))) (by
            have h1 := nullM_len R.len R.h16
            have h2 := nullM_len (right_of hy0).len R.h16
            have := R.h16
            rw [List.length_append]; omega)).1
        · simp
      clear hb hm
      generalize (SameM xs ys n).1 = z1 at *
      generalize (SameM xs ys n).2 = z2 at *
      generalize (MemberM xs n row).1 = z3 at *
      generalize (MemberM xs n row).2 = z4 at *
      generalize (WhichM xs n row).1 = z5 at *
      generalize (WhichM xs n row).2 = z6 at *
      generalize checkedM xs ys n = z7 at *
      generalize MeetM xs ys n = z8 at *
      go_wp2_with fail
      have hd : decide (z7 = z7 ∧ z8 = z8) = true := by simp
      have htold := bt_told vz (.slice pm z8.length cm) z8 z8 w11.heap.size z7 z7 w12 HM.out pm cm ((HL11.out.below HB.out).get (by simp)) (by omega) (by omega) HB.out.size
      rw [hd] at htold
      refine htold.mono ?_
      rintro e w13 ⟨rfl, hk⟩
      have hw13 : Below w.heap.size w w13 := hk _ _ hw12 hw11.size
      have hb13 : Below w11.heap.size w11 w13 := hk _ _ HB.out (Nat.le_refl _)
      have HL13 := Lib.hid (HL11.out.below hb13)
      clear hk hb13 htold hd HM HB HL11 hw12 hw11 hml
      go_wp2_with fail
      refine (bt_Equal_self xs pc p cc ca _ (HL13.out.get (by simp)) (HL13.out.get (by simp)) (by omega)).mono ?_
      rintro e w14 ⟨rfl, hb⟩
      have hw14 : Below w.heap.size w w14 := below_via hb hw13
      have HL14 := Lib.hid (HL13.out.below hb)
      clear hb hw13 HL13
      go_wp2_with fail
      refine (bt_Equal_self ys pd q cd cb _ (HL14.out.get (by simp)) (HL14.out.get (by simp)) (by omega)).mono ?_
      rintro e w15 ⟨rfl, hb⟩
      have hw15 : Below w.heap.size w w15 := below_via hb hw14
      clear hb hw14 HL14
      go_wp2_with fail
      refine (HA.out _ hw15).mono ?_
      rintro e w16 ⟨rfl, hb⟩
      have hw16 := below_via hb hw15
      clear hb hw15
      go_wp2_with fail
      go_ret
      exact ⟨rfl, hw16⟩
end Go.Proofs.YtpbcomdlboiddaaDoor
