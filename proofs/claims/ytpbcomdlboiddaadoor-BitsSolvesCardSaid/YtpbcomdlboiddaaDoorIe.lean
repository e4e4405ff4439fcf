
/- BitsSolves: for all lists of rows, columns, right sides and rows. -/
import Derived.Test.YtpbcomdlboiddaaDoorIb
import Derived.Test.YtpbcomdlboiddaaDoorId
set_option linter.all false
set_option maxRecDepth 100000
namespace Go.Proofs.YtpbcomdlboiddaaDoor
open Go.RowKit

set_option maxHeartbeats 8000000 in
theorem BitsSolves_any (xs : List Int) (n b x : Int) (p : Option Addr) (ca : Nat) (w : World) (h : Ints w p xs) (hp : p = none → ca = 0) (hT : Tabbed w) :
    Calls Tryd.prog 5 #[.slice p xs.length ca, .int .i64 n, .int .i64 b, .int .i64 x] w (Gives (.bool true) w) := by
  have HT := Lib.hid hT
  have HG1 := Lib.hid (fun w' => bt_great xs p ca w')
  have HA : Hid (∀ w', Below w.heap.size w w' → Calls Tryd.prog 17 #[] w' (Gives (.bool true) w')) := fun w' hb => bt_awake w' (HT.out.below hb)
  have HL : Hid (Has w [(p, xs)]) := Has.cons (fun _ h => by cases h) h
  clear h hT
  by_cases h1 : 40 < xs.length
  · rw [decide_eq_true h1] at HG1
    clear h1
    go_enter Tryd.func5, Tryd.ntmps5
    go_wp2_with fail
    refine (HG1.out _).mono ?_
    rintro e w1 ⟨rfl, hb1⟩
    go_wp2_with fail
    refine (HA.out _ hb1).mono ?_
    rintro e w3 ⟨rfl, hb3⟩
    have hw3 := below_via hb3 hb1
    clear hb3 hb1
    go_wp2_with fail
    go_ret
    exact ⟨rfl, hw3⟩
  · rw [decide_eq_false h1] at HG1
    have hxl : xs.length ≤ 40 := by omega
    clear h1
    have HP := Lib.hid hp
    clear hp
    go_enter Tryd.func5, Tryd.ntmps5
    go_wp2_with fail
    refine (HG1.out _).mono ?_
    rintro e w2 ⟨rfl, hw2⟩
    have HL2 := Lib.hid (HL.out.below hw2)
    clear HL HG1
    go_wp2_with fail
    refine (bt_Clone xs p ca _ (HL2.out.get (by simp)) (by omega)).mono ?_
    rintro e w3 ⟨vc, rfl, hm, hb⟩
    obtain ⟨pc, cc, rfl, hi⟩ := hm.ints
    have hw3 : Below w.heap.size w w3 := below_via hb hw2
    have HL3 := Lib.hid ((HL2.out.below hb).cons hi)
    clear hm hb hi hw2 HL2
    go_wp2_with fail
    refine (rf_Solve xs n b p ca _ (HL3.out.get (by simp)) HP.out (by omega)).mono ?_
    rintro e w5 ⟨rfl, hb⟩
    have hw5 : Below w.heap.size w w5 := below_via hb hw3
    have HL5 := Lib.hid (HL3.out.below hb)
    clear hb hw3 HL3
    go_wp2_with fail
    refine (rf_Apply xs n x p ca _ (HL5.out.get (by simp)) (by omega)).mono ?_
    rintro e w6 ⟨rfl, hb⟩
    have hw6 : Below w.heap.size w w6 := below_via hb hw5
    have HL6 := Lib.hid (HL5.out.below hb)
    clear hb hw5 HL5
    go_wp2_with fail
    refine (bt_Solve xs n pc cc _ (HL6.out.get (by simp)) (by omega) b).mono ?_
    rintro e w7 ⟨rfl, hb⟩
    have hw7 : Below w.heap.size w w7 := below_via hb hw6
    have HL7 := Lib.hid (HL6.out.below hb)
    clear hb hw6 HL6
    go_wp2_with fail
    refine (bt_Apply xs n x pc cc _ (HL7.out.get (by simp)) (by omega)).mono ?_
    rintro e w8 ⟨rfl, hb⟩
    have hw8 : Below w.heap.size w w8 := below_via hb hw7
    have HL8 := Lib.hid (HL7.out.below hb)
    clear hb hw7 HL7
    generalize (SolveM xs n b).1 = z1 at *
    generalize (SolveM xs n b).2 = z2 at *
    generalize (ApplyM xs n x).1 = z3 at *
    generalize (ApplyM xs n x).2 = z4 at *
    go_wp2_with fail
    refine (bt_Equal_self xs pc p cc ca _ (HL8.out.get (by simp)) (HL8.out.get (by simp)) (by omega)).mono ?_
    rintro e w14 ⟨rfl, hb⟩
    have hw14 : Below w.heap.size w w14 := below_via hb hw8
    clear hb hw8 HL8
    go_wp2_with fail
    refine (HA.out _ hw14).mono ?_
    rintro e w16 ⟨rfl, hb⟩
    have hw16 := below_via hb hw14
    clear hb hw14
    go_wp2_with fail
    go_ret
    exact ⟨rfl, hw16⟩
end Go.Proofs.YtpbcomdlboiddaaDoor
