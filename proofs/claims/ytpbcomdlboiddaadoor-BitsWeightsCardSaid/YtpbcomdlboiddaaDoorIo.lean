
/- BitsWeights: for all lists of rows, columns and rows. -/
import Derived.Test.YtpbcomdlboiddaaDoorIb
import Derived.Test.YtpbcomdlboiddaaDoorIn
set_option linter.all false
set_option maxRecDepth 100000
namespace Go.Proofs.YtpbcomdlboiddaaDoor
open Go.RowKit

theorem weights_len (xs : List Int) (n : Int) : (WeightsM xs n).length ≤ 17 := by
  unfold WeightsM
  split
  · rename_i hc
    have := (right_of hc).h16
    rw [countL_len _ _ _ _ rfl]; omega
  · exact Nat.zero_le _
set_option maxHeartbeats 8000000 in
theorem BitsWeights_any (xs : List Int) (n row x : Int) (hx : x < 9223372036854775808) (p : Option Addr) (ca : Nat) (w : World) (h : Ints w p xs) (hp : p = none → ca = 0) (hT : Tabbed w) :
    Calls Tryd.prog 7 #[.slice p xs.length ca, .int .i64 n, .int .i64 row, .int .i64 x] w (Gives (.bool true) w) := by
  have HT := Lib.hid hT
  have HG1 := Lib.hid (fun w' => bt_great xs p ca w')
  have HA : Hid (∀ w', Below w.heap.size w w' → Calls Tryd.prog 17 #[] w' (Gives (.bool true) w')) := fun w' hb => bt_awake w' (HT.out.below hb)
  have HL : Hid (Has w [(p, xs)]) := Has.cons (fun _ h => by cases h) h
  clear h hT
  by_cases h1 : 40 < xs.length
  · rw [decide_eq_true h1] at HG1
    clear h1
    go_enter Tryd.func7, Tryd.ntmps7
    go_wp2_with fail
    refine (HG1.out _).mono ?_
    rintro e w1 ⟨rfl, hb1⟩
    go_wp2_with fail
    refine (HA.out _ hb1).mono ?_
    rintro e w3 ⟨rfl, hb3⟩
    have hw3 := below_via hb3 hb1
    clear hb3 hb1
    go_wp2_with fail
    go_ret
    exact ⟨rfl, hw3⟩
  · rw [decide_eq_false h1] at HG1
    have hxl : xs.length ≤ 40 := by omega
    clear h1
    have HP := Lib.hid hp
    have hwl := weights_len xs n
    have HW1 : Hid (∀ w', Calls Tryd.prog 51 #[.int .i64 x] w' (Gives (.tuple #[.int .i64 ((WeightM x).1 : Int), .int .i64 (WeightM x).2]) w') ∧ Calls Tryd.prog 54 #[.int .i64 x] w' (Gives (.tuple #[.int .i64 ((WeightM x).1 : Int), .int .i64 (WeightM x).2]) w')) := fun w' => ⟨rf_Weight x hx w', bt_Weight x hx w'⟩
    have HW2 : Hid (∀ (pa : Option Addr) (c : Nat) w', Ints w' pa xs → Below w.heap.size w w' → (((pa = none → c = 0) → Calls Tryd.prog 52 #[.slice pa xs.length c, .int .i64 n] w' (ListE (WeightsM xs n) (checkM xs n) w')) ∧ Calls Tryd.prog 55 #[.slice pa xs.length c, .int .i64 n] w' (ListE (WeightsM xs n) (checkM xs n) w'))) := fun pa c w' h1 hb => ⟨fun hc => rf_Weights xs n pa c w' h1 hc (by omega), bt_Weights xs n pa c w' h1 (by omega) (HT.out.below hb).1 (HT.out.below hb).2⟩
    have HW3 : Hid (∀ (pa : Option Addr) (c : Nat) w', Ints w' pa xs → Below w.heap.size w w' → (((pa = none → c = 0) → Calls Tryd.prog 53 #[.slice pa xs.length c, .int .i64 n, .int .i64 row] w' (Gives (.tuple #[.int .i64 ((CosetM xs n row).1 : Int), .int .i64 (CosetM xs n row).2]) w')) ∧ Calls Tryd.prog 56 #[.slice pa xs.length c, .int .i64 n, .int .i64 row] w' (Gives (.tuple #[.int .i64 ((CosetM xs n row).1 : Int), .int .i64 (CosetM xs n row).2]) w'))) := fun pa c w' h1 hb => ⟨fun hc => rf_Coset xs n row pa c w' h1 hc (by omega), bt_Coset xs n row pa c w' h1 (by omega) (HT.out.below hb).1 (HT.out.below hb).2⟩
    clear hp hx
    generalize (WeightM x).1 = z1 at *
    generalize (WeightM x).2 = e1 at *
    generalize WeightsM xs n = z2 at *
    generalize checkM xs n = e2 at *
    generalize (CosetM xs n row).1 = z3 at *
    generalize (CosetM xs n row).2 = e3 at *
    go_enter Tryd.func7, Tryd.ntmps7
    go_wp2_with fail
    refine (HG1.out _).mono ?_
    rintro e w2 ⟨rfl, hw2⟩
    have HL2 := Lib.hid (HL.out.below hw2)
    clear HL HG1
    go_wp2_with fail
    refine (bt_Clone xs p ca _ (HL2.out.get (by simp)) (by omega)).mono ?_
    rintro e w3 ⟨vc, rfl, hm, hb⟩
    obtain ⟨pc, cc, rfl, hi⟩ := hm.ints
    have hw3 : Below w.heap.size w w3 := below_via hb hw2
    have HL3 := Lib.hid ((HL2.out.below hb).cons hi)
    clear hm hb hi hw2 HL2
    go_wp2_with fail
    refine ((HW1.out _).1).mono ?_
    rintro e w4 ⟨rfl, hb⟩
    have hw4 : Below w.heap.size w w4 := below_via hb hw3
    have HL4 := Lib.hid (HL3.out.below hb)
    clear hb hw3 HL3
    go_wp2_with fail
    refine ((HW2.out p ca _ (HL4.out.get (by simp)) hw4).1 HP.out).mono ?_
    rintro e w5 ⟨va, rfl, hb, hm⟩
    obtain ⟨pm, cm, rfl, hi⟩ := hm.ints
    have hw5 : Below w.heap.size w w5 := below_via hb hw4
    have HL5 := Lib.hid ((HL4.out.below hb).cons hi)
    rw [casts_len]
    clear hb hm hi hw4 HL4
    go_wp2_with fail
    refine ((HW3.out p ca _ (HL5.out.get (by simp)) hw5).1 HP.out).mono ?_
    rintro e w6 ⟨rfl, hb⟩
    have hw6 : Below w.heap.size w w6 := below_via hb hw5
    have HL6 := Lib.hid (HL5.out.below hb)
    clear hb hw5 HL5
    go_wp2_with fail
    refine ((HW1.out _).2).mono ?_
    rintro e w7 ⟨rfl, hb⟩
    have hw7 : Below w.heap.size w w7 := below_via hb hw6
    have HL7 := Lib.hid (HL6.out.below hb)
    clear hb hw6 HL6
    go_wp2_with fail
    refine ((HW2.out pc cc _ (HL7.out.get (by simp)) hw7).2).mono ?_
    rintro e w8 ⟨vz, rfl, hb, hm⟩
    have hw8 : Below w.heap.size w w8 := below_via hb hw7
    have HB8 := Lib.hid hb
    have HM8 := Lib.hid hm
    clear hb hm
    go_wp2_with fail
    refine ((HW3.out pc cc _ ((HL7.out.below HB8.out).get (by simp)) hw8).2).mono ?_
    rintro e w9 ⟨rfl, hb⟩
    have hw9 : Below w.heap.size w w9 := below_via hb hw8
    have HB9 := Lib.hid (below_via hb HB8.out)
    have HM9 := Lib.hid (Mine.call HM8.out hb)
    clear hb hw8 HB8 HM8 HW1 HW2 HW3
    go_wp2_with fail
    refine (bt_tolds_self vz z2 w7.heap.size e2 w9 HM9.out pm cm ((HL7.out.below HB9.out).get (by simp)) (by omega) HB9.out.size).mono ?_
    rintro e w10 ⟨rfl, hk, _⟩
    have hw10 : Below w.heap.size w w10 := hk _ _ hw9 hw7.size
    have hb10 : Below w7.heap.size w7 w10 := hk _ _ HB9.out (Nat.le_refl _)
    have HL10 := Lib.hid (HL7.out.below hb10)
    clear hk hb10 HM9 HB9 HL7 hw9 hw7
    go_wp2_with fail
    refine (bt_Equal_self xs pc p cc ca _ (HL10.out.get (by simp)) (HL10.out.get (by simp)) (by omega)).mono ?_
    rintro e w14 ⟨rfl, hb⟩
    have hw14 : Below w.heap.size w w14 := below_via hb hw10
    clear hb hw10 HL10
    go_wp2_with fail
    refine (HA.out _ hw14).mono ?_
    rintro e w16 ⟨rfl, hb⟩
    have hw16 := below_via hb hw14
    clear hb hw14
    go_wp2_with fail
    go_ret
    exact ⟨rfl, hw16⟩
end Go.Proofs.YtpbcomdlboiddaaDoor
