
/- BitsSpans: for all lists of rows and columns. -/
import Derived.Test.YtpbcomdlboiddaaDoorIb
import Derived.Test.YtpbcomdlboiddaaDoorIj
import Derived.Test.YtpbcomdlboiddaaDoorBh
import Derived.Test.YtpbcomdlboiddaaDoorIs
set_option linter.all false
set_option maxRecDepth 100000
namespace Go.Proofs.YtpbcomdlboiddaaDoor
open Go.RowKit

theorem reduce_len (xs : List Int) (n : Int) : (ReduceM xs n).length ≤ 24 := by
  unfold ReduceM
  split
  · rename_i hc
    have R := right_of hc
    exact reducedM_len (spanned_ok R.r24 (by have := R.len; omega)).1
  · exact Nat.zero_le _
theorem null_len (xs : List Int) (n : Int) : (NullM xs n).length ≤ 1000 := by
  unfold NullM
  split
  · rename_i hc
    have R := right_of hc
    have := nullM_len R.len R.h16
    have := R.h16
    omega
  · exact Nat.zero_le _
theorem free_len (xs : List Int) (n : Int) : (FreeM xs n).length ≤ 16 := by
  unfold FreeM
  split
  · rename_i hc
    have := (right_of hc).h16
    unfold freeM
    exact Nat.le_trans (List.length_filter_le _ _) (by simp; omega)
  · exact Nat.zero_le _
set_option maxHeartbeats 8000000 in
theorem BitsSpans_any (xs : List Int) (n : Int) (p : Option Addr) (ca : Nat) (w : World) (h : Ints w p xs) (hp : p = none → ca = 0) (hT : Tabbed w) :
    Calls Tryd.prog 3 #[.slice p xs.length ca, .int .i64 n] w (Gives (.bool true) w) := by
  have HT := Lib.hid hT
  have HG1 := Lib.hid (fun w' => bt_great xs p ca w')
  have HA : Hid (∀ w', Below w.heap.size w w' → Calls Tryd.prog 17 #[] w' (Gives (.bool true) w')) := fun w' hb => bt_awake w' (HT.out.below hb)
  have HL : Hid (Has w [(p, xs)]) := Has.cons (fun _ h => by cases h) h
  clear h hT
  by_cases h1 : 40 < xs.length
  · rw [decide_eq_true h1] at HG1
    clear h1
    go_enter Tryd.func3, Tryd.ntmps3
    go_wp2_with fail
    refine (HG1.out _).mono ?_
    rintro e w1 ⟨rfl, hb1⟩
    go_wp2_with fail
    refine (HA.out _ hb1).mono ?_
    rintro e w3 ⟨rfl, hb3⟩
    have hw3 := below_via hb3 hb1
    clear hb3 hb1
    go_wp2_with fail
    go_ret
    exact ⟨rfl, hw3⟩
  · rw [decide_eq_false h1] at HG1
    have hxl : xs.length ≤ 40 := by omega
    clear h1
    have HP := Lib.hid hp
    have hl1 := reduce_len xs n
    have hl2 := free_len xs n
    have hl3 := null_len xs n
    clear hp
    have HM0 : Hid (∀ (pa : Option Addr) (c : Nat) w', Ints w' pa xs → (((pa = none → c = 0) → Calls Tryd.prog 19 #[.slice pa xs.length c, .int .i64 n] w' (Gives (.tuple #[.int .i64 ((ReduceM xs n).length : Int), .int .i64 (checkM xs n)]) w')) ∧ Calls Tryd.prog 23 #[.slice pa xs.length c, .int .i64 n] w' (Gives (.tuple #[.int .i64 ((ReduceM xs n).length : Int), .int .i64 (checkM xs n)]) w'))) := fun pa c w' h1 => ⟨fun hc => rf_Rank xs n pa c w' h1 hc (by omega), bt_Rank xs n pa c w' h1 (by omega)⟩
    have HM1 : Hid (∀ (pa : Option Addr) (c : Nat) w', Ints w' pa xs → (((pa = none → c = 0) → Calls Tryd.prog 20 #[.slice pa xs.length c, .int .i64 n] w' (ListE (ReduceM xs n) (checkM xs n) w')) ∧ Calls Tryd.prog 24 #[.slice pa xs.length c, .int .i64 n] w' (ListE (ReduceM xs n) (checkM xs n) w'))) := fun pa c w' h1 => ⟨fun hc => rf_Reduce xs n pa c w' h1 hc (by omega), bt_Reduce xs n pa c w' h1 (by omega)⟩
    have HM2 : Hid (∀ (pa : Option Addr) (c : Nat) w', Ints w' pa xs → (((pa = none → c = 0) → Calls Tryd.prog 21 #[.slice pa xs.length c, .int .i64 n] w' (ListE (FreeM xs n) (checkM xs n) w')) ∧ Calls Tryd.prog 25 #[.slice pa xs.length c, .int .i64 n] w' (ListE (FreeM xs n) (checkM xs n) w'))) := fun pa c w' h1 => ⟨fun hc => rf_Free xs n pa c w' h1 hc (by omega), bt_Free xs n pa c w' h1 (by omega)⟩
    have HM3 : Hid (∀ (pa : Option Addr) (c : Nat) w', Ints w' pa xs → (((pa = none → c = 0) → Calls Tryd.prog 22 #[.slice pa xs.length c, .int .i64 n] w' (ListE (NullM xs n) (checkM xs n) w')) ∧ Calls Tryd.prog 26 #[.slice pa xs.length c, .int .i64 n] w' (ListE (NullM xs n) (checkM xs n) w'))) := fun pa c w' h1 => ⟨fun hc => rf_Null xs n pa c w' h1 hc (by omega), bt_Null xs n pa c w' h1 (by omega)⟩
    have HM4 : Hid (∀ (pa : Option Addr) (c : Nat) w', Ints w' pa xs → (((pa = none → c = 0) → Calls Tryd.prog 28 #[.slice pa xs.length c, .int .i64 n] w' (Gives (.int .i64 (checkM xs n)) w')) ∧ Calls Tryd.prog 27 #[.slice pa xs.length c, .int .i64 n] w' (Gives (.int .i64 (checkM xs n)) w'))) := fun pa c w' h1 => ⟨fun hc => rf_Check xs n pa c w' h1 (by omega), bt_Check xs n pa c w' h1 (by omega)⟩
    generalize ReduceM xs n = z1 at *
    generalize FreeM xs n = z2 at *
    generalize NullM xs n = z3 at *
    generalize checkM xs n = e0 at *
    go_enter Tryd.func3, Tryd.ntmps3
    go_wp2_with fail
    refine (HG1.out _).mono ?_
    rintro e w2 ⟨rfl, hw2⟩
    have HL2 := Lib.hid (HL.out.below hw2)
    clear HL HG1
    go_wp2_with fail
    refine (bt_Clone xs p ca _ (HL2.out.get (by simp)) (by omega)).mono ?_
    rintro e w3 ⟨vc, rfl, hm, hb⟩
    obtain ⟨pc, cc, rfl, hi⟩ := hm.ints
    have hw3 : Below w.heap.size w w3 := below_via hb hw2
    have HL3 := Lib.hid ((HL2.out.below hb).cons hi)
    clear hm hb hi hw2 HL2
    go_wp2_with fail
    refine ((HM0.out p ca _ (HL3.out.get (by simp))).1 HP.out).mono ?_
    rintro e w4 ⟨rfl, hb⟩
    have hw4 : Below w.heap.size w w4 := below_via hb hw3
    have HL4 := Lib.hid (HL3.out.below hb)
    clear hb hw3 HL3
    go_wp2_with fail
    refine ((HM1.out p ca _ (HL4.out.get (by simp))).1 HP.out).mono ?_
    rintro e w5 ⟨va, rfl, hb, hm⟩
    obtain ⟨pr1, cr1, rfl, hi⟩ := hm.ints
    have hw5 : Below w.heap.size w w5 := below_via hb hw4
    have HL5 := Lib.hid ((HL4.out.below hb).cons hi)
    rw [casts_len]
    clear hb hm hi hw4 HL4
    go_wp2_with fail
    refine ((HM2.out p ca _ (HL5.out.get (by simp))).1 HP.out).mono ?_
    rintro e w6 ⟨va, rfl, hb, hm⟩
    obtain ⟨pr2, cr2, rfl, hi⟩ := hm.ints
    have hw6 : Below w.heap.size w w6 := below_via hb hw5
    have HL6 := Lib.hid ((HL5.out.below hb).cons hi)
    rw [casts_len]
    clear hb hm hi hw5 HL5
    go_wp2_with fail
    refine ((HM3.out p ca _ (HL6.out.get (by simp))).1 HP.out).mono ?_
    rintro e w7 ⟨va, rfl, hb, hm⟩
    obtain ⟨pr3, cr3, rfl, hi⟩ := hm.ints
    have hw7 : Below w.heap.size w w7 := below_via hb hw6
    have HL7 := Lib.hid ((HL6.out.below hb).cons hi)
    rw [casts_len]
    clear hb hm hi hw6 HL6
    go_wp2_with fail
    refine ((HM0.out pc cc _ (HL7.out.get (by simp))).2).mono ?_
    rintro e w8 ⟨rfl, hb⟩
    have hw8 : Below w.heap.size w w8 := below_via hb hw7
    have HL8 := Lib.hid (HL7.out.below hb)
    clear hb hw7 HL7
    go_wp2_with fail
    refine ((HM1.out pc cc _ (HL8.out.get (by simp))).2).mono ?_
    rintro e w9 ⟨v1, rfl, hb, hm⟩
    have hz9 := hb.size
    have HL9 := Lib.hid (HL8.out.below hb)
    have HB9 : Hid (Below w8.heap.size w8 w9) := hb
    have HO1_9 := Lib.hid hm
    clear hb hm
    go_wp2_with fail
    refine ((HM2.out pc cc _ (HL9.out.get (by simp))).2).mono ?_
    rintro e w10 ⟨v2, rfl, hb, hm⟩
    have hz10 := hb.size
    have HL10 := Lib.hid (HL9.out.below hb)
    have HB10 : Hid (Below w8.heap.size w8 w10) := below_via hb HB9.out
    have HO1_10 := Lib.hid (HO1_9.out.call hb)
    have HO2_10 := Lib.hid hm
    clear hb hm HB9 HL9
    go_wp2_with fail
    refine ((HM3.out pc cc _ (HL10.out.get (by simp))).2).mono ?_
    rintro e w11 ⟨v3, rfl, hb, hm⟩
    have hz11 := hb.size
    have HL11 := Lib.hid (HL10.out.below hb)
    have HB11 : Hid (Below w8.heap.size w8 w11) := below_via hb HB10.out
    have HO1_11 := Lib.hid (HO1_10.out.call hb)
    have HO2_11 := Lib.hid (HO2_10.out.call hb)
    have HO3_11 := Lib.hid hm
    clear hb hm HB10 HL10
    have hu12 : Under v1 w9.heap.size := HO1_9.out.under (by omega)
    have hu13 : Under v1 w10.heap.size := HO1_9.out.under (by omega)
    have hu23 : Under v2 w10.heap.size := HO2_10.out.under (by omega)
    clear HO1_9 HO1_10 HO2_10 HM0 HM1 HM2 HM3
    go_wp2_with fail
    refine ((HM4.out pc cc _ (HL11.out.get (by simp))).2).mono ?_
    rintro e w12 ⟨rfl, hb⟩
    have hz12 := hb.size
    have HL12 := Lib.hid (HL11.out.below hb)
    have HB12 : Hid (Below w8.heap.size w8 w12) := below_via hb HB11.out
    have HO1_12 := Lib.hid (HO1_11.out.call hb)
    have HO2_12 := Lib.hid (HO2_11.out.call hb)
    have HO3_12 := Lib.hid (HO3_11.out.call hb)
    clear hb HB11 HL11 HO1_11 HO2_11 HO3_11
    go_wp2_with fail
    refine ((HM4.out p ca _ (HL12.out.get (by simp))).1 HP.out).mono ?_
    rintro e w13 ⟨rfl, hb⟩
    have hz13 := hb.size
    have HL13 := Lib.hid (HL12.out.below hb)
    have HB13 : Hid (Below w8.heap.size w8 w13) := below_via hb HB12.out
    have HO1_13 := Lib.hid (HO1_12.out.call hb)
    have HO2_13 := Lib.hid (HO2_12.out.call hb)
    have HO3_13 := Lib.hid (HO3_12.out.call hb)
    clear hb HB12 HL12 HO1_12 HO2_12 HO3_12
    clear HM4 HL13
    go_wp2_with fail
    refine (bt_tolds_self v1 z1 w8.heap.size e0 w13 HO1_13.out pr1 cr1 ((HL8.out.below HB13.out).get (by simp)) (by omega) (by have := HB13.out.size; omega)).mono ?_
    rintro e w14 ⟨rfl, hk, hk2⟩
    have hz14 : w13.heap.size ≤ w14.heap.size := (hk 0 w13 (Below.refl 0 _) (Nat.zero_le _)).size
    have HB14 : Hid (Below w8.heap.size w8 w14) := hk _ _ HB13.out (by omega)
    have HO2_14 := Lib.hid (hk2 _ _ _ hu12 HO2_13.out)
    have HO3_14 := Lib.hid (hk2 _ _ _ hu13 HO3_13.out)
    clear hk hk2 HB13 HO1_13 HO2_13 HO3_13 hu12 hu13
    go_wp2_with fail
    refine (bt_tolds_self v2 z2 w9.heap.size e0 w14 HO2_14.out pr2 cr2 ((HL8.out.below HB14.out).get (by simp)) (by omega) (by have := HB14.out.size; omega)).mono ?_
    rintro e w15 ⟨rfl, hk, hk2⟩
    have hz15 : w14.heap.size ≤ w15.heap.size := (hk 0 w14 (Below.refl 0 _) (Nat.zero_le _)).size
    have HB15 : Hid (Below w8.heap.size w8 w15) := hk _ _ HB14.out (by omega)
    have HO3_15 := Lib.hid (hk2 _ _ _ hu23 HO3_14.out)
    clear hk hk2 HB14 HO2_14 HO3_14 hu23
    go_wp2_with fail
    refine (bt_tolds_self v3 z3 w10.heap.size e0 w15 HO3_15.out pr3 cr3 ((HL8.out.below HB15.out).get (by simp)) (by omega) (by have := HB15.out.size; omega)).mono ?_
    rintro e w16 ⟨rfl, hk, hk2⟩
    have hz16 : w15.heap.size ≤ w16.heap.size := (hk 0 w15 (Below.refl 0 _) (Nat.zero_le _)).size
    have HB16 : Hid (Below w8.heap.size w8 w16) := hk _ _ HB15.out (by omega)
    clear hk hk2 HB15 HO3_15 
    have hw16 : Below w.heap.size w w16 := below_via HB16.out hw8
    have HL16 := Lib.hid (HL8.out.below HB16.out)
    clear HL8 HB16 hw8
    go_wp2_with fail
    refine (bt_Equal_self xs pc p cc ca _ (HL16.out.get (by simp)) (HL16.out.get (by simp)) (by omega)).mono ?_
    rintro e w17 ⟨rfl, hb⟩
    have hw17 : Below w.heap.size w w17 := below_via hb hw16
    clear hb hw16 HL16
    go_wp2_with fail
    refine (HA.out _ hw17).mono ?_
    rintro e w19 ⟨rfl, hb⟩
    have hw19 := below_via hb hw17
    clear hb hw17
    go_wp2_with fail
    go_ret
    exact ⟨rfl, hw19⟩
end Go.Proofs.YtpbcomdlboiddaaDoor
