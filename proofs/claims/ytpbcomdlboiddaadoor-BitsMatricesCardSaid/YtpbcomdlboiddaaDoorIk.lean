
/- BitsMatrices: for all lists of rows and columns. -/
import Derived.Test.YtpbcomdlboiddaaDoorIj
import Derived.Test.YtpbcomdlboiddaaDoorIb
import Derived.Test.YtpbcomdlboiddaaDoorIi
set_option linter.all false
set_option maxRecDepth 100000
namespace Go.Proofs.YtpbcomdlboiddaaDoor
open Go.RowKit

theorem mul_len (xs : List Int) (m : Int) (ys : List Int) (n : Int) : (MulM xs m ys n).1.length ≤ xs.length := by
  unfold MulM
  split
  · split
    · split
      · show ((nats xs).map _).length ≤ _
        rw [List.length_map, nats_len]; exact Nat.le_refl _
      · exact Nat.zero_le _
    · exact Nat.zero_le _
  · exact Nat.zero_le _
theorem transpose_len (xs : List Int) (n : Int) : (TransposeM xs n).1.length ≤ 16 := by
  unfold TransposeM
  split
  · rename_i hc
    split
    · show (transposedM _ _).length ≤ 16
      rw [trans_len]; exact (right_of hc).h16
    · exact Nat.zero_le _
  · exact Nat.zero_le _
theorem invert_len (xs : List Int) (n : Int) : (InvertM xs n).1.length ≤ 16 := by
  unfold InvertM
  split
  · rename_i hc
    split
    · split
      · show ((List.range n.toNat).map _).length ≤ 16
        rw [List.length_map, List.length_range]; exact (right_of hc).h16
      · exact Nat.zero_le _
    · exact Nat.zero_le _
  · exact Nat.zero_le _
theorem identity_len (n : Int) : (IdentityM n).1.length ≤ 16 := by
  unfold IdentityM
  split
  · exact Nat.zero_le _
  · show ((List.range n.toNat).map _).length ≤ 16
    rw [List.length_map, List.length_range]; omega
set_option maxHeartbeats 8000000 in
theorem BitsMatrices_any (xs : List Int) (m : Int) (ys : List Int) (n : Int) (p q : Option Addr) (ca cb : Nat) (w : World) (h : Ints w p xs) (hy : Ints w q ys) (hp : p = none → ca = 0) (hq : q = none → cb = 0) (hT : Tabbed w) :
    Calls Tryd.prog 6 #[.slice p xs.length ca, .int .i64 m, .slice q ys.length cb, .int .i64 n] w (Gives (.bool true) w) := by
  have HT := Lib.hid hT
  have HG1 := Lib.hid (fun w' => bt_great xs p ca w')
  have HG2 := Lib.hid (fun w' => bt_great ys q cb w')
  have HA : Hid (∀ w', Below w.heap.size w w' → Calls Tryd.prog 17 #[] w' (Gives (.bool true) w')) := fun w' hb => bt_awake w' (HT.out.below hb)
  have HL : Hid (Has w [(p, xs), (q, ys)]) := Has.cons (Has.cons (fun _ h => by cases h) hy) h
  clear h hy hT
  by_cases h1 : 40 < xs.length
  · rw [decide_eq_true h1] at HG1
    clear h1
    go_enter Tryd.func6, Tryd.ntmps6
    go_wp2_with fail
    refine (HG1.out _).mono ?_
    rintro e w1 ⟨rfl, hb1⟩
    go_wp2_with fail
    refine (HA.out _ hb1).mono ?_
    rintro e w3 ⟨rfl, hb3⟩
    have hw3 := below_via hb3 hb1
    clear hb3 hb1
    go_wp2_with fail
    go_ret
    exact ⟨rfl, hw3⟩
  · rw [decide_eq_false h1] at HG1
    by_cases h2 : 40 < ys.length
    · rw [decide_eq_true h2] at HG2
      clear h2
      go_enter Tryd.func6, Tryd.ntmps6
      go_wp2_with fail
      refine (HG1.out _).mono ?_
      rintro e w1 ⟨rfl, hb1⟩
      go_wp2_with fail
      refine (HG2.out _).mono ?_
      rintro e w2 ⟨rfl, hb2⟩
      have hw2 := below_via hb2 hb1
      clear hb2 hb1
      go_wp2_with fail
      refine (HA.out _ hw2).mono ?_
      rintro e w3 ⟨rfl, hb3⟩
      have hw3 := below_via hb3 hw2
      clear hb3 hw2
      go_wp2_with fail
      go_ret
      exact ⟨rfl, hw3⟩
    · rw [decide_eq_false h2] at HG2
      have hxl : xs.length ≤ 40 := by omega
      have hyl : ys.length ≤ 40 := by omega
      clear h1 h2
      have HP := Lib.hid hp
      have HQ := Lib.hid hq
      have hl1 := Nat.le_trans (mul_len xs m ys n) hxl
      have hl2 := transpose_len xs m
      have hl3 := invert_len xs m
      have hl4 := identity_len m
      clear hp hq
      have HM1 : Hid (∀ (pa pb : Option Addr) (c d : Nat) w', Ints w' pa xs → Ints w' pb ys → Calls Tryd.prog 43 #[.slice pa xs.length c, .int .i64 m, .slice pb ys.length d, .int .i64 n] w' (ListE (MulM xs m ys n).1 (MulM xs m ys n).2 w') ∧ Calls Tryd.prog 47 #[.slice pa xs.length c, .int .i64 m, .slice pb ys.length d, .int .i64 n] w' (ListE (MulM xs m ys n).1 (MulM xs m ys n).2 w')) := fun pa pb c d w' h1 h2 => ⟨rf_Mul xs m ys n pa pb c d w' h1 h2 (by omega) (by omega), bt_Mul xs m ys n pa pb c d w' h1 h2 (by omega) (by omega)⟩
      have HM2 : Hid (∀ (pa : Option Addr) (c : Nat) w', Ints w' pa xs → Calls Tryd.prog 44 #[.slice pa xs.length c, .int .i64 m] w' (ListE (TransposeM xs m).1 (TransposeM xs m).2 w') ∧ Calls Tryd.prog 48 #[.slice pa xs.length c, .int .i64 m] w' (ListE (TransposeM xs m).1 (TransposeM xs m).2 w')) := fun pa c w' h1 => ⟨rf_Transpose xs m pa c w' h1 (by omega), bt_Transpose xs m pa c w' h1 (by omega)⟩
      have HM3 : Hid (∀ (pa : Option Addr) (c : Nat) w', Ints w' pa xs → (((pa = none → c = 0) → Calls Tryd.prog 45 #[.slice pa xs.length c, .int .i64 m] w' (ListE (InvertM xs m).1 (InvertM xs m).2 w')) ∧ Calls Tryd.prog 49 #[.slice pa xs.length c, .int .i64 m] w' (ListE (InvertM xs m).1 (InvertM xs m).2 w'))) := fun pa c w' h1 => ⟨fun hc => rf_Invert xs m pa c w' h1 hc (by omega), bt_Invert xs m pa c w' h1 (by omega)⟩
      have HM4 : Hid (∀ w', Calls Tryd.prog 46 #[.int .i64 m] w' (ListE (IdentityM m).1 (IdentityM m).2 w') ∧ Calls Tryd.prog 50 #[.int .i64 m] w' (ListE (IdentityM m).1 (IdentityM m).2 w')) := fun w' => ⟨rf_Identity m w', bt_Identity m w'⟩
      generalize (MulM xs m ys n).1 = z1 at *
      generalize (MulM xs m ys n).2 = e1 at *
      generalize (TransposeM xs m).1 = z2 at *
      generalize (TransposeM xs m).2 = e2 at *
      generalize (InvertM xs m).1 = z3 at *
      generalize (InvertM xs m).2 = e3 at *
      generalize (IdentityM m).1 = z4 at *
      generalize (IdentityM m).2 = e4 at *
      go_enter Tryd.func6, Tryd.ntmps6
      go_wp2_with fail
      refine (HG1.out _).mono ?_
      rintro e w1 ⟨rfl, hb1⟩
      go_wp2_with fail
      refine (HG2.out _).mono ?_
      rintro e w2 ⟨rfl, hb2⟩
      have hw2 := below_via hb2 hb1
      have HL2 := Lib.hid (HL.out.below hw2)
      clear hb2 hb1 HL HG1 HG2
      go_wp2_with fail
      refine (bt_Clone xs p ca _ (HL2.out.get (by simp)) (by omega)).mono ?_
      rintro e w3 ⟨vc, rfl, hm, hb⟩
      obtain ⟨pc, cc, rfl, hi⟩ := hm.ints
      have hw3 : Below w.heap.size w w3 := below_via hb hw2
      have HL3 := Lib.hid ((HL2.out.below hb).cons hi)
      clear hm hb hi hw2 HL2
      go_wp2_with fail
      refine (bt_Clone ys q cb _ (HL3.out.get (by simp)) (by omega)).mono ?_
      rintro e w4 ⟨vd, rfl, hm, hb⟩
      obtain ⟨pd, cd, rfl, hi⟩ := hm.ints
      have hw4 : Below w.heap.size w w4 := below_via hb hw3
      have HL4 := Lib.hid ((HL3.out.below hb).cons hi)
      clear hm hb hi hw3 HL3
      go_wp2_with fail
      refine ((HM1.out p q ca cb _ (HL4.out.get (by simp)) (HL4.out.get (by simp))).1).mono ?_
      rintro e w5 ⟨va, rfl, hb, hm⟩
      obtain ⟨pr1, cr1, rfl, hi⟩ := hm.ints
      have hw5 : Below w.heap.size w w5 := below_via hb hw4
      have HL5 := Lib.hid ((HL4.out.below hb).cons hi)
      rw [casts_len]
      clear hb hm hi hw4 HL4
      go_wp2_with fail
      refine ((HM2.out p ca _ (HL5.out.get (by simp))).1).mono ?_
      rintro e w6 ⟨va, rfl, hb, hm⟩
      obtain ⟨pr2, cr2, rfl, hi⟩ := hm.ints
      have hw6 : Below w.heap.size w w6 := below_via hb hw5
      have HL6 := Lib.hid ((HL5.out.below hb).cons hi)
      rw [casts_len]
      clear hb hm hi hw5 HL5
      go_wp2_with fail
      refine ((HM3.out p ca _ (HL6.out.get (by simp))).1 HP.out).mono ?_
      rintro e w7 ⟨va, rfl, hb, hm⟩
      obtain ⟨pr3, cr3, rfl, hi⟩ := hm.ints
      have hw7 : Below w.heap.size w w7 := below_via hb hw6
      have HL7 := Lib.hid ((HL6.out.below hb).cons hi)
      rw [casts_len]
      clear hb hm hi hw6 HL6
      go_wp2_with fail
      refine ((HM4.out _).1).mono ?_
      rintro e w8 ⟨va, rfl, hb, hm⟩
      obtain ⟨pr4, cr4, rfl, hi⟩ := hm.ints
      have hw8 : Below w.heap.size w w8 := below_via hb hw7
      have HL8 := Lib.hid ((HL7.out.below hb).cons hi)
      rw [casts_len]
      clear hb hm hi hw7 HL7
      go_wp2_with fail
      refine ((HM1.out pc pd cc cd _ (HL8.out.get (by simp)) (HL8.out.get (by simp))).2).mono ?_
      rintro e w9 ⟨v1, rfl, hb, hm⟩
      have hz9 := hb.size
      have HB9 : Hid (Below w8.heap.size w8 w9) := hb
      have HL9 := Lib.hid (HL8.out.below hb)
      have HO1_9 := Lib.hid hm
      clear hb hm
      go_wp2_with fail
      refine ((HM2.out pc cc _ (HL9.out.get (by simp))).2).mono ?_
      rintro e w10 ⟨v2, rfl, hb, hm⟩
      have hz10 := hb.size
      have HB10 : Hid (Below w8.heap.size w8 w10) := below_via hb HB9.out
      have HL10 := Lib.hid (HL9.out.below hb)
      have HO1_10 := Lib.hid (HO1_9.out.call hb)
      have HO2_10 := Lib.hid hm
      clear hb hm HB9 HL9 
      go_wp2_with fail
      refine ((HM3.out pc cc _ (HL10.out.get (by simp))).2).mono ?_
      rintro e w11 ⟨v3, rfl, hb, hm⟩
      have hz11 := hb.size
      have HB11 : Hid (Below w8.heap.size w8 w11) := below_via hb HB10.out
      have HL11 := Lib.hid (HL10.out.below hb)
      have HO1_11 := Lib.hid (HO1_10.out.call hb)
      have HO2_11 := Lib.hid (HO2_10.out.call hb)
      have HO3_11 := Lib.hid hm
      clear hb hm HB10 HL10 
      go_wp2_with fail
      refine ((HM4.out _).2).mono ?_
      rintro e w12 ⟨v4, rfl, hb, hm⟩
      have hz12 := hb.size
      have HB12 : Hid (Below w8.heap.size w8 w12) := below_via hb HB11.out
      have HL12 := Lib.hid (HL11.out.below hb)
      have HO1_12 := Lib.hid (HO1_11.out.call hb)
      have HO2_12 := Lib.hid (HO2_11.out.call hb)
      have HO3_12 := Lib.hid (HO3_11.out.call hb)
      have HO4_12 := Lib.hid hm
      clear hb hm HB11 HL11 
      have hu12 : Under v1 w9.heap.size := HO1_9.out.under (by omega)
      have hu13 : Under v1 w10.heap.size := HO1_9.out.under (by omega)
      have hu14 : Under v1 w11.heap.size := HO1_9.out.under (by omega)
      have hu23 : Under v2 w10.heap.size := HO2_10.out.under (by omega)
      have hu24 : Under v2 w11.heap.size := HO2_10.out.under (by omega)
      have hu34 : Under v3 w11.heap.size := HO3_11.out.under (by omega)
      clear HO1_9 HO1_10 HO1_11 HO2_10 HO2_11 HO3_11 HM1 HM2 HM3 HM4
      go_wp2_with fail
      refine (bt_tolds_self v1 z1 w8.heap.size e1 w12 HO1_12.out pr1 cr1 ((HL8.out.below HB12.out).get (by simp)) (by omega) (by have := HB12.out.size; omega)).mono ?_
      rintro e w13 ⟨rfl, hk, hk2⟩
      have hz13 : w12.heap.size ≤ w13.heap.size := (hk 0 w12 (Below.refl 0 _) (Nat.zero_le _)).size
      have HB13 : Hid (Below w8.heap.size w8 w13) := hk _ _ HB12.out (by omega)
      have HO2_13 := Lib.hid (hk2 _ _ _ hu12 HO2_12.out)
      have HO3_13 := Lib.hid (hk2 _ _ _ hu13 HO3_12.out)
      have HO4_13 := Lib.hid (hk2 _ _ _ hu14 HO4_12.out)
      clear hk hk2 HB12 HO1_12 HO2_12 HO3_12 HO4_12 hu12 hu13 hu14
      go_wp2_with fail
      refine (bt_tolds_self v2 z2 w9.heap.size e2 w13 HO2_13.out pr2 cr2 ((HL8.out.below HB13.out).get (by simp)) (by omega) (by have := HB13.out.size; omega)).mono ?_
      rintro e w14 ⟨rfl, hk, hk2⟩
      have hz14 : w13.heap.size ≤ w14.heap.size := (hk 0 w13 (Below.refl 0 _) (Nat.zero_le _)).size
      have HB14 : Hid (Below w8.heap.size w8 w14) := hk _ _ HB13.out (by omega)
      have HO3_14 := Lib.hid (hk2 _ _ _ hu23 HO3_13.out)
      have HO4_14 := Lib.hid (hk2 _ _ _ hu24 HO4_13.out)
      clear hk hk2 HB13 HO2_13 HO3_13 HO4_13 hu23 hu24
      go_wp2_with fail
      refine (bt_tolds_self v3 z3 w10.heap.size e3 w14 HO3_14.out pr3 cr3 ((HL8.out.below HB14.out).get (by simp)) (by omega) (by have := HB14.out.size; omega)).mono ?_
      rintro e w15 ⟨rfl, hk, hk2⟩
      have hz15 : w14.heap.size ≤ w15.heap.size := (hk 0 w14 (Below.refl 0 _) (Nat.zero_le _)).size
      have HB15 : Hid (Below w8.heap.size w8 w15) := hk _ _ HB14.out (by omega)
      have HO4_15 := Lib.hid (hk2 _ _ _ hu34 HO4_14.out)
      clear hk hk2 HB14 HO3_14 HO4_14 hu34
      go_wp2_with fail
      refine (bt_tolds_self v4 z4 w11.heap.size e4 w15 HO4_15.out pr4 cr4 ((HL8.out.below HB15.out).get (by simp)) (by omega) (by have := HB15.out.size; omega)).mono ?_
      rintro e w16 ⟨rfl, hk, hk2⟩
      have hz16 : w15.heap.size ≤ w16.heap.size := (hk 0 w15 (Below.refl 0 _) (Nat.zero_le _)).size
      have HB16 : Hid (Below w8.heap.size w8 w16) := hk _ _ HB15.out (by omega)
      clear hk hk2 HB15 HO4_15 
      have hw16 : Below w.heap.size w w16 := below_via HB16.out hw8
      have HL16 := Lib.hid (HL8.out.below HB16.out)
      clear HL8 HB16 hw8
      go_wp2_with fail
      refine (bt_Equal_self xs pc p cc ca _ (HL16.out.get (by simp)) (HL16.out.get (by simp)) (by omega)).mono ?_
      rintro e w17 ⟨rfl, hb⟩
      have hw17 : Below w.heap.size w w17 := below_via hb hw16
      have HL17 := Lib.hid (HL16.out.below hb)
      clear hb hw16 HL16
      go_wp2_with fail
      refine (bt_Equal_self ys pd q cd cb _ (HL17.out.get (by simp)) (HL17.out.get (by simp)) (by omega)).mono ?_
      rintro e w18 ⟨rfl, hb⟩
      have hw18 : Below w.heap.size w w18 := below_via hb hw17
      clear hb hw17 HL17
      go_wp2_with fail
      refine (HA.out _ hw18).mono ?_
      rintro e w19 ⟨rfl, hb⟩
      have hw19 := below_via hb hw18
      clear hb hw18
      go_wp2_with fail
      go_ret
      exact ⟨rfl, hw19⟩
end Go.Proofs.YtpbcomdlboiddaaDoor
